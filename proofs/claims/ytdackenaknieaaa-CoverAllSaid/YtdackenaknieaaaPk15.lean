/- CoverAll answers true, and changes nothing that was there. Conditions: none. -/
import Derived.Test.YtdackenaknieaaaPk14
import Derived.Test.YtdackenaknieaaaPk07
import Derived.Test.YtdackenaknieaaaPk11
import Derived.Test.YtdackenaknieaaaPk13
import Derived.Test.YtdackenaknieaaaPk06

namespace Go.Proofs.Ytdackenaknieaaa.Covers
open Go.RowKit Go.WideShapes Stamp Go.Proofs.Ytdackenaknieaaa.Place Ops Codes Bags Marks Homes
attribute [local go_sem ↓] Go.wp_at_zero Go.wp_at_succ
attribute [local go_sem] yielded_undef

theorem filter_snoc_len {P : Opn → Bool} {l : List Opn} {j : Nat} (h : j < l.length) : ((l.take (j + 1)).filter P).length = ((l.take j).filter P).length + (if P (l[j]'h) = true then 1 else 0) := by
  rw [filter_take h, List.length_append]
  split <;> rfl

set_option maxRecDepth 100000 in
set_option maxHeartbeats 40000000 in
theorem all_walk {l : List Opn} {ao0 : Option Addr} {cap0 : Nat} {w : World} (hr0 : OpL w (.slice ao0 l.length cap0) l) :
    Calls Try.prog 3 #[.slice ao0 l.length cap0] w fun e w' => e = .returned (.bool true) ∧ Below w.heap.size w w' := by
  have HV : Hid (∀ W : World, Below w.heap.size w W → OpL W (.slice ao0 l.length cap0) l) := fun W h => hr0.keeps h
  have AV := Lib.hid alive14_any
  have GR : Hid (∀ W : World, Below w.heap.size w W → Calls Try.prog 5 #[.slice ao0 l.length cap0, .int .i64 40] W fun e w' => GrtO l 40 e ∧ W = w') := fun W h => greatO_any (HV.out W h)
  have hgr : ∀ {e : Ending}, GrtO l 40 e → ∃ g, e = .returned (.bool g) ∧ Hid (g = false → l.length ≤ 40) := fun ⟨g, h1, h2⟩ => ⟨g, h1, fun h => by have := (h2 h).1; omega⟩
  have CA : Hid (∀ W : World, Below w.heap.size w W → Calls Try.prog 6 #[.slice ao0 l.length cap0] W (AllI (allL l) (chkL l) W)) := fun W h => hAll_any (HV.out W h)
  have CT : Hid (∀ (x : Opn) (y : Value) (W : World), Calls Try.prog 7 #[opv x y] W fun e w' => e = .returned (.bool (contB x)) ∧ Below W.heap.size W w') := fun x y W => oContent_any W
  have CH : Hid (∀ (W : World) (s : Id), Below w.heap.size w W → Calls Try.prog 8 #[.slice ao0 l.length cap0, .agg #[.int .u32 (s.t : Int), .int .u8 (s.r : Int)]] W (DoneN (homedL l s) (spanE l s) W)) := fun W s h => cHomed_any s (HV.out W h)
  have CC : Hid (∀ (W : World) (s : Id), Below w.heap.size w W → Calls Try.prog 9 #[.slice ao0 l.length cap0, .agg #[.int .u32 (s.t : Int), .int .u8 (s.r : Int)]] W (DoneN (countsL l s) (spanE l s) W)) := fun W s h => cCounts_any s (HV.out W h)
  have CO : Hid (∀ (W : World) (u : Value) (p : List Run), Below w.heap.size w W → Runs W u p → Calls Try.prog 10 #[.slice ao0 l.length cap0, u] W (OneI (homeL l p) (homeE l p) W)) := fun W u p h h2 => hOf_any (HV.out W h) h2
  have FD : Hid (∀ (W : World) (a : Id), Below w.heap.size w W → Calls Try.prog 11 #[.slice ao0 l.length cap0, .agg #[.int .u32 (a.t : Int), .int .u8 (a.r : Int)]] W (FoundN (findL l a) W)) := fun W a h => bFind_any a (HV.out W h)
  have SM : Hid (∀ (W : World) (u v : Value) (x : Opn), Runs W u x.pl → Runs W v x.pl → Calls Try.prog 12 #[opv x u, opv x v] W fun e w' => e = .returned (.bool true) ∧ Below W.heap.size W w') := fun W u v x h h2 => by
    have := oSame_any (a := x) (b := x) h h2
    rwa [(sameB_iff x x).2 rfl] at this
  have hcase : Hid ((chkL l = 8 ∧ allL l = []) ∨ (Bag l ∧ chkL l = 0 ∧ allL l = sectsM (livesM l l))) := by
    by_cases hb : Bag l
    · exact .inr ⟨hb, chkL_yes hb, by unfold allL; rw [(bagB_iff l).2 hb]; rfl⟩
    · exact .inl ⟨chkL_no hb, by unfold allL; rw [bagB_no hb]; rfl⟩
  obtain ⟨V, hV⟩ : ∃ z, livesM l l = z := ⟨_, rfl⟩
  have XAT : Hid (Bag l → ∀ i, i < V.length + 1 → homedL l ((sectsM V).getD i zid) = inL l V ((sectsM V).getD i zid) ∧ countsL l ((sectsM V).getD i zid) = countL l V ((sectsM V).getD i zid) ∧ spanE l ((sectsM V).getD i zid) = 0) := fun hb i hi => by
    rw [← hV] at hi ⊢
    have h0 := sect_where hb hi
    exact ⟨if_pos h0, if_pos h0, h0⟩
  have OAT : Hid (Bag l → ∀ s x, x ∈ inL l V s → homeL l x.pl = s ∧ homeE l x.pl = 0 ∧ findL l (idO x) = some x) := fun hb s x hx => by
    have hm := mem_inL.1 hx
    have hp := anyB_may (mayO_parts (hb.2.1 x hm.1)).2.1
    refine ⟨?_, ?_, ?_⟩
    · unfold homeL; rw [(bagB_iff l).2 hb, hp, hV]; exact hm.2.2
    · unfold homeE; rw [(bagB_iff l).2 hb, hp]; rfl
    · unfold findL; rw [if_pos ((bagB_iff l).2 hb)]; exact find_in hb hx
  have RS : Hid (Bag l → restL l V 0 = l.filter contB ∧ restL l V (V.length + 1) = [] ∧ (∀ j, j < V.length + 1 → (restL l V j).length = (inL l V ((sectsM V).getD j zid)).length + (restL l V (j + 1)).length) ∧ V.length ≤ 1024) := fun hb => by
    rw [← hV]
    exact ⟨rest_zero _ _, rest_end _ _, fun j hj => rest_step (liv_bag hb) hj, (lives_fits hb).1⟩
  rw [hV] at hcase
  obtain ⟨n0, hn0⟩ : ∃ n, n = l.length := ⟨_, rfl⟩
  have HN0 := Lib.hid hn0
  rw [← hn0] at GR CA CH CC CO FD hgr ⊢
  obtain ⟨AL, hAL⟩ : ∃ z, allL l = z := ⟨_, rfl⟩
  obtain ⟨E1, hE1⟩ : ∃ z, chkL l = z := ⟨_, rfl⟩
  rw [hAL, hE1] at CA hcase
  have B0 : Hid (Below w.heap.size w w) := Below.refl _ _
  clear hr0 hn0 hV hAL hE1
  go_enter Try.func3, Try.ntmps3
  go_wp2_with fail
  refine (AV.out _).mono ?_
  rintro e w1 ⟨rfl, b1⟩
  have B1 := Lib.hid b1
  clear b1 B0 AV
  go_wp2_with fail
  refine (GR.out _ B1.out).mono ?_
  rintro e w2 ⟨hg, rfl⟩
  obtain ⟨g, rfl, hg2⟩ := hgr hg
  clear hg hgr GR
  cases g
  rotate_left
  · go_wp2
    go_ret
    exact ⟨rfl, B1.out⟩
  have hn40 : n0 ≤ 40 := hg2.out rfl
  clear hg2
  go_wp2_with fail
  refine (CA.out _ B1.out).mono ?_
  rintro e w3 ⟨lo, lc, rfl, o3, b3⟩
  have B3 := Lib.hid (bt B1.out b3)
  have I3 := Lib.hid (Go.Proofs.Ytdackenaknieaaa.Ids.own o3)
  clear o3 b3 B1 CA
  rcases hcase.out with ⟨rfl, rfl⟩ | ⟨hb, rfl, rfl⟩
  · clear hcase I3 XAT OAT RS CH CC CO FD SM CT HV
    go_wp2
    go_ret
    exact ⟨rfl, B3.out⟩
  have XAT2 := Lib.hid (XAT.out hb)
  have OAT2 := Lib.hid (OAT.out hb)
  obtain ⟨rs0, rs1, rs2, hVl⟩ := RS.out hb
  have RS1 := Lib.hid rs1
  have RS2 := Lib.hid rs2
  have RS0 : Hid (∀ m : Nat, m = (l.filter contB).length → (Value.int .i64 (m : Int)) = .int .i64 (((restL l V 0).length : Nat) : Int)) := fun m h => by rw [rs0, h]
  have I4 : Hid (∀ W : World, Below w3.heap.size w3 W → Ids W (.slice lo (sectsM V).length lc) (sectsM V)) := fun W h => I3.out.keeps h
  have HNS := sectsM_len V
  obtain ⟨L, hL⟩ : ∃ z, z = sectsM V := ⟨_, rfl⟩
  rw [← hL] at I4 XAT2 RS2 HNS ⊢
  obtain ⟨N, hN⟩ : ∃ z, z = L.length := ⟨_, rfl⟩
  rw [← hN] at I4 HNS ⊢
  have hNm : N ≤ 1025 := by omega
  have HNV := Lib.hid HNS
  have HLN := Lib.hid hN
  have Z3 : Hid (Below w3.heap.size w3 w3) := Below.refl _ _
  have hfl : Hid (∀ j, ((l.take j).filter contB).length ≤ 40) := fun j => by
    have h1 := filter_take_len (P := contB) (l := l) j
    rw [← HN0.out] at h1
    omega
  have hrl : Hid (∀ j, (restL l V j).length ≤ 40) := fun j => by
    have h1 : (restL l V j).length ≤ l.length := List.length_filter_le _ _
    rw [← HN0.out] at h1
    omega
  clear hcase hb XAT OAT RS rs0 rs1 rs2 I3 hL hN HNS
  go_wp2
  go_loopw [6, 7] (fun c i wr => ∃ j m : Nat, j ≤ n0 ∧ i = .int .i64 (j : Int) ∧ c = .int .i64 (m : Int) ∧ Hid (m = ((l.take j).filter contB).length) ∧ Hid (Below w3.heap.size w3 wr)) (fun _ i _ => n0 - (intOf i).toNat)
  case atStart => exact ⟨0, 0, by omega, rfl, rfl, rfl, Z3⟩
  case round =>
    clear Z3
    obtain ⟨j, m, hj, rfl, rfl, hm, hbel⟩ := hrel
    by_cases hjn : j < n0
    · have q3 : decide (j < n0) = true := by simpa using hjn
      have q4 : (0 : Int) ≤ (j : Int) := by omega
      have q5 : (j : Int) < (n0 : Int) := by omega
      have hjl : j < l.length := by rw [← HN0.out]; exact hjn
      obtain ⟨bb, oo, u, e, hbb, hru, h0, h1, h2, h3, h4⟩ := opl_at (HV.out wr (bt B3.out hbel.out)) j hjl
      subst e
      obtain ⟨x, hx⟩ : ∃ x, x = l[j]'hjl := ⟨_, rfl⟩
      rw [← hx] at hru h0 h1 h2 h4
      have HO : Hid (∀ v : Value, opv x v = .agg #[.int .u8 (x.k : Int), .int .u32 (x.t : Int), .int .u8 (x.r : Int), v, .int .i64 x.p]) := fun v => rfl
      obtain ⟨uo, uc, rfl⟩ := hru.shape
      obtain ⟨nu, hnu⟩ : ∃ n, n = x.pl.length := ⟨_, rfl⟩
      have HNU := Lib.hid hnu
      rw [← hnu] at hru h3
      clear hnu
      have CX := Lib.hid (CT.out x (.slice uo nu uc) wr)
      have FS := Lib.hid (filter_snoc_len (P := contB) hjl)
      rw [← hx, ← hm.out] at FS
      have hm4 := hfl.out j
      rw [← hm.out] at hm4
      obtain ⟨q, hq⟩ : ∃ q, contB x = q := ⟨_, rfl⟩
      rw [hq] at CX FS
      clear hx hq hru hm
      obtain ⟨k, hk⟩ : ∃ z, x.k = z := ⟨_, rfl⟩
      obtain ⟨t, ht⟩ : ∃ z, x.t = z := ⟨_, rfl⟩
      obtain ⟨r, hr⟩ : ∃ z, x.r = z := ⟨_, rfl⟩
      obtain ⟨p, hp⟩ : ∃ z, x.p = z := ⟨_, rfl⟩
      rw [hk, ht, hr, hp] at HO
      rw [hk] at h0
      rw [ht] at h1
      rw [hr] at h2
      rw [hp] at h4
      simp only [HO.out] at CX
      clear hk ht hr hp HO hbb I4 XAT2 OAT2 RS1 RS2 RS0 CT CH CC CO FD SM HV
      cases q
      · have M2 : Hid (m = ((l.take (j + 1)).filter contB).length) := FS.out.symm
        go_wp2_with fail
        refine CX.out.mono ?_
        rintro e w5 ⟨rfl, b5⟩
        have Z5 := Lib.hid (bt hbel.out b5)
        clear b5 hbel h0 h1 h2 h3 h4 FS CX
        go_wp2
        go_roundw
        case rel => exact ⟨j + 1, m, by omega, by go_num, rfl, M2, Z5⟩
        case measure => simp [intOf]; omega
      have M2 : Hid (m + 1 = ((l.take (j + 1)).filter contB).length) := FS.out.symm
      go_wp2_with fail
      refine CX.out.mono ?_
      rintro e w5 ⟨rfl, b5⟩
      have Z5 := Lib.hid (bt hbel.out b5)
      clear b5 hbel h0 h1 h2 h3 h4 FS CX
      go_wp2
      go_roundw
      case rel => exact ⟨j + 1, m + 1, by omega, by go_num, by go_num, M2, Z5⟩
      case measure => simp [intOf]; omega
    · have q3 : decide (j < n0) = false := by simpa using hjn
      have hkk : l.take j = l := List.take_of_length_le (by have := HN0.out; omega)
      have C0 := Lib.hid (RS0.out m (by rw [hm.out, hkk]))
      rw [C0.out]
      clear hkk hm CT RS0 hfl C0
      go_wp2
      go_loopw [6, 8] (fun c i wq => ∃ j : Nat, j ≤ N ∧ i = .int .i64 (j : Int) ∧ c = .int .i64 (((restL l V j).length : Nat) : Int) ∧ Hid (Below w3.heap.size w3 wq)) (fun _ i _ => N - (intOf i).toNat)
      case atStart => exact ⟨0, by omega, rfl, rfl, hbel⟩
      case round =>
        clear hbel
        obtain ⟨j, hj, rfl, rfl, hbel⟩ := hrel
        have BW := Lib.hid (bt B3.out hbel.out)
        by_cases hjN : j < N
        rotate_left
        · have q3 : decide (j < N) = false := by simpa using hjN
          have hr0 : (restL l V j).length = 0 := by
            have h1 : j = V.length + 1 := by have := HNV.out; omega
            rw [h1, RS1.out]
            rfl
          rw [hr0]
          clear XAT2 OAT2 RS1 RS2 I4 CH CC CO FD SM HV hbel
          go_wp2
          go_ret
          exact ⟨rfl, BW.out⟩
        have q3 : decide (j < N) = true := by simpa using hjN
        have q4 : (0 : Int) ≤ (j : Int) := by omega
        have q5 : (j : Int) < (N : Int) := by omega
        have hjV : j < V.length + 1 := by have := HNV.out; omega
        have hjl : j < L.length := by have := HLN.out; omega
        obtain ⟨bb, oo, e, hbb, h0, h1⟩ := Ids.at (I4.out wr hbel.out) j hjl
        subst e
        obtain ⟨x1, x2, x3⟩ := XAT2.out j hjV
        have RSJ := RS2.out j hjV
        have CHX := CH.out wr (L.getD j zid) BW.out
        have CCX : Hid (∀ W : World, Below w.heap.size w W → Calls Try.prog 9 #[.slice ao0 n0 cap0, .agg #[.int .u32 ((L.getD j zid).t : Int), .int .u8 ((L.getD j zid).r : Int)]] W (DoneN (countsL l (L.getD j zid)) (spanE l (L.getD j zid)) W)) := fun W h => CC.out W (L.getD j zid) h
        rw [x1, x3] at CHX
        rw [x2, x3] at CCX
        have hle := count_le l V (L.getD j zid)
        have hXm : (inL l V (L.getD j zid)).length ≤ 40 := by
          have h1 := (inL_sub l V (L.getD j zid)).length_le
          rw [← HN0.out] at h1
          omega
        have OAJ : Hid (∀ x, x ∈ inL l V (L.getD j zid) → homeL l x.pl = L.getD j zid ∧ homeE l x.pl = 0 ∧ findL l (idO x) = some x) := fun x hx => OAT2.out _ x hx
        obtain ⟨⟨t0, r0, ht0, hr0⟩, hs⟩ : ∃ z, L.getD j zid = z := ⟨_, rfl⟩
        rw [hs] at h0 h1 CHX CCX OAJ RSJ hle hXm
        simp only at h0 h1 CHX CCX
        have ELT : Hid (∀ W : World, Below wr.heap.size wr W → W.cell? ⟨bb, oo + j * 2, none⟩ = some (.int .u32 (t0 : Int)) ∧ W.cell? ⟨bb, oo + j * 2 + 1, none⟩ = some (.int .u8 (r0 : Int))) := fun W h => ⟨(h.cell (p := ⟨bb, oo + j * 2, none⟩) hbb).trans h0, (h.cell (p := ⟨bb, oo + j * 2 + 1, none⟩) hbb).trans h1⟩
        obtain ⟨X, hX⟩ : ∃ X, inL l V ⟨t0, r0, ht0, hr0⟩ = X := ⟨_, rfl⟩
        obtain ⟨Y, hY⟩ : ∃ Y, countL l V ⟨t0, r0, ht0, hr0⟩ = Y := ⟨_, rfl⟩
        rw [hX] at CHX OAJ RSJ hle hXm
        rw [hY] at CCX hle
        have HCX := Lib.hid CHX
        have hrj := hrl.out j
        obtain ⟨ra, hra⟩ : ∃ z, (restL l V j).length = z := ⟨_, rfl⟩
        rw [hra] at RSJ hrj ⊢
        obtain ⟨rb, hrb⟩ : ∃ z, (restL l V (j + 1)).length = z := ⟨_, rfl⟩
        rw [hrb] at RSJ
        have HRB := Lib.hid hrb
        obtain ⟨nx, hnx⟩ : ∃ z, X.length = z := ⟨_, rfl⟩
        obtain ⟨ny, hny⟩ : ∃ z, Y.length = z := ⟨_, rfl⟩
        rw [hnx, hny] at hle
        rw [hnx] at RSJ hXm
        have HRS := Lib.hid RSJ
        have HNX := Lib.hid hnx
        have HNY := Lib.hid hny
        clear RSJ CHX hbb hs x1 x2 x3 hX hY hra hrb hnx hny XAT2 OAT2 RS1 RS2 I4 CH CC
        go_wp2_with fail
        refine HCX.out.mono ?_
        rintro e w5 ⟨vx, rfl, o5, b5⟩
        obtain ⟨ax, cx, rfl⟩ := o5.opl.shape
        have OX := Lib.hid o5.opl
        have B5 := Lib.hid (bt BW.out b5)
        have R5 := Lib.hid b5
        obtain ⟨y0, y1⟩ := ELT.out _ b5
        rw [HNX.out] at OX ⊢
        clear o5 b5 h0 h1 HCX BW
        go_wp2_with fail
        refine (CCX.out _ B5.out).mono ?_
        rintro e w6 ⟨vy, rfl, o6, b6⟩
        obtain ⟨ay, cy, rfl⟩ := o6.opl.shape
        have B6 := Lib.hid (bt B5.out b6)
        have R6 := Lib.hid (bt R5.out b6)
        have OX6 : Hid (∀ W : World, Below w6.heap.size w6 W → OpL W (.slice ax nx cx) X) := fun W h => (OX.out.keeps b6).keeps h
        rw [HNY.out]
        have d1 : decide (nx < ny) = false := decide_eq_false (by omega)
        have d2 : decide ((nx : Int) < (ny : Int)) = false := decide_eq_false (by omega)
        have Z6 : Hid (Below w6.heap.size w6 w6) := Below.refl _ _
        clear o6 b6 y0 y1 CCX B5 R5 OX hle
        go_wp2
        go_loopw [13] (fun i wq => ∃ k : Nat, k ≤ nx ∧ i = .int .i64 (k : Int) ∧ Hid (Below w6.heap.size w6 wq)) (fun i _ => nx - (intOf i).toNat)
        case atStart => exact ⟨0, by omega, rfl, Z6⟩
        case round =>
          clear Z6
          obtain ⟨i, hi, rfl, hbe2⟩ := hrel
          have BW := Lib.hid (bt B6.out hbe2.out)
          have RW := Lib.hid (bt R6.out hbe2.out)
          by_cases hin : i < nx
          rotate_left
          · have q6 : decide (i < nx) = false := by simpa using hin
            have e1 : (ra : Int) - (nx : Int) = (rb : Int) := by have := HRS.out; omega
            have e2 : IntKind.i64.wrap (rb : Int) = (rb : Int) := IntWalk.i64_in _ (by omega)
            have ZB := Lib.hid (bt hbel.out RW.out)
            have HR2 : Hid ((Value.int .i64 (rb : Int)) = .int .i64 (((restL l V (j + 1)).length : Nat) : Int)) := by unfold Hid; rw [HRB.out]
            clear OAJ ELT OX6 CO FD SM HV hbe2 BW RW HRS hrj HRB
            go_wp2
            go_roundw
            case rel => exact ⟨j + 1, by omega, by go_num, HR2.out, ZB⟩
            case measure => simp [intOf]; omega
          have q6 : decide (i < nx) = true := by simpa using hin
          have q7 : (0 : Int) ≤ (i : Int) := by omega
          have q8 : (i : Int) < (nx : Int) := by omega
          have hil : i < X.length := by rw [HNX.out]; exact hin
          obtain ⟨bbx, oox, ux, ex, hbbx, hrux, h0x, h1x, h2x, h3x, h4x⟩ := opl_at (OX6.out wr hbe2.out) i hil
          subst ex
          obtain ⟨xx, hxx⟩ : ∃ x, x = X[i]'hil := ⟨_, rfl⟩
          rw [← hxx] at hrux h0x h1x h2x h4x
          have HOx : Hid (∀ v : Value, opv xx v = .agg #[.int .u8 (xx.k : Int), .int .u32 (xx.t : Int), .int .u8 (xx.r : Int), v, .int .i64 xx.p]) := fun v => rfl
          obtain ⟨uox, ucx, rfl⟩ := hrux.shape
          obtain ⟨nux, hnux⟩ : ∃ n, n = xx.pl.length := ⟨_, rfl⟩
          have HNUx := Lib.hid hnux
          rw [← hnux] at hrux h3x
          clear hnux
          have hxm : xx ∈ X := by rw [hxx]; exact List.getElem_mem _
          obtain ⟨o1, o2, o3⟩ := OAJ.out xx hxm
          have OFX := CO.out wr _ xx.pl BW.out hrux
          rw [o1, o2] at OFX
          have OFX2 := Lib.hid OFX
          have FDX : Hid (∀ W : World, Below w.heap.size w W → Calls Try.prog 11 #[.slice ao0 n0 cap0, .agg #[.int .u32 (xx.t : Int), .int .u8 (xx.r : Int)]] W (FoundN (some xx) W)) := fun W h => by
            have := FD.out W (idO xx) h
            rwa [o3] at this
          have SMX : Hid (∀ (W : World) (u : Value), Below wr.heap.size wr W → Runs W u xx.pl → Calls Try.prog 12 #[opv xx u, opv xx (.slice uox nux ucx)] W fun e w' => e = .returned (.bool true) ∧ Below W.heap.size W w') := fun W u h hu => SM.out W u _ xx hu (hrux.keeps h)
          have HOV : Hid (∀ v : Value, opv xx v = .agg #[.int .u8 (xx.k : Int), .int .u32 (xx.t : Int), .int .u8 (xx.r : Int), v, .int .i64 xx.p]) := fun v => rfl
          clear OFX o1 o2 o3 hxm hxx CO FD SM HV OAJ HOx
          obtain ⟨k, hk⟩ : ∃ z, xx.k = z := ⟨_, rfl⟩
          obtain ⟨t, ht⟩ : ∃ z, xx.t = z := ⟨_, rfl⟩
          obtain ⟨r, hr⟩ : ∃ z, xx.r = z := ⟨_, rfl⟩
          obtain ⟨p, hp⟩ : ∃ z, xx.p = z := ⟨_, rfl⟩
          rw [hk, ht, hr, hp] at HOV
          rw [hk] at h0x
          rw [ht] at h1x
          rw [hr] at h2x
          rw [hp] at h4x
          rw [ht, hr] at FDX
          simp only [HOV.out] at SMX
          have F1 : Hid (FiveAt wr bbx (oox + i * 5) (.int .u8 (k : Int)) (.int .u32 (t : Int)) (.int .u8 (r : Int)) (.slice uox nux ucx) (.int .i64 p)) := ⟨hbbx, h0x, h1x, h2x, h3x, h4x⟩
          clear hrux hbbx
          go_wp2_with fail
          refine OFX2.out.mono ?_
          rintro e w7 ⟨rfl, b7⟩
          have bo := (Below.refl w7.heap.size w7).alloc (Nat.le_refl _) (.cells #[.int .u32 (t0 : Int), .int .u8 (r0 : Int)] 32)
          have P7 := Lib.hid (pair_new w7 (.int .u32 (t0 : Int)) (.int .u8 (r0 : Int)) 32)
          have B7 := Lib.hid (bt (bt BW.out b7) bo)
          have Q7 := Lib.hid (bt b7 bo)
          clear h0x h1x h2x h3x h4x
          obtain ⟨_, z0, z1, z2, z3, z4⟩ := F1.out.keeps Q7.out
          clear b7 bo BW OFX2
          go_wp2_with fail
          refine (FDX.out _ B7.out).mono ?_
          rintro e w8 ⟨vf, rfl, o8, b8⟩
          have RF8 := Lib.hid (Runs.own o8)
          obtain ⟨fo, fc, rfl⟩ := (Runs.own o8).shape
          have HFV := HOV.out (.slice fo xx.pl.length fc)
          rw [Option.getD_some] at o8 RF8 ⊢
          rw [HFV]
          clear z0 z1 z2 z3 z4 HFV FDX
          obtain ⟨nf, hnf⟩ : ∃ z, xx.pl.length = z := ⟨_, rfl⟩
          rw [hnf] at RF8 o8 ⊢
          have bo := (Below.refl w8.heap.size w8).alloc (Nat.le_refl _) (.cells #[.int .u8 (k : Int), .int .u32 (t : Int), .int .u8 (r : Int), .slice fo nf fc, .int .i64 p] 35)
          have P8 := Lib.hid ((P7.out.keeps b8).keeps bo)
          have Q8 := Lib.hid (bt (bt Q7.out b8) bo)
          have G8 : Hid ((w8.alloc (.cells #[.int .u8 (k : Int), .int .u32 (t : Int), .int .u8 (r : Int), .slice fo nf fc, .int .i64 p] 35)).heap[w8.heap.size]? = some (.cells #[.int .u8 (k : Int), .int .u32 (t : Int), .int .u8 (r : Int), .slice fo nf fc, .int .i64 p] 35)) := blk_new rfl
          have RF9 := Lib.hid (RF8.out.keeps bo)
          obtain ⟨wm, hwm⟩ : ∃ x, x = w8.alloc (.cells #[.int .u8 (k : Int), .int .u32 (t : Int), .int .u8 (r : Int), .slice fo nf fc, .int .i64 p] 35) := ⟨_, rfl⟩
          rw [← hwm] at P8 Q8 G8 RF9
          have HWM := Lib.hid hwm
          have SMY : Hid (∀ W : World, Below wm.heap.size wm W → Calls Try.prog 12 #[.agg #[.int .u8 (k : Int), .int .u32 (t : Int), .int .u8 (r : Int), .slice fo nf fc, .int .i64 p], .agg #[.int .u8 (k : Int), .int .u32 (t : Int), .int .u8 (r : Int), .slice uox nux ucx, .int .i64 p]] W fun e w' => e = .returned (.bool true) ∧ Below W.heap.size W w') := fun W h => SMX.out W _ (bt Q8.out h) (RF9.out.keeps h)
          have SK : Hid (∀ w' : World, Below wm.heap.size wm w' → Below wm.heap.size wm w' ∧ w'.cell? ⟨w7.heap.size, 0, none⟩ = some (.int .u32 (t0 : Int)) ∧ w'.cell? ⟨w7.heap.size, 1, none⟩ = some (.int .u8 (r0 : Int)) ∧ w'.cell? ⟨bb, oo + j * 2, none⟩ = some (.int .u32 (t0 : Int)) ∧ w'.cell? ⟨bb, oo + j * 2 + 1, none⟩ = some (.int .u8 (r0 : Int)) ∧ w'.cell? ⟨w8.heap.size, 0, none⟩ = some (.int .u8 (k : Int)) ∧ w'.cell? ⟨w8.heap.size, 1, none⟩ = some (.int .u32 (t : Int)) ∧ w'.cell? ⟨w8.heap.size, 2, none⟩ = some (.int .u8 (r : Int)) ∧ w'.cell? ⟨w8.heap.size, 3, none⟩ = some (.slice fo nf fc) ∧ w'.cell? ⟨w8.heap.size, 4, none⟩ = some (.int .i64 p) ∧ w'.cell? ⟨bbx, oox + i * 5, none⟩ = some (.int .u8 (k : Int)) ∧ w'.cell? ⟨bbx, oox + i * 5 + 1, none⟩ = some (.int .u32 (t : Int)) ∧ w'.cell? ⟨bbx, oox + i * 5 + 2, none⟩ = some (.int .u8 (r : Int)) ∧ w'.cell? ⟨bbx, oox + i * 5 + 3, none⟩ = some (.slice uox nux ucx) ∧ w'.cell? ⟨bbx, oox + i * 5 + 4, none⟩ = some (.int .i64 p)) := fun W h => by
            have a1 := P8.out.keeps h
            have a2 := ELT.out W (bt RW.out (bt Q8.out h))
            have a3 := cells5 (blk_below h G8.out)
            have a4 := (F1.out.keeps (bt Q8.out h)).2
            exact ⟨h, a1.2.1, a1.2.2, a2.1, a2.2, a3.1, a3.2.1, a3.2.2.1, a3.2.2.2.1, a3.2.2.2.2, a4.1, a4.2.1, a4.2.2.1, a4.2.2.2.1, a4.2.2.2.2⟩
          clear hwm bo o8 b8 hk ht hr hp hnf P7 Q7 P8 G8 F1 ELT RF8 RF9 SMX HOV B7
          go_wp2
          rw [← HWM.out]
          refine wp_region_held_drew (S := fun w' => Below wm.heap.size wm w' ∧ w'.cell? ⟨w7.heap.size, 0, none⟩ = some (.int .u32 (t0 : Int)) ∧ w'.cell? ⟨w7.heap.size, 1, none⟩ = some (.int .u8 (r0 : Int)) ∧ w'.cell? ⟨bb, oo + j * 2, none⟩ = some (.int .u32 (t0 : Int)) ∧ w'.cell? ⟨bb, oo + j * 2 + 1, none⟩ = some (.int .u8 (r0 : Int)) ∧ w'.cell? ⟨w8.heap.size, 0, none⟩ = some (.int .u8 (k : Int)) ∧ w'.cell? ⟨w8.heap.size, 1, none⟩ = some (.int .u32 (t : Int)) ∧ w'.cell? ⟨w8.heap.size, 2, none⟩ = some (.int .u8 (r : Int)) ∧ w'.cell? ⟨w8.heap.size, 3, none⟩ = some (.slice fo nf fc) ∧ w'.cell? ⟨w8.heap.size, 4, none⟩ = some (.int .i64 p) ∧ w'.cell? ⟨bbx, oox + i * 5, none⟩ = some (.int .u8 (k : Int)) ∧ w'.cell? ⟨bbx, oox + i * 5 + 1, none⟩ = some (.int .u32 (t : Int)) ∧ w'.cell? ⟨bbx, oox + i * 5 + 2, none⟩ = some (.int .u8 (r : Int)) ∧ w'.cell? ⟨bbx, oox + i * 5 + 3, none⟩ = some (.slice uox nux ucx) ∧ w'.cell? ⟨bbx, oox + i * 5 + 4, none⟩ = some (.int .i64 p)) (by kernel_rfl) (SK.out _ (drew1 _)) (fun hHeld => ?_)
          refine wpAnyH_take (i := 0) (v := ?va0) rfl (by kernel_rfl) (by kernel_rfl) (by kernel_rfl) (fun _ _ _ h => h) (Or.inl ⟨by rfl, ?ya0⟩) (by assumption) ?_
          case ya0 => intro w hSw; (try dsimp only at hSw); go_simp <;> with_reducible rfl
          try simp only [List.getElem_toArray, List.getElem_cons_zero, Act.put, List.setIfInBounds_toArray, List.set_cons_zero, List.set_cons_succ]
          refine wpAnyH_take (i := 1) (v := ?va1) rfl (by kernel_rfl) (by kernel_rfl) (by kernel_rfl) (fun _ _ _ h => h) (Or.inl ⟨by rfl, ?ya1⟩) (by assumption) ?_
          case ya1 => intro w hSw; (try dsimp only at hSw); go_simp <;> with_reducible rfl
          try simp only [List.getElem_toArray, List.getElem_cons_succ, List.getElem_cons_zero, Act.put, List.setIfInBounds_toArray, List.set_cons_zero, List.set_cons_succ]
          refine wpAnyH_take (i := 2) (v := ?va2) rfl (by kernel_rfl) (by kernel_rfl) (by kernel_rfl) (fun _ _ _ h => h) (Or.inl ⟨by rfl, ?ya2⟩) (by assumption) ?_
          case ya2 => intro w hSw; (try dsimp only at hSw); go_simp <;> with_reducible rfl
          try simp only [List.getElem_toArray, List.getElem_cons_succ, List.getElem_cons_zero, Act.put, List.setIfInBounds_toArray, List.set_cons_zero, List.set_cons_succ]
          refine wpAnyH_take (i := 3) (v := ?va3) rfl (by kernel_rfl) (by kernel_rfl) (by kernel_rfl) (fun _ _ _ h => h) (Or.inl ⟨by rfl, ?ya3⟩) (by assumption) ?_
          case ya3 => intro w hSw; (try dsimp only at hSw); go_simp <;> with_reducible rfl
          try simp only [List.getElem_toArray, List.getElem_cons_succ, List.getElem_cons_zero, Act.put, List.setIfInBounds_toArray, List.set_cons_zero, List.set_cons_succ]
          refine wpAnyH_take (i := 4) (v := ?va4) rfl (by kernel_rfl) (by kernel_rfl) (by kernel_rfl) (fun _ _ _ h => h) (Or.inl ⟨by rfl, ?ya4⟩) (by assumption) ?_
          case ya4 => intro w hSw; (try dsimp only at hSw); go_simp <;> with_reducible rfl
          try simp only [List.getElem_toArray, List.getElem_cons_succ, List.getElem_cons_zero, Act.put, List.setIfInBounds_toArray, List.set_cons_zero, List.set_cons_succ]
          refine wpAnyH_take (i := 5) (v := ?va5) rfl (by kernel_rfl) (by kernel_rfl) (by kernel_rfl) (fun _ _ _ h => h) (Or.inl ⟨by rfl, ?ya5⟩) (by assumption) ?_
          case ya5 => intro w hSw; (try dsimp only at hSw); go_simp <;> with_reducible rfl
          try simp only [List.getElem_toArray, List.getElem_cons_succ, List.getElem_cons_zero, Act.put, List.setIfInBounds_toArray, List.set_cons_zero, List.set_cons_succ]
          refine wpAnyH_take (i := 6) (v := ?va6) rfl (by kernel_rfl) (by kernel_rfl) (by kernel_rfl) (fun _ _ _ h => h) (Or.inl ⟨by rfl, ?ya6⟩) (by assumption) ?_
          case ya6 => intro w hSw; (try dsimp only at hSw); go_simp <;> with_reducible rfl
          try simp only [List.getElem_toArray, List.getElem_cons_succ, List.getElem_cons_zero, Act.put, List.setIfInBounds_toArray, List.set_cons_zero, List.set_cons_succ]
          refine wpAnyH_take (i := 7) (v := ?va7) rfl (by kernel_rfl) (by kernel_rfl) (by kernel_rfl) (fun _ _ _ h => h) (Or.inl ⟨by rfl, ?ya7⟩) (by assumption) ?_
          case ya7 => intro w hSw; (try dsimp only at hSw); go_simp <;> with_reducible rfl
          try simp only [List.getElem_toArray, List.getElem_cons_succ, List.getElem_cons_zero, Act.put, List.setIfInBounds_toArray, List.set_cons_zero, List.set_cons_succ]
          refine wpAnyH_take (i := 8) (v := ?va8) rfl (by kernel_rfl) (by kernel_rfl) (by kernel_rfl) (fun _ _ _ h => h) (Or.inl ⟨by rfl, ?ya8⟩) (by assumption) ?_
          case ya8 => intro w hSw; (try dsimp only at hSw); go_simp <;> with_reducible rfl
          try simp only [List.getElem_toArray, List.getElem_cons_succ, List.getElem_cons_zero, Act.put, List.setIfInBounds_toArray, List.set_cons_zero, List.set_cons_succ]
          refine wpAnyH_take (i := 9) (v := ?va9) rfl (by kernel_rfl) (by kernel_rfl) (by kernel_rfl) (fun _ _ _ h => h) (Or.inl ⟨by rfl, ?ya9⟩) (by assumption) ?_
          case ya9 => intro w hSw; (try dsimp only at hSw); go_simp <;> with_reducible rfl
          try simp only [List.getElem_toArray, List.getElem_cons_succ, List.getElem_cons_zero, Act.put, List.setIfInBounds_toArray, List.set_cons_zero, List.set_cons_succ]
          refine wpAnyH_take (i := 10) (v := ?va10) rfl (by kernel_rfl) (by kernel_rfl) (by kernel_rfl) (fun _ _ _ h => h) (Or.inl ⟨by rfl, ?ya10⟩) (by assumption) ?_
          case ya10 => intro w hSw; (try dsimp only at hSw); go_simp <;> with_reducible rfl
          try simp only [List.getElem_toArray, List.getElem_cons_succ, List.getElem_cons_zero, Act.put, List.setIfInBounds_toArray, List.set_cons_zero, List.set_cons_succ]
          refine wpAnyH_take (i := 11) (v := ?va11) rfl (by kernel_rfl) (by kernel_rfl) (by kernel_rfl) (fun _ _ _ h => h) (Or.inl ⟨by rfl, ?ya11⟩) (by assumption) ?_
          case ya11 => intro w hSw; (try dsimp only at hSw); go_simp <;> with_reducible rfl
          try simp only [List.getElem_toArray, List.getElem_cons_succ, List.getElem_cons_zero, Act.put, List.setIfInBounds_toArray, List.set_cons_zero, List.set_cons_succ]
          refine wpAnyH_take (i := 12) (v := ?va12) rfl (by kernel_rfl) (by kernel_rfl) (by kernel_rfl) (fun _ _ _ h => h) (Or.inl ⟨by rfl, ?ya12⟩) (by assumption) ?_
          case ya12 => intro w hSw; (try dsimp only at hSw); go_simp <;> with_reducible rfl
          try simp only [List.getElem_toArray, List.getElem_cons_succ, List.getElem_cons_zero, Act.put, List.setIfInBounds_toArray, List.set_cons_zero, List.set_cons_succ]
          refine wpAnyH_take (i := 13) (v := ?va13) rfl (by kernel_rfl) (by kernel_rfl) (by kernel_rfl) (fun _ _ _ h => h) (Or.inl ⟨by rfl, ?ya13⟩) (by assumption) ?_
          case ya13 => intro w hSw; (try dsimp only at hSw); go_simp <;> with_reducible rfl
          try simp only [List.getElem_toArray, List.getElem_cons_succ, List.getElem_cons_zero, Act.put, List.setIfInBounds_toArray, List.set_cons_zero, List.set_cons_succ]
          refine wpAnyH_take (i := 14) (v := ?va14) rfl (by kernel_rfl) (by kernel_rfl) (by kernel_rfl) (fun _ _ _ h => h) (Or.inl ⟨by rfl, ?ya14⟩) (by assumption) ?_
          case ya14 => intro w hSw; (try dsimp only at hSw); go_simp <;> with_reducible rfl
          try simp only [List.getElem_toArray, List.getElem_cons_succ, List.getElem_cons_zero, Act.put, List.setIfInBounds_toArray, List.set_cons_zero, List.set_cons_succ]
          refine wpAnyH_take (i := 15) (v := ?va15) rfl (by kernel_rfl) (by kernel_rfl) (by kernel_rfl) (fun _ _ _ h => h) (Or.inl ⟨by rfl, ?ya15⟩) (by assumption) ?_
          case ya15 => intro w hSw; (try dsimp only at hSw); go_simp <;> with_reducible rfl
          try simp only [List.getElem_toArray, List.getElem_cons_succ, List.getElem_cons_zero, Act.put, List.setIfInBounds_toArray, List.set_cons_zero, List.set_cons_succ]
          refine wpAnyH_take (i := 16) (v := ?va16) rfl (by kernel_rfl) (by kernel_rfl) (by kernel_rfl) (fun _ _ _ h => h) (Or.inl ⟨by rfl, ?ya16⟩) (by assumption) ?_
          case ya16 => intro w hSw; (try dsimp only at hSw); go_simp <;> with_reducible rfl
          try simp only [List.getElem_toArray, List.getElem_cons_succ, List.getElem_cons_zero, Act.put, List.setIfInBounds_toArray, List.set_cons_zero, List.set_cons_succ]
          refine wpAnyH_take (i := 17) (v := ?va17) rfl (by kernel_rfl) (by kernel_rfl) (by kernel_rfl) (fun _ _ _ h => h) (Or.inl ⟨by rfl, ?ya17⟩) (by assumption) ?_
          case ya17 => intro w hSw; (try dsimp only at hSw); go_simp <;> with_reducible rfl
          try simp only [List.getElem_toArray, List.getElem_cons_succ, List.getElem_cons_zero, Act.put, List.setIfInBounds_toArray, List.set_cons_zero, List.set_cons_succ]
          refine wpAnyH_take (i := 18) (v := ?va18) rfl (by kernel_rfl) (by kernel_rfl) (by kernel_rfl) (fun _ _ _ h => h) (Or.inl ⟨by rfl, ?ya18⟩) (by assumption) ?_
          case ya18 => intro w hSw; (try dsimp only at hSw); go_simp <;> with_reducible rfl
          try simp only [List.getElem_toArray, List.getElem_cons_succ, List.getElem_cons_zero, Act.put, List.setIfInBounds_toArray, List.set_cons_zero, List.set_cons_succ]
          refine wpAnyH_take (i := 19) (v := ?va19) rfl (by kernel_rfl) (by kernel_rfl) (by kernel_rfl) (fun _ _ _ h => h) (Or.inl ⟨by rfl, ?ya19⟩) (by assumption) ?_
          case ya19 => intro w hSw; (try dsimp only at hSw); go_simp <;> with_reducible rfl
          try simp only [List.getElem_toArray, List.getElem_cons_succ, List.getElem_cons_zero, Act.put, List.setIfInBounds_toArray, List.set_cons_zero, List.set_cons_succ]
          refine wpAnyH_ready (rs := [20]) (by kernel_rfl) (by simp) ?_
          refine AllReadyH.cons rfl (fun K hK => ?_) ?za20
          case za20 => exact AllReadyH.nil
          go_simp
          refine (SMY.out _ hHeld.1).mono ?_
          rintro e w9a20 ⟨rfl, b9⟩
          refine hK.out _ _ (SK.out _ (bt hHeld.1 b9)) (fun hNew => ?_)
          clear hHeld
          have hHeld := hNew
          clear hNew hK K
          try simp only [List.getElem_toArray, List.getElem_cons_succ, List.getElem_cons_zero, Act.put, List.setIfInBounds_toArray, List.set_cons_zero, List.set_cons_succ]
          refine wpAnyH_take (i := 21) (v := ?va21) rfl (by kernel_rfl) (by kernel_rfl) (by kernel_rfl) (fun _ _ _ h => h) (Or.inl ⟨by rfl, ?ya21⟩) (by assumption) ?_
          case ya21 => intro w hSw; (try dsimp only at hSw); go_simp <;> with_reducible rfl
          try simp only [List.getElem_toArray, List.getElem_cons_succ, List.getElem_cons_zero, Act.put, List.setIfInBounds_toArray, List.set_cons_zero, List.set_cons_succ]
          refine wpAnyH_take (i := 22) (v := ?va22) rfl (by kernel_rfl) (by kernel_rfl) (by kernel_rfl) (fun _ _ _ h => h) (Or.inl ⟨by rfl, ?ya22⟩) (by assumption) ?_
          case ya22 => intro w hSw; (try dsimp only at hSw); go_simp <;> with_reducible rfl
          try simp only [List.getElem_toArray, List.getElem_cons_succ, List.getElem_cons_zero, Act.put, List.setIfInBounds_toArray, List.set_cons_zero, List.set_cons_succ]
          refine wpAnyH_done (by kernel_rfl) ?_ _
          have ZE := Lib.hid (bt hbe2.out (bt Q8.out hHeld.1))
          clear hHeld SMY SK Q8 HWM hbe2
          go_wp2
          go_roundw
          case rel => exact ⟨i + 1, by omega, by go_num, ZE⟩
          case measure => simp [intOf]; omega
end Go.Proofs.Ytdackenaknieaaa.Covers
