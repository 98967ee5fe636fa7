/- ViewOrder answers true, and changes nothing that was there. Conditions: none. -/
import Derived.Test.YtohiidgdpecbdaaPk17
import Derived.Test.YtohiidgdpecbdaaPk07
import Derived.Test.YtohiidgdpecbdaaPk13
import Derived.Test.YtohiidgdpecbdaaPk06
import Derived.Test.YtohiidgdpecbdaaPk04

namespace Go.Proofs.Ytohiidgdpecbdaa.Views
open Go.RowKit Go.WideShapes Stamp Go.Proofs.Ytohiidgdpecbdaa.Place Ops Codes Bags Marks Homes Covers
attribute [local go_sem ↓] Go.wp_at_zero Go.wp_at_succ
attribute [local go_sem] yielded_undef

theorem pre_cmp {x z : Opn} (hx : mayO x = true) (hz : mayO z = true) (h : pre x z) : cmp x.pl z.pl = -1 := by
  have h1 := (pre_iff hx hz).1 h
  unfold cmp
  rw [if_pos ⟨anyB_may (mayO_parts hx).2.1, anyB_may (mayO_parts hz).2.1⟩]
  rcases hold_range (all x.pl) (all z.pl) with h2 | h2 | h2 <;> omega
theorem nil_cmp {z : Opn} (hz : mayO z = true) : cmp [] z.pl = -1 := by
  have hm := (mayB_iff _).1 (mayO_parts hz).2.1
  have hne : all z.pl ≠ [] := fun h => by
    have h2 := (all_nil hm.2.2.1).1 h
    have h3 := hm.1
    rw [h2] at h3
    simp at h3
  have ha : anyB [] = true := (anyB_iff []).2 (.inl rfl)
  unfold cmp
  rw [if_pos ⟨ha, anyB_may (mayO_parts hz).2.1⟩]
  show Go.Proofs.Ytohiidgdpecbdaa.Place.hold [] (all z.pl) = -1
  cases h : all z.pl with
  | nil => exact absurd h hne
  | cons a q => rfl
theorem order_facts {l : List Opn} (hb : Bag l) {j : Nat} (hj : j < (livesM l l).length + 1) :
    spanE l ((sectsM (livesM l l)).getD j zid) = 0 ∧ (elmL l ((sectsM (livesM l l)).getD j zid)).length ≤ 1024 ∧
    (∀ k (hk : k < (elmL l ((sectsM (livesM l l)).getD j zid)).length), offN l ((sectsM (livesM l l)).getD j zid) ((elmL l ((sectsM (livesM l l)).getD j zid))[k]'hk).pl = k ∧ offE l ((sectsM (livesM l l)).getD j zid) ((elmL l ((sectsM (livesM l l)).getD j zid))[k]'hk).pl = 0 ∧ atL l ((sectsM (livesM l l)).getD j zid) (k : Int) = (elmL l ((sectsM (livesM l l)).getD j zid))[k]'hk ∧ atE l ((sectsM (livesM l l)).getD j zid) (k : Int) = 0 ∧ mayO ((elmL l ((sectsM (livesM l l)).getD j zid))[k]'hk) = true ∧ tgt ((elmL l ((sectsM (livesM l l)).getD j zid))[k]'hk) = idO ((elmL l ((sectsM (livesM l l)).getD j zid))[k]'hk)) ∧
    (∀ i k (hi : i < (elmL l ((sectsM (livesM l l)).getD j zid)).length) (hk : k < (elmL l ((sectsM (livesM l l)).getD j zid)).length), i < k → cmp ((elmL l ((sectsM (livesM l l)).getD j zid))[i]'hi).pl ((elmL l ((sectsM (livesM l l)).getD j zid))[k]'hk).pl = -1) ∧
    (∀ i, j < i → i < (livesM l l).length + 1 → ∀ x ∈ elmL l ((sectsM (livesM l l)).getD j zid), ∀ z ∈ elmL l ((sectsM (livesM l l)).getD i zid), cmp x.pl z.pl = -1) ∧
    (∀ z ∈ elmL l ((sectsM (livesM l l)).getD j zid), cmp [] z.pl = -1) := by
  have h0 := sect_where hb hj
  have hs := elm_sorted l ((sectsM (livesM l l)).getD j zid)
  refine ⟨h0, (elm_fits l _).1, fun k hk => ?_, fun i k hi hk h => ?_, fun i hi hiv x hx z hz => ?_, fun z hz => nil_cmp (mem_elm_l hz).2.2.2.2.1⟩
  · have hm := mem_elm_l (List.getElem_mem hk)
    have hmy := hm.2.2.2.2.1
    have ha := anyB_may (mayO_parts hmy).2.1
    refine ⟨?_, ?_, ?_, ?_, hmy, ins_tgt hmy hm.2.2.2.2.2⟩
    · unfold offN
      rw [if_pos ⟨h0, ha⟩]
      exact bef_at (fun o ho => (mem_elm_l ho).2.2.2.2.1) hs k hk
    · unfold offE
      rw [if_pos h0, if_pos ha]
    · unfold atL
      rw [if_pos ⟨h0, by omega, by omega⟩, Int.toNat_natCast, List.getD_eq_getElem?_getD, List.getElem?_eq_getElem hk]
      rfl
    · unfold atE
      rw [if_pos h0, if_pos ⟨by omega, by omega⟩]
  · exact pre_cmp (mem_elm_l (List.getElem_mem hi)).2.2.2.2.1 (mem_elm_l (List.getElem_mem hk)).2.2.2.2.1 (List.pairwise_iff_getElem.1 hs i k hi hk h)
  · have mx := mem_elm_l hx
    have mz := mem_elm_l hz
    exact pre_cmp mx.2.2.2.2.1 mz.2.2.2.2.1 (sect_pre (liv_bag hb) mx.2.2.2.2.1 mz.2.2.2.2.1 hj hiv hi mx.2.2.2.1 mz.2.2.2.1)

set_option maxRecDepth 100000 in
set_option maxHeartbeats 32000000 in
theorem order_walk {l : List Opn} {ao0 : Option Addr} {cap0 : Nat} {w : World} (hr0 : OpL w (.slice ao0 l.length cap0) l) :
    Calls Try.prog 4 #[.slice ao0 l.length cap0] w fun e w' => e = .returned (.bool true) ∧ Below w.heap.size w w' := by
  have HV : Hid (∀ W : World, Below w.heap.size w W → OpL W (.slice ao0 l.length cap0) l) := fun W h => hr0.keeps h
  have AV := Lib.hid alive15_any
  have GR : Hid (∀ W : World, Below w.heap.size w W → Calls Try.prog 11 #[.slice ao0 l.length cap0, .int .i64 40] W fun e w' => GrtO l 40 e ∧ W = w') := fun W h => greatO_any (HV.out W h)
  have hgr : ∀ {e : Ending}, GrtO l 40 e → ∃ g, e = .returned (.bool g) := fun ⟨g, h1, h2⟩ => ⟨g, h1⟩
  have CA : Hid (∀ W : World, Below w.heap.size w W → Calls Try.prog 12 #[.slice ao0 l.length cap0] W (AllI (allL l) (chkL l) W)) := fun W h => hAll_any (HV.out W h)
  have CE : Hid (∀ (W : World) (s : Id), Below w.heap.size w W → Calls Try.prog 13 #[.slice ao0 l.length cap0, .agg #[.int .u32 (s.t : Int), .int .u8 (s.r : Int)]] W (DoneOE (elmL l s) (spanE l s) W)) := fun W s h => vElements_any s (HV.out W h)
  have CO : Hid (∀ (W : World) (s : Id) (u : Value) (p : List Run), Below w.heap.size w W → Runs W u p → Calls Try.prog 7 #[.slice ao0 l.length cap0, .agg #[.int .u32 (s.t : Int), .int .u8 (s.r : Int)], u] W fun e w' => e = .returned (.tuple #[.int .i64 ((offN l s p : Nat) : Int), .int .i64 (offE l s p)]) ∧ Below W.heap.size W w') := fun W s u p h h2 => vOffset_any s (HV.out W h) h2
  have CT : Hid (∀ (W : World) (s : Id) (k : Int), Below w.heap.size w W → Calls Try.prog 8 #[.slice ao0 l.length cap0, .agg #[.int .u32 (s.t : Int), .int .u8 (s.r : Int)], .int .i64 k] W (OneE (atL l s k) (atE l s k) W)) := fun W s k h => vAt_any s k (HV.out W h)
  have hcase : Hid ((chkL l = 8 ∧ allL l = []) ∨ (Bag l ∧ chkL l = 0 ∧ allL l = sectsM (livesM l l))) := by
    by_cases hb : Bag l
    · exact .inr ⟨hb, chkL_yes hb, by unfold allL; rw [(bagB_iff l).2 hb]; rfl⟩
    · exact .inl ⟨chkL_no hb, by unfold allL; rw [bagB_no hb]; rfl⟩
  have XAT : Hid (Bag l → ∀ j, j < (livesM l l).length + 1 → _) := fun hb j hj => order_facts hb hj
  have VL : Hid (Bag l → (livesM l l).length ≤ 1024) := fun hb => (lives_fits hb).1
  obtain ⟨V, hV⟩ : ∃ z, livesM l l = z := ⟨_, rfl⟩
  rw [hV] at hcase XAT VL
  obtain ⟨n0, hn0⟩ : ∃ n, n = l.length := ⟨_, rfl⟩
  rw [← hn0] at GR CA CE CO CT ⊢
  obtain ⟨AL, hAL⟩ : ∃ z, allL l = z := ⟨_, rfl⟩
  obtain ⟨E1, hE1⟩ : ∃ z, chkL l = z := ⟨_, rfl⟩
  rw [hAL, hE1] at CA hcase
  have B0 : Hid (Below w.heap.size w w) := Below.refl _ _
  clear hr0 hn0 hV hAL hE1 HV
  go_enter Try.func4, Try.ntmps4
  go_wp2_with fail
  refine (AV.out _).mono ?_
  rintro e w1 ⟨rfl, b1⟩
  have B1 := Lib.hid b1
  clear b1 B0 AV
  go_wp2_with fail
  refine (GR.out _ B1.out).mono ?_
  rintro e w2 ⟨hg, rfl⟩
  obtain ⟨g, rfl⟩ := hgr hg
  clear hg hgr GR
  cases g
  rotate_left
  · go_wp2
    go_ret
    exact ⟨rfl, B1.out⟩
  go_wp2_with fail
  refine (CA.out _ B1.out).mono ?_
  rintro e w3 ⟨lo, lc, rfl, o3, b3⟩
  have B3 := Lib.hid (bt B1.out b3)
  have I3 := Lib.hid (Go.Proofs.Ytohiidgdpecbdaa.Ids.own o3)
  clear o3 b3 B1 CA
  rcases hcase.out with ⟨rfl, rfl⟩ | ⟨hb, rfl, rfl⟩
  · clear hcase I3 XAT VL CE CO CT
    go_wp2
    go_ret
    exact ⟨rfl, B3.out⟩
  have XAT2 := Lib.hid (XAT.out hb)
  have hVl := VL.out hb
  have I4 : Hid (∀ W : World, Below w3.heap.size w3 W → Ids W (.slice lo (sectsM V).length lc) (sectsM V)) := fun W h => I3.out.keeps h
  have HNS := sectsM_len V
  obtain ⟨L, hL⟩ : ∃ z, z = sectsM V := ⟨_, rfl⟩
  rw [← hL] at I4 XAT2 HNS ⊢
  obtain ⟨N, hN⟩ : ∃ z, z = L.length := ⟨_, rfl⟩
  rw [← hN] at I4 HNS ⊢
  have hNm : N ≤ 1025 := by omega
  have HNV := Lib.hid HNS
  have HLN := Lib.hid hN
  have Z3 : Hid (Below w3.heap.size w3 w3) := Below.refl _ _
  have R3 : Hid (Runs w3 (.slice none 0 0) []) := Sees.nil _ _
  have Q3 : Hid (∀ i, 0 ≤ i → i < V.length + 1 → ∀ z ∈ elmL l (L.getD i zid), cmp [] z.pl = -1) := fun i _ hi z hz => (XAT2.out i hi).2.2.2.2.2 z hz
  clear hcase hb XAT VL I3 hL hN HNS
  go_wp2
  go_loopw [6, 7] (fun c i wr => ∃ (j : Nat) (PL : List Run), j ≤ N ∧ i = .int .i64 (j : Int) ∧ Hid (Runs wr c PL) ∧ Hid (∀ i, j ≤ i → i < V.length + 1 → ∀ z ∈ elmL l (L.getD i zid), cmp PL z.pl = -1) ∧ Hid (Below w3.heap.size w3 wr)) (fun _ i _ => N - (intOf i).toNat)
  case atStart => exact ⟨0, [], by omega, rfl, R3, Q3, Z3⟩
  case round =>
    clear Z3 R3 Q3
    obtain ⟨j, PL, hj, rfl, hru0, hq0, hbel⟩ := hrel
    by_cases hjN : j < N
    rotate_left
    · have q3 : decide (j < N) = false := by simpa using hjN
      have BW := Lib.hid (bt B3.out hbel.out)
      clear XAT2 I4 CE CO CT hbel hru0 hq0
      go_wp2
      go_ret
      exact ⟨rfl, BW.out⟩
    have q3 : decide (j < N) = true := by simpa using hjN
    have q4 : (0 : Int) ≤ (j : Int) := by omega
    have q5 : (j : Int) < (N : Int) := by omega
    have hjV : j < V.length + 1 := by have := HNV.out; omega
    have hjl : j < L.length := by have := HLN.out; omega
    have BW := Lib.hid (bt B3.out hbel.out)
    obtain ⟨bb, oo, e, hbb, h0, h1⟩ := Ids.at (I4.out wr hbel.out) j hjl
    subst e
    obtain ⟨x1, x2, x3, x4, x5, -⟩ := XAT2.out j hjV
    have CEX := CE.out wr (L.getD j zid) BW.out
    have COX : Hid (∀ (W : World) (u : Value) (p : List Run), Below w.heap.size w W → Runs W u p → Calls Try.prog 7 #[.slice ao0 n0 cap0, .agg #[.int .u32 ((L.getD j zid).t : Int), .int .u8 ((L.getD j zid).r : Int)], u] W fun e w' => e = .returned (.tuple #[.int .i64 ((offN l (L.getD j zid) p : Nat) : Int), .int .i64 (offE l (L.getD j zid) p)]) ∧ Below W.heap.size W w') := fun W u p h h2 => CO.out W _ u p h h2
    have CTX : Hid (∀ (W : World) (k : Int), Below w.heap.size w W → Calls Try.prog 8 #[.slice ao0 n0 cap0, .agg #[.int .u32 ((L.getD j zid).t : Int), .int .u8 ((L.getD j zid).r : Int)], .int .i64 k] W (OneE (atL l (L.getD j zid) k) (atE l (L.getD j zid) k) W)) := fun W k h => CT.out W _ k h
    rw [x1] at CEX
    have QX : Hid (∀ z ∈ elmL l (L.getD j zid), cmp PL z.pl = -1) := fun z hz => hq0.out j (Nat.le_refl _) hjV z hz
    obtain ⟨⟨t0, r0, ht0, hr0⟩, hs⟩ : ∃ z, L.getD j zid = z := ⟨_, rfl⟩
    rw [hs] at h0 h1 CEX COX CTX x2 x3 x4 x5 QX
    simp only at h0 h1 CEX COX CTX
    have ELT : Hid (∀ W : World, Below wr.heap.size wr W → W.cell? ⟨bb, oo + j * 2, none⟩ = some (.int .u32 (t0 : Int)) ∧ W.cell? ⟨bb, oo + j * 2 + 1, none⟩ = some (.int .u8 (r0 : Int))) := fun W h => ⟨(h.cell (p := ⟨bb, oo + j * 2, none⟩) hbb).trans h0, (h.cell (p := ⟨bb, oo + j * 2 + 1, none⟩) hbb).trans h1⟩
    obtain ⟨X, hX⟩ : ∃ X, elmL l ⟨t0, r0, ht0, hr0⟩ = X := ⟨_, rfl⟩
    rw [hX] at CEX x2 x5 QX
    have X3 : Hid (∀ k (hk : k < X.length), offN l ⟨t0, r0, ht0, hr0⟩ (X[k]'hk).pl = k ∧ offE l ⟨t0, r0, ht0, hr0⟩ (X[k]'hk).pl = 0 ∧ atL l ⟨t0, r0, ht0, hr0⟩ (k : Int) = X[k]'hk ∧ atE l ⟨t0, r0, ht0, hr0⟩ (k : Int) = 0 ∧ mayO (X[k]'hk) = true ∧ tgt (X[k]'hk) = idO (X[k]'hk)) := fun k hk => by
      subst hX
      exact x3 k hk
    have X4 : Hid (∀ i k (hi : i < X.length) (hk : k < X.length), i < k → cmp (X[i]'hi).pl (X[k]'hk).pl = -1) := fun i k hi hk h => by
      subst hX
      exact x4 i k hi hk h
    have X5 : Hid (∀ i, j < i → i < V.length + 1 → ∀ x ∈ X, ∀ z ∈ elmL l (L.getD i zid), cmp x.pl z.pl = -1) := x5
    have QY : Hid (∀ k (hk : k < X.length), 0 ≤ k → cmp PL (X[k]'hk).pl = -1) := fun k hk _ => QX.out _ (List.getElem_mem hk)
    have QZ : Hid (∀ i, j < i → i < V.length + 1 → ∀ z ∈ elmL l (L.getD i zid), cmp PL z.pl = -1) := fun i h hi z hz => hq0.out i (by omega) hi z hz
    obtain ⟨nx, hnx⟩ : ∃ z, X.length = z := ⟨_, rfl⟩
    have hXm : nx ≤ 1024 := by rw [← hnx]; exact x2
    have HNX := Lib.hid hnx
    have HCX := Lib.hid CEX
    clear CEX hbb hs x1 x2 x3 x4 x5 hX hnx QX hq0 XAT2 I4 CE CO CT
    go_wp2_with fail
    refine HCX.out.mono ?_
    rintro e w5 ⟨vx, rfl, o5, b5⟩
    obtain ⟨ax, cx, rfl⟩ := o5.el.shape
    have OX5 : Hid (∀ W : World, Below w5.heap.size w5 W → ElL W (.slice ax X.length cx) X) := fun W h => o5.el.keeps h
    rw [HNX.out] at OX5 ⊢
    have B5 := Lib.hid (bt BW.out b5)
    have R5 := Lib.hid b5
    have RU5 := Lib.hid (hru0.out.keeps b5)
    have Z5 : Hid (Below w5.heap.size w5 w5) := Below.refl _ _
    clear o5 b5 h0 h1 HCX BW hru0
    go_wp2
    go_loopw [6, 10] (fun c i wq => ∃ (k : Nat) (PL : List Run), k ≤ nx ∧ i = .int .i64 (k : Int) ∧ Hid (Runs wq c PL) ∧ Hid (∀ i (hi : i < X.length), k ≤ i → cmp PL (X[i]'hi).pl = -1) ∧ Hid (∀ i, j < i → i < V.length + 1 → ∀ z ∈ elmL l (L.getD i zid), cmp PL z.pl = -1) ∧ Hid (Below w5.heap.size w5 wq)) (fun _ i _ => nx - (intOf i).toNat)
    case atStart => exact ⟨0, PL, by omega, rfl, RU5, QY, QZ, Z5⟩
    case round =>
      clear RU5 QY QZ Z5
      obtain ⟨k, PK, hk, rfl, hrp, hq1, hq2, hbe2⟩ := hrel
      have BW := Lib.hid (bt B5.out hbe2.out)
      have RW := Lib.hid (bt R5.out hbe2.out)
      by_cases hkn : k < nx
      rotate_left
      · have q6 : decide (k < nx) = false := by simpa using hkn
        have ZB := Lib.hid (bt hbel.out RW.out)
        have QN : Hid (∀ i, j + 1 ≤ i → i < V.length + 1 → ∀ z ∈ elmL l (L.getD i zid), cmp PK z.pl = -1) := fun i h hi z hz => hq2.out i (by omega) hi z hz
        clear ELT OX5 COX CTX X3 X4 X5 hbe2 BW RW hq1 hq2
        go_wp2
        go_roundw
        case rel => exact ⟨j + 1, PK, by omega, by go_num, hrp, QN, ZB⟩
        case measure => simp [intOf]; omega
      have q6 : decide (k < nx) = true := by simpa using hkn
      have q7 : (0 : Int) ≤ (k : Int) := by omega
      have q8 : (k : Int) < (nx : Int) := by omega
      have hkl : k < X.length := by rw [HNX.out]; exact hkn
      obtain ⟨bx, ox, u, e, hbx, hru, g0, g1, g2, g3⟩ := el_at (OX5.out wr hbe2.out) k hkl
      subst e
      obtain ⟨f1, f2, f3, f4, f5, f6⟩ := X3.out k hkl
      have QS : Hid (∀ i (hi : i < X.length), k + 1 ≤ i → cmp (X[k]'hkl).pl (X[i]'hi).pl = -1) := fun i hi h => X4.out k i hkl hi (by omega)
      have QT : Hid (∀ i, j < i → i < V.length + 1 → ∀ z ∈ elmL l (L.getD i zid), cmp (X[k]'hkl).pl z.pl = -1) := fun i h hi z hz => X5.out i h hi _ (List.getElem_mem hkl) z hz
      have hc := hq1.out k hkl (Nat.le_refl _)
      obtain ⟨x, hx⟩ : ∃ x, x = X[k]'hkl := ⟨_, rfl⟩
      rw [← hx] at hru g0 g1 g3 f1 f2 f3 f5 f6 QS QT hc
      have OFX : Hid (∀ W : World, Below wr.heap.size wr W → Calls Try.prog 7 #[.slice ao0 n0 cap0, .agg #[.int .u32 (t0 : Int), .int .u8 (r0 : Int)], u] W fun e w' => e = .returned (.tuple #[.int .i64 (k : Int), .int .i64 0]) ∧ Below W.heap.size W w') := fun W h => by
        have := COX.out W u x.pl (bt BW.out h) (hru.keeps h)
        rwa [f1, f2] at this
      have ATX : Hid (∀ W : World, Below wr.heap.size wr W → Calls Try.prog 8 #[.slice ao0 n0 cap0, .agg #[.int .u32 (t0 : Int), .int .u8 (r0 : Int)], .int .i64 (k : Int)] W fun e w' => ∃ vo vc, e = .returned (.tuple #[.agg #[.int .u32 (x.t : Int), .int .u8 (x.r : Int), .slice vo x.pl.length vc, .int .i64 x.p], .int .i64 0]) ∧ Below W.heap.size W w') := fun W h => by
        have := CTX.out W (k : Int) (bt BW.out h)
        rw [f3, f4] at this
        refine this.mono ?_
        rintro e w' ⟨vt, rfl, o, b⟩
        obtain ⟨vo, vc, rfl⟩ := Sees.shape (Sees.own o)
        exact ⟨vo, vc, rfl, b⟩
      have CMX : Hid (∀ W : World, Below wr.heap.size wr W → Calls Try.prog 14 #[u6, u] W fun e w' => e = .returned (.int .i64 (-1)) ∧ Below W.heap.size W w') := fun W h => by
        have := pCompare_any (hrp.out.keeps h) (hru.keeps h)
        rwa [hc] at this
      have LAX : Hid (∀ W : World, Below wr.heap.size wr W → Calls Try.prog 15 #[u] W fun e w' => e = .returned (.agg #[.int .u32 (x.t : Int), .int .u8 (x.r : Int)]) ∧ Below W.heap.size W w') := fun W h => by
        have := pLast_any (hru.keeps h)
        have hc := tgt_cells f5
        rw [← hc.1, ← hc.2, f6] at this
        exact this
      have RUX : Hid (∀ W : World, Below wr.heap.size wr W → Runs W u x.pl) := fun W h => hru.keeps h
      obtain ⟨uo, uc, rfl⟩ := hru.shape
      obtain ⟨nu, hnu⟩ : ∃ z, x.pl.length = z := ⟨_, rfl⟩
      rw [hnu] at g2 OFX ATX CMX LAX RUX
      obtain ⟨t, ht⟩ : ∃ z, x.t = z := ⟨_, rfl⟩
      obtain ⟨r, hr⟩ : ∃ z, x.r = z := ⟨_, rfl⟩
      obtain ⟨p, hp⟩ : ∃ z, x.p = z := ⟨_, rfl⟩
      rw [ht] at g0 ATX LAX
      rw [hr] at g1 ATX LAX
      rw [hp] at g3 ATX
      have ELX : Hid (∀ W : World, Below wr.heap.size wr W → W.cell? ⟨bx, ox + k * 4, none⟩ = some (.int .u32 (t : Int)) ∧ W.cell? ⟨bx, ox + k * 4 + 1, none⟩ = some (.int .u8 (r : Int)) ∧ W.cell? ⟨bx, ox + k * 4 + 2, none⟩ = some (.slice uo nu uc) ∧ W.cell? ⟨bx, ox + k * 4 + 3, none⟩ = some (.int .i64 p)) := fun W h => ⟨(h.cell (p := ⟨bx, ox + k * 4, none⟩) hbx).trans g0, (h.cell (p := ⟨bx, ox + k * 4 + 1, none⟩) hbx).trans g1, (h.cell (p := ⟨bx, ox + k * 4 + 2, none⟩) hbx).trans g2, (h.cell (p := ⟨bx, ox + k * 4 + 3, none⟩) hbx).trans g3⟩
      have Z0 : Hid (Below wr.heap.size wr wr) := Below.refl _ _
      clear g0 g1 g2 g3 hbx hru f1 f2 f3 f4 f5 f6 hc hx ht hr hp hnu X3 X4 X5 COX CTX OX5 hq1 hq2 hrp
      have SK : Hid (∀ w' : World, Below wr.heap.size wr w' → Below wr.heap.size wr w' ∧ w'.cell? ⟨bb, oo + j * 2, none⟩ = some (.int .u32 (t0 : Int)) ∧ w'.cell? ⟨bb, oo + j * 2 + 1, none⟩ = some (.int .u8 (r0 : Int)) ∧ w'.cell? ⟨bx, ox + k * 4, none⟩ = some (.int .u32 (t : Int)) ∧ w'.cell? ⟨bx, ox + k * 4 + 1, none⟩ = some (.int .u8 (r : Int)) ∧ w'.cell? ⟨bx, ox + k * 4 + 2, none⟩ = some (.slice uo nu uc) ∧ w'.cell? ⟨bx, ox + k * 4 + 3, none⟩ = some (.int .i64 p)) := fun W h => by
        have a1 := ELT.out W (bt RW.out h)
        have a2 := ELX.out W h
        exact ⟨h, a1.1, a1.2, a2.1, a2.2.1, a2.2.2.1, a2.2.2.2⟩
      go_wp2
      refine wp_region_held_drew (S := fun w' => Below wr.heap.size wr w' ∧ w'.cell? ⟨bb, oo + j * 2, none⟩ = some (.int .u32 (t0 : Int)) ∧ w'.cell? ⟨bb, oo + j * 2 + 1, none⟩ = some (.int .u8 (r0 : Int)) ∧ w'.cell? ⟨bx, ox + k * 4, none⟩ = some (.int .u32 (t : Int)) ∧ w'.cell? ⟨bx, ox + k * 4 + 1, none⟩ = some (.int .u8 (r : Int)) ∧ w'.cell? ⟨bx, ox + k * 4 + 2, none⟩ = some (.slice uo nu uc) ∧ w'.cell? ⟨bx, ox + k * 4 + 3, none⟩ = some (.int .i64 p)) (by kernel_rfl) (SK.out _ (drew1 _)) (fun hHeld => ?_)
      refine wpAnyH_take (i := 0) (v := ?va0) rfl (by kernel_rfl) (by kernel_rfl) (by kernel_rfl) (fun _ _ _ h => h) (Or.inl ⟨by rfl, ?ya0⟩) (by assumption) ?_
      case ya0 => intro w hSw; (try dsimp only at hSw); go_simp <;> with_reducible rfl
      try simp only [List.getElem_toArray, List.getElem_cons_zero, Act.put, List.setIfInBounds_toArray, List.set_cons_zero, List.set_cons_succ]
      refine wpAnyH_take (i := 1) (v := ?va1) rfl (by kernel_rfl) (by kernel_rfl) (by kernel_rfl) (fun _ _ _ h => h) (Or.inl ⟨by rfl, ?ya1⟩) (by assumption) ?_
      case ya1 => intro w hSw; (try dsimp only at hSw); go_simp <;> with_reducible rfl
      try simp only [List.getElem_toArray, List.getElem_cons_succ, List.getElem_cons_zero, Act.put, List.setIfInBounds_toArray, List.set_cons_zero, List.set_cons_succ]
      refine wpAnyH_take (i := 2) (v := ?va2) rfl (by kernel_rfl) (by kernel_rfl) (by kernel_rfl) (fun _ _ _ h => h) (Or.inl ⟨by rfl, ?ya2⟩) (by assumption) ?_
      case ya2 => intro w hSw; (try dsimp only at hSw); go_simp <;> with_reducible rfl
      try simp only [List.getElem_toArray, List.getElem_cons_succ, List.getElem_cons_zero, Act.put, List.setIfInBounds_toArray, List.set_cons_zero, List.set_cons_succ]
      refine wpAnyH_take (i := 3) (v := ?va3) rfl (by kernel_rfl) (by kernel_rfl) (by kernel_rfl) (fun _ _ _ h => h) (Or.inl ⟨by rfl, ?ya3⟩) (by assumption) ?_
      case ya3 => intro w hSw; (try dsimp only at hSw); go_simp <;> with_reducible rfl
      try simp only [List.getElem_toArray, List.getElem_cons_succ, List.getElem_cons_zero, Act.put, List.setIfInBounds_toArray, List.set_cons_zero, List.set_cons_succ]
      refine wpAnyH_take (i := 4) (v := ?va4) rfl (by kernel_rfl) (by kernel_rfl) (by kernel_rfl) (fun _ _ _ h => h) (Or.inl ⟨by rfl, ?ya4⟩) (by assumption) ?_
      case ya4 => intro w hSw; (try dsimp only at hSw); go_simp <;> with_reducible rfl
      try simp only [List.getElem_toArray, List.getElem_cons_succ, List.getElem_cons_zero, Act.put, List.setIfInBounds_toArray, List.set_cons_zero, List.set_cons_succ]
      refine wpAnyH_take (i := 5) (v := ?va5) rfl (by kernel_rfl) (by kernel_rfl) (by kernel_rfl) (fun _ _ _ h => h) (Or.inl ⟨by rfl, ?ya5⟩) (by assumption) ?_
      case ya5 => intro w hSw; (try dsimp only at hSw); go_simp <;> with_reducible rfl
      try simp only [List.getElem_toArray, List.getElem_cons_succ, List.getElem_cons_zero, Act.put, List.setIfInBounds_toArray, List.set_cons_zero, List.set_cons_succ]
      refine wpAnyH_take (i := 6) (v := ?va6) rfl (by kernel_rfl) (by kernel_rfl) (by kernel_rfl) (fun _ _ _ h => h) (Or.inl ⟨by rfl, ?ya6⟩) (by assumption) ?_
      case ya6 => intro w hSw; (try dsimp only at hSw); go_simp <;> with_reducible rfl
      try simp only [List.getElem_toArray, List.getElem_cons_succ, List.getElem_cons_zero, Act.put, List.setIfInBounds_toArray, List.set_cons_zero, List.set_cons_succ]
      refine wpAnyH_take (i := 7) (v := ?va7) rfl (by kernel_rfl) (by kernel_rfl) (by kernel_rfl) (fun _ _ _ h => h) (Or.inl ⟨by rfl, ?ya7⟩) (by assumption) ?_
      case ya7 => intro w hSw; (try dsimp only at hSw); go_simp <;> with_reducible rfl
      try simp only [List.getElem_toArray, List.getElem_cons_succ, List.getElem_cons_zero, Act.put, List.setIfInBounds_toArray, List.set_cons_zero, List.set_cons_succ]
      refine wpAnyH_take (i := 8) (v := ?va8) rfl (by kernel_rfl) (by kernel_rfl) (by kernel_rfl) (fun _ _ _ h => h) (Or.inl ⟨by rfl, ?ya8⟩) (by assumption) ?_
      case ya8 => intro w hSw; (try dsimp only at hSw); go_simp <;> with_reducible rfl
      try simp only [List.getElem_toArray, List.getElem_cons_succ, List.getElem_cons_zero, Act.put, List.setIfInBounds_toArray, List.set_cons_zero, List.set_cons_succ]
      refine wpAnyH_take (i := 9) (v := ?va9) rfl (by kernel_rfl) (by kernel_rfl) (by kernel_rfl) (fun _ _ _ h => h) (Or.inl ⟨by rfl, ?ya9⟩) (by assumption) ?_
      case ya9 => intro w hSw; (try dsimp only at hSw); go_simp <;> with_reducible rfl
      try simp only [List.getElem_toArray, List.getElem_cons_succ, List.getElem_cons_zero, Act.put, List.setIfInBounds_toArray, List.set_cons_zero, List.set_cons_succ]
      refine wpAnyH_ready (rs := [10]) (by kernel_rfl) (by simp) ?_
      refine AllReadyH.cons rfl (fun K hK => ?_) ?za10
      case za10 => exact AllReadyH.nil
      go_simp
      refine (OFX.out _ hHeld.1).mono ?_
      rintro e w9a10 ⟨rfl, b9⟩
      refine hK.out _ _ (SK.out _ (bt hHeld.1 b9)) (fun hNew => ?_)
      clear hHeld
      have hHeld := hNew
      clear hNew hK K
      try simp only [List.getElem_toArray, List.getElem_cons_succ, List.getElem_cons_zero, Act.put, List.setIfInBounds_toArray, List.set_cons_zero, List.set_cons_succ]
      refine wpAnyH_take (i := 11) (v := ?va11) rfl (by kernel_rfl) (by kernel_rfl) (by kernel_rfl) (fun _ _ _ h => h) (Or.inl ⟨by rfl, ?ya11⟩) (by assumption) ?_
      case ya11 => intro w hSw; (try dsimp only at hSw); go_simp <;> with_reducible rfl
      try simp only [List.getElem_toArray, List.getElem_cons_succ, List.getElem_cons_zero, Act.put, List.setIfInBounds_toArray, List.set_cons_zero, List.set_cons_succ]
      refine wpAnyH_take (i := 12) (v := ?va12) rfl (by kernel_rfl) (by kernel_rfl) (by kernel_rfl) (fun _ _ _ h => h) (Or.inl ⟨by rfl, ?ya12⟩) (by assumption) ?_
      case ya12 => intro w hSw; (try dsimp only at hSw); go_simp <;> with_reducible rfl
      try simp only [List.getElem_toArray, List.getElem_cons_succ, List.getElem_cons_zero, Act.put, List.setIfInBounds_toArray, List.set_cons_zero, List.set_cons_succ]
      refine wpAnyH_take (i := 13) (v := ?va13) rfl (by kernel_rfl) (by kernel_rfl) (by kernel_rfl) (fun _ _ _ h => h) (Or.inl ⟨by rfl, ?ya13⟩) (by assumption) ?_
      case ya13 => intro w hSw; (try dsimp only at hSw); go_simp <;> with_reducible rfl
      try simp only [List.getElem_toArray, List.getElem_cons_succ, List.getElem_cons_zero, Act.put, List.setIfInBounds_toArray, List.set_cons_zero, List.set_cons_succ]
      refine wpAnyH_take (i := 14) (v := ?va14) rfl (by kernel_rfl) (by kernel_rfl) (by kernel_rfl) (fun _ _ _ h => h) (Or.inl ⟨by rfl, ?ya14⟩) (by assumption) ?_
      case ya14 => intro w hSw; (try dsimp only at hSw); go_simp <;> with_reducible rfl
      try simp only [List.getElem_toArray, List.getElem_cons_succ, List.getElem_cons_zero, Act.put, List.setIfInBounds_toArray, List.set_cons_zero, List.set_cons_succ]
      refine wpAnyH_take (i := 15) (v := ?va15) rfl (by kernel_rfl) (by kernel_rfl) (by kernel_rfl) (fun _ _ _ h => h) (Or.inl ⟨by rfl, ?ya15⟩) (by assumption) ?_
      case ya15 => intro w hSw; (try dsimp only at hSw); go_simp <;> with_reducible rfl
      try simp only [List.getElem_toArray, List.getElem_cons_succ, List.getElem_cons_zero, Act.put, List.setIfInBounds_toArray, List.set_cons_zero, List.set_cons_succ]
      refine wpAnyH_done (by kernel_rfl) ?_ _
      have Z9 := Lib.hid hHeld.1
      clear hHeld SK OFX
      obtain ⟨y0, y1⟩ := ELT.out _ (bt RW.out Z9.out)
      go_wp2_with fail
      refine (ATX.out _ Z9.out).mono ?_
      rintro e w10 ⟨vo, vc, rfl, b10⟩
      have bo := (Below.refl w10.heap.size w10).alloc (Nat.le_refl _) (.cells #[.int .u32 (t : Int), .int .u8 (r : Int), .slice vo nu vc, .int .i64 p] 34)
      have Q8 := Lib.hid (bt (bt Z9.out b10) bo)
      have G8 : Hid ((w10.alloc (.cells #[.int .u32 (t : Int), .int .u8 (r : Int), .slice vo nu vc, .int .i64 p] 34)).heap[w10.heap.size]? = some (.cells #[.int .u32 (t : Int), .int .u8 (r : Int), .slice vo nu vc, .int .i64 p] 34)) := blk_new rfl
      obtain ⟨wm, hwm⟩ : ∃ x, x = w10.alloc (.cells #[.int .u32 (t : Int), .int .u8 (r : Int), .slice vo nu vc, .int .i64 p] 34) := ⟨_, rfl⟩
      rw [← hwm] at Q8 G8
      have HWM := Lib.hid hwm
      have CMY : Hid (∀ W : World, Below wm.heap.size wm W → Calls Try.prog 14 #[u6, .slice uo nu uc] W fun e w' => e = .returned (.int .i64 (-1)) ∧ Below W.heap.size W w') := fun W h => CMX.out W (bt Q8.out h)
      have LAY : Hid (∀ W : World, Below wm.heap.size wm W → Calls Try.prog 15 #[.slice uo nu uc] W fun e w' => e = .returned (.agg #[.int .u32 (t : Int), .int .u8 (r : Int)]) ∧ Below W.heap.size W w') := fun W h => LAX.out W (bt Q8.out h)
      have SK : Hid (∀ w' : World, Below wm.heap.size wm w' → Below wm.heap.size wm w' ∧ w'.cell? ⟨w10.heap.size, 0, none⟩ = some (.int .u32 (t : Int)) ∧ w'.cell? ⟨w10.heap.size, 1, none⟩ = some (.int .u8 (r : Int)) ∧ w'.cell? ⟨bx, ox + k * 4, none⟩ = some (.int .u32 (t : Int)) ∧ w'.cell? ⟨bx, ox + k * 4 + 1, none⟩ = some (.int .u8 (r : Int)) ∧ w'.cell? ⟨bx, ox + k * 4 + 2, none⟩ = some (.slice uo nu uc) ∧ w'.cell? ⟨bx, ox + k * 4 + 3, none⟩ = some (.int .i64 p)) := fun W h => by
        have a1 := cells4 (blk_below h G8.out)
        have a2 := ELX.out W (bt Q8.out h)
        exact ⟨h, a1.1, a1.2.1, a2.1, a2.2.1, a2.2.2.1, a2.2.2.2⟩
      have gq : decide ((0 : Int) ≤ -1) = false := by decide
      clear hwm bo b10 y0 y1 ATX CMX LAX G8
      go_wp2
      rw [← HWM.out]
      refine wp_region_held_drew (S := fun w' => Below wm.heap.size wm w' ∧ w'.cell? ⟨w10.heap.size, 0, none⟩ = some (.int .u32 (t : Int)) ∧ w'.cell? ⟨w10.heap.size, 1, none⟩ = some (.int .u8 (r : Int)) ∧ w'.cell? ⟨bx, ox + k * 4, none⟩ = some (.int .u32 (t : Int)) ∧ w'.cell? ⟨bx, ox + k * 4 + 1, none⟩ = some (.int .u8 (r : Int)) ∧ w'.cell? ⟨bx, ox + k * 4 + 2, none⟩ = some (.slice uo nu uc) ∧ w'.cell? ⟨bx, ox + k * 4 + 3, none⟩ = some (.int .i64 p)) (by kernel_rfl) (SK.out _ (drew1 _)) (fun hHeld => ?_)
      refine wpAnyH_take (i := 0) (v := ?vb0) rfl (by kernel_rfl) (by kernel_rfl) (by kernel_rfl) (fun _ _ _ h => h) (Or.inl ⟨by rfl, ?yb0⟩) (by assumption) ?_
      case yb0 => intro w hSw; (try dsimp only at hSw); go_simp <;> with_reducible rfl
      try simp only [List.getElem_toArray, List.getElem_cons_zero, Act.put, List.setIfInBounds_toArray, List.set_cons_zero, List.set_cons_succ]
      refine wpAnyH_take (i := 1) (v := ?vb1) rfl (by kernel_rfl) (by kernel_rfl) (by kernel_rfl) (fun _ _ _ h => h) (Or.inl ⟨by rfl, ?yb1⟩) (by assumption) ?_
      case yb1 => intro w hSw; (try dsimp only at hSw); go_simp <;> with_reducible rfl
      try simp only [List.getElem_toArray, List.getElem_cons_succ, List.getElem_cons_zero, Act.put, List.setIfInBounds_toArray, List.set_cons_zero, List.set_cons_succ]
      refine wpAnyH_take (i := 2) (v := ?vb2) rfl (by kernel_rfl) (by kernel_rfl) (by kernel_rfl) (fun _ _ _ h => h) (Or.inl ⟨by rfl, ?yb2⟩) (by assumption) ?_
      case yb2 => intro w hSw; (try dsimp only at hSw); go_simp <;> with_reducible rfl
      try simp only [List.getElem_toArray, List.getElem_cons_succ, List.getElem_cons_zero, Act.put, List.setIfInBounds_toArray, List.set_cons_zero, List.set_cons_succ]
      refine wpAnyH_take (i := 3) (v := ?vb3) rfl (by kernel_rfl) (by kernel_rfl) (by kernel_rfl) (fun _ _ _ h => h) (Or.inl ⟨by rfl, ?yb3⟩) (by assumption) ?_
      case yb3 => intro w hSw; (try dsimp only at hSw); go_simp <;> with_reducible rfl
      try simp only [List.getElem_toArray, List.getElem_cons_succ, List.getElem_cons_zero, Act.put, List.setIfInBounds_toArray, List.set_cons_zero, List.set_cons_succ]
      refine wpAnyH_take (i := 4) (v := ?vb4) rfl (by kernel_rfl) (by kernel_rfl) (by kernel_rfl) (fun _ _ _ h => h) (Or.inl ⟨by rfl, ?yb4⟩) (by assumption) ?_
      case yb4 => intro w hSw; (try dsimp only at hSw); go_simp <;> with_reducible rfl
      try simp only [List.getElem_toArray, List.getElem_cons_succ, List.getElem_cons_zero, Act.put, List.setIfInBounds_toArray, List.set_cons_zero, List.set_cons_succ]
      refine wpAnyH_take (i := 5) (v := ?vb5) rfl (by kernel_rfl) (by kernel_rfl) (by kernel_rfl) (fun _ _ _ h => h) (Or.inl ⟨by rfl, ?yb5⟩) (by assumption) ?_
      case yb5 => intro w hSw; (try dsimp only at hSw); go_simp <;> with_reducible rfl
      try simp only [List.getElem_toArray, List.getElem_cons_succ, List.getElem_cons_zero, Act.put, List.setIfInBounds_toArray, List.set_cons_zero, List.set_cons_succ]
      refine wpAnyH_take (i := 6) (v := ?vb6) rfl (by kernel_rfl) (by kernel_rfl) (by kernel_rfl) (fun _ _ _ h => h) (Or.inl ⟨by rfl, ?yb6⟩) (by assumption) ?_
      case yb6 => intro w hSw; (try dsimp only at hSw); go_simp <;> with_reducible rfl
      try simp only [List.getElem_toArray, List.getElem_cons_succ, List.getElem_cons_zero, Act.put, List.setIfInBounds_toArray, List.set_cons_zero, List.set_cons_succ]
      refine wpAnyH_take (i := 7) (v := ?vb7) rfl (by kernel_rfl) (by kernel_rfl) (by kernel_rfl) (fun _ _ _ h => h) (Or.inl ⟨by rfl, ?yb7⟩) (by assumption) ?_
      case yb7 => intro w hSw; (try dsimp only at hSw); go_simp <;> with_reducible rfl
      try simp only [List.getElem_toArray, List.getElem_cons_succ, List.getElem_cons_zero, Act.put, List.setIfInBounds_toArray, List.set_cons_zero, List.set_cons_succ]
      refine wpAnyH_take (i := 8) (v := ?vb8) rfl (by kernel_rfl) (by kernel_rfl) (by kernel_rfl) (fun _ _ _ h => h) (Or.inl ⟨by rfl, ?yb8⟩) (by assumption) ?_
      case yb8 => intro w hSw; (try dsimp only at hSw); go_simp <;> with_reducible rfl
      try simp only [List.getElem_toArray, List.getElem_cons_succ, List.getElem_cons_zero, Act.put, List.setIfInBounds_toArray, List.set_cons_zero, List.set_cons_succ]
      refine wpAnyH_take (i := 9) (v := ?vb9) rfl (by kernel_rfl) (by kernel_rfl) (by kernel_rfl) (fun _ _ _ h => h) (Or.inl ⟨by rfl, ?yb9⟩) (by assumption) ?_
      case yb9 => intro w hSw; (try dsimp only at hSw); go_simp <;> with_reducible rfl
      try simp only [List.getElem_toArray, List.getElem_cons_succ, List.getElem_cons_zero, Act.put, List.setIfInBounds_toArray, List.set_cons_zero, List.set_cons_succ]
      refine wpAnyH_take (i := 10) (v := ?vb10) rfl (by kernel_rfl) (by kernel_rfl) (by kernel_rfl) (fun _ _ _ h => h) (Or.inl ⟨by rfl, ?yb10⟩) (by assumption) ?_
      case yb10 => intro w hSw; (try dsimp only at hSw); go_simp <;> with_reducible rfl
      try simp only [List.getElem_toArray, List.getElem_cons_succ, List.getElem_cons_zero, Act.put, List.setIfInBounds_toArray, List.set_cons_zero, List.set_cons_succ]
      refine wpAnyH_take (i := 11) (v := ?vb11) rfl (by kernel_rfl) (by kernel_rfl) (by kernel_rfl) (fun _ _ _ h => h) (Or.inl ⟨by rfl, ?yb11⟩) (by assumption) ?_
      case yb11 => intro w hSw; (try dsimp only at hSw); go_simp <;> with_reducible rfl
      try simp only [List.getElem_toArray, List.getElem_cons_succ, List.getElem_cons_zero, Act.put, List.setIfInBounds_toArray, List.set_cons_zero, List.set_cons_succ]
      refine wpAnyH_take (i := 12) (v := ?vb12) rfl (by kernel_rfl) (by kernel_rfl) (by kernel_rfl) (fun _ _ _ h => h) (Or.inl ⟨by rfl, ?yb12⟩) (by assumption) ?_
      case yb12 => intro w hSw; (try dsimp only at hSw); go_simp <;> with_reducible rfl
      try simp only [List.getElem_toArray, List.getElem_cons_succ, List.getElem_cons_zero, Act.put, List.setIfInBounds_toArray, List.set_cons_zero, List.set_cons_succ]
      refine wpAnyH_take (i := 13) (v := ?vb13) rfl (by kernel_rfl) (by kernel_rfl) (by kernel_rfl) (fun _ _ _ h => h) (Or.inl ⟨by rfl, ?yb13⟩) (by assumption) ?_
      case yb13 => intro w hSw; (try dsimp only at hSw); go_simp <;> with_reducible rfl
      try simp only [List.getElem_toArray, List.getElem_cons_succ, List.getElem_cons_zero, Act.put, List.setIfInBounds_toArray, List.set_cons_zero, List.set_cons_succ]
      refine wpAnyH_take (i := 14) (v := ?vb14) rfl (by kernel_rfl) (by kernel_rfl) (by kernel_rfl) (fun _ _ _ h => h) (Or.inl ⟨by rfl, ?yb14⟩) (by assumption) ?_
      case yb14 => intro w hSw; (try dsimp only at hSw); go_simp <;> with_reducible rfl
      try simp only [List.getElem_toArray, List.getElem_cons_succ, List.getElem_cons_zero, Act.put, List.setIfInBounds_toArray, List.set_cons_zero, List.set_cons_succ]
      refine wpAnyH_take (i := 15) (v := ?vb15) rfl (by kernel_rfl) (by kernel_rfl) (by kernel_rfl) (fun _ _ _ h => h) (Or.inl ⟨by rfl, ?yb15⟩) (by assumption) ?_
      case yb15 => intro w hSw; (try dsimp only at hSw); go_simp <;> with_reducible rfl
      try simp only [List.getElem_toArray, List.getElem_cons_succ, List.getElem_cons_zero, Act.put, List.setIfInBounds_toArray, List.set_cons_zero, List.set_cons_succ]
      refine wpAnyH_take (i := 16) (v := ?vb16) rfl (by kernel_rfl) (by kernel_rfl) (by kernel_rfl) (fun _ _ _ h => h) (Or.inl ⟨by rfl, ?yb16⟩) (by assumption) ?_
      case yb16 => intro w hSw; (try dsimp only at hSw); go_simp <;> with_reducible rfl
      try simp only [List.getElem_toArray, List.getElem_cons_succ, List.getElem_cons_zero, Act.put, List.setIfInBounds_toArray, List.set_cons_zero, List.set_cons_succ]
      refine wpAnyH_take (i := 17) (v := ?vb17) rfl (by kernel_rfl) (by kernel_rfl) (by kernel_rfl) (fun _ _ _ h => h) (Or.inl ⟨by rfl, ?yb17⟩) (by assumption) ?_
      case yb17 => intro w hSw; (try dsimp only at hSw); go_simp <;> with_reducible rfl
      try simp only [List.getElem_toArray, List.getElem_cons_succ, List.getElem_cons_zero, Act.put, List.setIfInBounds_toArray, List.set_cons_zero, List.set_cons_succ]
      refine wpAnyH_take (i := 18) (v := ?vb18) rfl (by kernel_rfl) (by kernel_rfl) (by kernel_rfl) (fun _ _ _ h => h) (Or.inl ⟨by rfl, ?yb18⟩) (by assumption) ?_
      case yb18 => intro w hSw; (try dsimp only at hSw); go_simp <;> with_reducible rfl
      try simp only [List.getElem_toArray, List.getElem_cons_succ, List.getElem_cons_zero, Act.put, List.setIfInBounds_toArray, List.set_cons_zero, List.set_cons_succ]
      refine wpAnyH_take (i := 19) (v := ?vb19) rfl (by kernel_rfl) (by kernel_rfl) (by kernel_rfl) (fun _ _ _ h => h) (Or.inl ⟨by rfl, ?yb19⟩) (by assumption) ?_
      case yb19 => intro w hSw; (try dsimp only at hSw); go_simp <;> with_reducible rfl
      try simp only [List.getElem_toArray, List.getElem_cons_succ, List.getElem_cons_zero, Act.put, List.setIfInBounds_toArray, List.set_cons_zero, List.set_cons_succ]
      refine wpAnyH_take (i := 20) (v := ?vb20) rfl (by kernel_rfl) (by kernel_rfl) (by kernel_rfl) (fun _ _ _ h => h) (Or.inl ⟨by rfl, ?yb20⟩) (by assumption) ?_
      case yb20 => intro w hSw; (try dsimp only at hSw); go_simp <;> with_reducible rfl
      try simp only [List.getElem_toArray, List.getElem_cons_succ, List.getElem_cons_zero, Act.put, List.setIfInBounds_toArray, List.set_cons_zero, List.set_cons_succ]
      refine wpAnyH_take (i := 21) (v := ?vb21) rfl (by kernel_rfl) (by kernel_rfl) (by kernel_rfl) (fun _ _ _ h => h) (Or.inl ⟨by rfl, ?yb21⟩) (by assumption) ?_
      case yb21 => intro w hSw; (try dsimp only at hSw); go_simp <;> with_reducible rfl
      try simp only [List.getElem_toArray, List.getElem_cons_succ, List.getElem_cons_zero, Act.put, List.setIfInBounds_toArray, List.set_cons_zero, List.set_cons_succ]
      refine wpAnyH_take (i := 22) (v := ?vb22) rfl (by kernel_rfl) (by kernel_rfl) (by kernel_rfl) (fun _ _ _ h => h) (Or.inl ⟨by rfl, ?yb22⟩) (by assumption) ?_
      case yb22 => intro w hSw; (try dsimp only at hSw); go_simp <;> with_reducible rfl
      try simp only [List.getElem_toArray, List.getElem_cons_succ, List.getElem_cons_zero, Act.put, List.setIfInBounds_toArray, List.set_cons_zero, List.set_cons_succ]
      refine wpAnyH_take (i := 23) (v := ?vb23) rfl (by kernel_rfl) (by kernel_rfl) (by kernel_rfl) (fun _ _ _ h => h) (Or.inl ⟨by rfl, ?yb23⟩) (by assumption) ?_
      case yb23 => intro w hSw; (try dsimp only at hSw); go_simp <;> with_reducible rfl
      try simp only [List.getElem_toArray, List.getElem_cons_succ, List.getElem_cons_zero, Act.put, List.setIfInBounds_toArray, List.set_cons_zero, List.set_cons_succ]
      refine wpAnyH_take (i := 24) (v := ?vb24) rfl (by kernel_rfl) (by kernel_rfl) (by kernel_rfl) (fun _ _ _ h => h) (Or.inl ⟨by rfl, ?yb24⟩) (by assumption) ?_
      case yb24 => intro w hSw; (try dsimp only at hSw); go_simp <;> with_reducible rfl
      try simp only [List.getElem_toArray, List.getElem_cons_succ, List.getElem_cons_zero, Act.put, List.setIfInBounds_toArray, List.set_cons_zero, List.set_cons_succ]
      refine wpAnyH_take (i := 25) (v := ?vb25) rfl (by kernel_rfl) (by kernel_rfl) (by kernel_rfl) (fun _ _ _ h => h) (Or.inl ⟨by rfl, ?yb25⟩) (by assumption) ?_
      case yb25 => intro w hSw; (try dsimp only at hSw); go_simp <;> with_reducible rfl
      try simp only [List.getElem_toArray, List.getElem_cons_succ, List.getElem_cons_zero, Act.put, List.setIfInBounds_toArray, List.set_cons_zero, List.set_cons_succ]
      refine wpAnyH_take (i := 26) (v := ?vb26) rfl (by kernel_rfl) (by kernel_rfl) (by kernel_rfl) (fun _ _ _ h => h) (Or.inl ⟨by rfl, ?yb26⟩) (by assumption) ?_
      case yb26 => intro w hSw; (try dsimp only at hSw); go_simp <;> with_reducible rfl
      try simp only [List.getElem_toArray, List.getElem_cons_succ, List.getElem_cons_zero, Act.put, List.setIfInBounds_toArray, List.set_cons_zero, List.set_cons_succ]
      refine wpAnyH_take (i := 27) (v := ?vb27) rfl (by kernel_rfl) (by kernel_rfl) (by kernel_rfl) (fun _ _ _ h => h) (Or.inl ⟨by rfl, ?yb27⟩) (by assumption) ?_
      case yb27 => intro w hSw; (try dsimp only at hSw); go_simp <;> with_reducible rfl
      try simp only [List.getElem_toArray, List.getElem_cons_succ, List.getElem_cons_zero, Act.put, List.setIfInBounds_toArray, List.set_cons_zero, List.set_cons_succ]
      refine wpAnyH_ready (rs := [28]) (by kernel_rfl) (by simp) ?_
      refine AllReadyH.cons rfl (fun K hK => ?_) ?zb28
      case zb28 => exact AllReadyH.nil
      go_simp
      refine (CMY.out _ hHeld.1).mono ?_
      rintro e w9b28 ⟨rfl, b9⟩
      refine hK.out _ _ (SK.out _ (bt hHeld.1 b9)) (fun hNew => ?_)
      clear hHeld
      have hHeld := hNew
      clear hNew hK K
      try simp only [List.getElem_toArray, List.getElem_cons_succ, List.getElem_cons_zero, Act.put, List.setIfInBounds_toArray, List.set_cons_zero, List.set_cons_succ]
      refine wpAnyH_take (i := 29) (v := ?vb29) rfl (by kernel_rfl) (by kernel_rfl) (by kernel_rfl) (fun _ _ _ h => h) (Or.inl ⟨by rfl, ?yb29⟩) (by assumption) ?_
      case yb29 => intro w hSw; (try dsimp only at hSw); go_simp <;> with_reducible rfl
      try simp only [List.getElem_toArray, List.getElem_cons_succ, List.getElem_cons_zero, Act.put, List.setIfInBounds_toArray, List.set_cons_zero, List.set_cons_succ]
      refine wpAnyH_take (i := 30) (v := ?vb30) rfl (by kernel_rfl) (by kernel_rfl) (by kernel_rfl) (fun _ _ _ h => h) (Or.inl ⟨by rfl, ?yb30⟩) (by assumption) ?_
      case yb30 => intro w hSw; (try dsimp only at hSw); go_simp <;> with_reducible rfl
      try simp only [List.getElem_toArray, List.getElem_cons_succ, List.getElem_cons_zero, Act.put, List.setIfInBounds_toArray, List.set_cons_zero, List.set_cons_succ]
      refine wpAnyH_take (i := 31) (v := ?vb31) rfl (by kernel_rfl) (by kernel_rfl) (by kernel_rfl) (fun _ _ _ h => h) (Or.inl ⟨by rfl, ?yb31⟩) (by assumption) ?_
      case yb31 => intro w hSw; (try dsimp only at hSw); go_simp <;> with_reducible rfl
      try simp only [List.getElem_toArray, List.getElem_cons_succ, List.getElem_cons_zero, Act.put, List.setIfInBounds_toArray, List.set_cons_zero, List.set_cons_succ]
      refine wpAnyH_take (i := 32) (v := ?vb32) rfl (by kernel_rfl) (by kernel_rfl) (by kernel_rfl) (fun _ _ _ h => h) (Or.inl ⟨by rfl, ?yb32⟩) (by assumption) ?_
      case yb32 => intro w hSw; (try dsimp only at hSw); go_simp <;> with_reducible rfl
      try simp only [List.getElem_toArray, List.getElem_cons_succ, List.getElem_cons_zero, Act.put, List.setIfInBounds_toArray, List.set_cons_zero, List.set_cons_succ]
      refine wpAnyH_take (i := 33) (v := ?vb33) rfl (by kernel_rfl) (by kernel_rfl) (by kernel_rfl) (fun _ _ _ h => h) (Or.inl ⟨by rfl, ?yb33⟩) (by assumption) ?_
      case yb33 => intro w hSw; (try dsimp only at hSw); go_simp <;> with_reducible rfl
      try simp only [List.getElem_toArray, List.getElem_cons_succ, List.getElem_cons_zero, Act.put, List.setIfInBounds_toArray, List.set_cons_zero, List.set_cons_succ]
      refine wpAnyH_take (i := 34) (v := ?vb34) rfl (by kernel_rfl) (by kernel_rfl) (by kernel_rfl) (fun _ _ _ h => h) (Or.inl ⟨by rfl, ?yb34⟩) (by assumption) ?_
      case yb34 => intro w hSw; (try dsimp only at hSw); go_simp <;> with_reducible rfl
      try simp only [List.getElem_toArray, List.getElem_cons_succ, List.getElem_cons_zero, Act.put, List.setIfInBounds_toArray, List.set_cons_zero, List.set_cons_succ]
      refine wpAnyH_take (i := 35) (v := ?vb35) rfl (by kernel_rfl) (by kernel_rfl) (by kernel_rfl) (fun _ _ _ h => h) (Or.inl ⟨by rfl, ?yb35⟩) (by assumption) ?_
      case yb35 => intro w hSw; (try dsimp only at hSw); go_simp <;> with_reducible rfl
      try simp only [List.getElem_toArray, List.getElem_cons_succ, List.getElem_cons_zero, Act.put, List.setIfInBounds_toArray, List.set_cons_zero, List.set_cons_succ]
      refine wpAnyH_take (i := 36) (v := ?vb36) rfl (by kernel_rfl) (by kernel_rfl) (by kernel_rfl) (fun _ _ _ h => h) (Or.inl ⟨by rfl, ?yb36⟩) (by assumption) ?_
      case yb36 => intro w hSw; (try dsimp only at hSw); go_simp <;> with_reducible rfl
      try simp only [List.getElem_toArray, List.getElem_cons_succ, List.getElem_cons_zero, Act.put, List.setIfInBounds_toArray, List.set_cons_zero, List.set_cons_succ]
      refine wpAnyH_take (i := 38) (v := ?vb38) rfl (by kernel_rfl) (by kernel_rfl) (by kernel_rfl) (fun _ _ _ h => h) (Or.inl ⟨by rfl, ?yb38⟩) (by assumption) ?_
      case yb38 => intro w hSw; (try dsimp only at hSw); go_simp <;> with_reducible rfl
      try simp only [List.getElem_toArray, List.getElem_cons_succ, List.getElem_cons_zero, Act.put, List.setIfInBounds_toArray, List.set_cons_zero, List.set_cons_succ]
      refine wpAnyH_take (i := 39) (v := ?vb39) rfl (by kernel_rfl) (by kernel_rfl) (by kernel_rfl) (fun _ _ _ h => h) (Or.inl ⟨by rfl, ?yb39⟩) (by assumption) ?_
      case yb39 => intro w hSw; (try dsimp only at hSw); go_simp <;> with_reducible rfl
      try simp only [List.getElem_toArray, List.getElem_cons_succ, List.getElem_cons_zero, Act.put, List.setIfInBounds_toArray, List.set_cons_zero, List.set_cons_succ]
      refine wpAnyH_take (i := 40) (v := ?vb40) rfl (by kernel_rfl) (by kernel_rfl) (by kernel_rfl) (fun _ _ _ h => h) (Or.inl ⟨by rfl, ?yb40⟩) (by assumption) ?_
      case yb40 => intro w hSw; (try dsimp only at hSw); go_simp <;> with_reducible rfl
      try simp only [List.getElem_toArray, List.getElem_cons_succ, List.getElem_cons_zero, Act.put, List.setIfInBounds_toArray, List.set_cons_zero, List.set_cons_succ]
      refine wpAnyH_take (i := 41) (v := ?vb41) rfl (by kernel_rfl) (by kernel_rfl) (by kernel_rfl) (fun _ _ _ h => h) (Or.inl ⟨by rfl, ?yb41⟩) (by assumption) ?_
      case yb41 => intro w hSw; (try dsimp only at hSw); go_simp <;> with_reducible rfl
      try simp only [List.getElem_toArray, List.getElem_cons_succ, List.getElem_cons_zero, Act.put, List.setIfInBounds_toArray, List.set_cons_zero, List.set_cons_succ]
      refine wpAnyH_take (i := 42) (v := ?vb42) rfl (by kernel_rfl) (by kernel_rfl) (by kernel_rfl) (fun _ _ _ h => h) (Or.inl ⟨by rfl, ?yb42⟩) (by assumption) ?_
      case yb42 => intro w hSw; (try dsimp only at hSw); go_simp <;> with_reducible rfl
      try simp only [List.getElem_toArray, List.getElem_cons_succ, List.getElem_cons_zero, Act.put, List.setIfInBounds_toArray, List.set_cons_zero, List.set_cons_succ]
      refine wpAnyH_ready (rs := [37]) (by kernel_rfl) (by simp) ?_
      refine AllReadyH.cons rfl (fun K hK => ?_) ?zb37
      case zb37 => exact AllReadyH.nil
      go_simp
      refine (LAY.out _ hHeld.1).mono ?_
      rintro e w9b37 ⟨rfl, b9⟩
      refine hK.out _ _ (SK.out _ (bt hHeld.1 b9)) (fun hNew => ?_)
      clear hHeld
      have hHeld := hNew
      clear hNew hK K
      try simp only [List.getElem_toArray, List.getElem_cons_succ, List.getElem_cons_zero, Act.put, List.setIfInBounds_toArray, List.set_cons_zero, List.set_cons_succ]
      refine wpAnyH_take (i := 43) (v := ?vb43) rfl (by kernel_rfl) (by kernel_rfl) (by kernel_rfl) (fun _ _ _ h => h) (Or.inl ⟨by rfl, ?yb43⟩) (by assumption) ?_
      case yb43 => intro w hSw; (try dsimp only at hSw); go_simp <;> with_reducible rfl
      try simp only [List.getElem_toArray, List.getElem_cons_succ, List.getElem_cons_zero, Act.put, List.setIfInBounds_toArray, List.set_cons_zero, List.set_cons_succ]
      refine wpAnyH_take (i := 44) (v := ?vb44) rfl (by kernel_rfl) (by kernel_rfl) (by kernel_rfl) (fun _ _ _ h => h) (Or.inl ⟨by rfl, ?yb44⟩) (by assumption) ?_
      case yb44 => intro w hSw; (try dsimp only at hSw); go_simp <;> with_reducible rfl
      try simp only [List.getElem_toArray, List.getElem_cons_succ, List.getElem_cons_zero, Act.put, List.setIfInBounds_toArray, List.set_cons_zero, List.set_cons_succ]
      refine wpAnyH_done (by kernel_rfl) ?_ _
      have ZM := Lib.hid (bt Q8.out hHeld.1)
      clear hHeld CMY LAY SK Q8 HWM
      obtain ⟨x0, x1, x2, x3⟩ := ELX.out _ ZM.out
      have RUZ := Lib.hid (RUX.out _ ZM.out)
      have ZE := Lib.hid (bt hbe2.out ZM.out)
      clear ZM hbe2 ELX RUX
      go_wp2
      go_roundw
      case rel => exact ⟨k + 1, x.pl, by omega, by go_num, RUZ, QS, QT, ZE⟩
      case measure => simp [intOf]; omega
end Go.Proofs.Ytohiidgdpecbdaa.Views
