/- octavo/clock: Ids: what it answers. Conditions: the slices' cells are replicas' spans. -/
import Derived.Test.YtinglfhndlklaaaClockCode6
namespace Go.Proofs.Ytinglfhndlklaaa.Clocks
open Go.RowKit Go.Proofs.Ytinglfhndlklaaa.Spans
attribute [local go_sem ↓] Go.wp_at_zero Go.wp_at_succ

/-- A block stays, as another row grows. -/
theorem box_grown {w w' : World} {base sz n k : Nat} {e e' : TypeId} {v : Value} {cs : List Value} {a : Array Value} (hv : w.ownsRow base e sz v n cs) (hg : w.grownBy w' v.ownBlock) (hk : w.heap[k]? = some (.cells a e')) (hne : e' ≠ e) : w'.heap[k]? = some (.cells a e') :=
  (hg.block k (Array.getElem?_eq_some_iff.1 hk).1 (fun h => own_ne hv hk (fun c hc => hne (by injection hc)) h.symm)).trans hk

set_option maxRecDepth 100000 in
set_option maxHeartbeats 8000000 in
theorem cIds_any {v : Value} {c : List Tm} {w : World} (hv : Tms w v c) :
    Calls Try.prog 15 #[v] w (DoneI (idsCC c).1 (idsCC c).2 w) := by
  obtain ⟨ao, cap, rfl⟩ := hv.shape
  obtain ⟨n, hn⟩ : ∃ n, n = c.length := ⟨_, rfl⟩
  have hm : n ≤ 9223372036854775807 := by rw [hn]; exact Tms.max hv
  have M := Lib.hid (cCheck_any hv)
  have HV := Lib.hid hv
  have HN := Lib.hid hn
  obtain ⟨L, x, hd⟩ : ∃ L x, idsCC c = (L, x) := ⟨_, _, rfl⟩
  rw [hd]
  unfold idsCC at hd
  simp only
  unfold chkC at M
  have CN : Hid (∀ W : World, Below w.heap.size w W → Calls Try.prog 19 #[.slice ao c.length cap] W fun e w' => e = .returned (.int .i64 (countC c : Int)) ∧ Below W.heap.size W w') := fun W hW => cCount_any (HV.out.keeps hW)
  unfold countC at CN
  cases hb : mayC c
  · rw [hb, if_neg (by simp)] at M
    rw [hb, if_neg (by simp)] at hd
    obtain ⟨rfl, rfl⟩ : [] = L ∧ (8 : Int) = x := Prod.mk.inj hd
    clear hb hv hn CN
    go_enter Try.func15, Try.ntmps15
    go_wp2_with fail
    refine M.out.mono ?_
    rintro e w1 ⟨rfl, b1⟩
    go_wp2
    go_ret2
    exact ⟨_, rfl, OwnI.nil _ _, b1⟩
  rw [hb, if_pos rfl] at M CN hd
  have hc := (mayC_iff c).1 hb
  obtain ⟨mc, hmc⟩ : ∃ mc, mc = manyC c := ⟨_, rfl⟩
  rw [← hmc] at CN hd
  by_cases hbig : 1024 < mc
  · rw [if_pos hbig] at hd
    obtain ⟨rfl, rfl⟩ : [] = L ∧ (4 : Int) = x := Prod.mk.inj hd
    have t1 : decide ((1024 : Int) < (mc : Int)) = true := decide_eq_true (by omega)
    have t2 : decide (1024 < mc) = true := decide_eq_true hbig
    clear hb hv hn hc hmc
    go_enter Try.func15, Try.ntmps15
    go_wp2_with fail
    refine M.out.mono ?_
    rintro e w1 ⟨rfl, b1⟩
    have B1 := Lib.hid b1
    clear b1
    go_wp2_with fail
    refine (CN.out _ B1.out).mono ?_
    rintro e w2 ⟨rfl, b2⟩
    have B2 := Lib.hid (bt B1.out b2)
    clear b2
    go_wp2
    go_ret2
    exact ⟨_, rfl, OwnI.nil _ _, B2.out⟩
  rw [if_neg hbig] at hd
  obtain ⟨rfl, rfl⟩ : allI c = L ∧ (0 : Int) = x := Prod.mk.inj hd
  have t1 : decide ((1024 : Int) < (mc : Int)) = false := decide_eq_false (by omega)
  have t2 : decide (1024 < mc) = false := decide_eq_false hbig
  have HC := Lib.hid hc
  have HL : Hid ((allI c).length ≤ 1024) := by show _ ≤ _; rw [allI_len (cok_all hc), ← hmc]; omega
  rw [← hn] at M CN ⊢
  have O0 : Hid (∀ W : World, OwnI W w.heap.size (.slice none 0 0) (allI (c.take 0))) := fun W => OwnI.nil _ _
  obtain ⟨LL, hLL⟩ : ∃ LL, LL = allI c := ⟨_, rfl⟩
  have HLL := Lib.hid hLL
  rw [← hLL]
  clear hv hn hc hb hmc hLL hd
  go_enter Try.func15, Try.ntmps15
  go_wp2_with fail
  refine M.out.mono ?_
  rintro e w1 ⟨rfl, b1⟩
  have B1 := Lib.hid b1
  clear b1
  go_wp2_with fail
  refine (CN.out _ B1.out).mono ?_
  rintro e w2 ⟨rfl, b2⟩
  have B0 := Lib.hid (bt B1.out b2)
  clear b2 B1
  go_wp2
  go_loopw [5, 21] (fun o i wr => ∃ k : Nat, k ≤ n ∧ i = .int .i64 (k : Int) ∧ Hid (OwnI wr w.heap.size o (allI (c.take k))) ∧ Hid (Below w.heap.size w wr)) (fun _ i _ => n - (intOf i).toNat)
  case atStart => exact ⟨0, by omega, rfl, Lib.hid (O0.out _), B0⟩
  case round =>
    clear O0 B0
    obtain ⟨k, hk, rfl, hown, hbel⟩ := hrel
    by_cases hkn : k < n
    · have q1 : decide (k < n) = true := by simpa using hkn
      have q2 : (0 : Int) ≤ (k : Int) := by omega
      have q3 : (k : Int) < (n : Int) := by omega
      have hkl : k < c.length := by rw [← HN.out]; exact hkn
      obtain ⟨b1, o1, u, rfl, hb1, ha0, ha1, -, hsp⟩ := (HV.out.keeps hbel.out).at k hkl
      have hs := tm_take_snoc c k hkl
      have hts := allI_snoc (c.take k) (c.getD k ztm)
      rw [← hs] at hts
      have hle := allI_take_le c (k + 1)
      rw [hts, List.length_append] at hle
      have hok := up_all HC.out _ (tm_mem hkl)
      obtain ⟨x, hx⟩ : ∃ x, x = c.getD k ztm := ⟨_, rfl⟩
      have hx' : c.getD k (0, []) = x := hx.symm
      rw [hx'] at ha0 hsp
      rw [← hx] at hts hle hok
      obtain ⟨xr, xs⟩ := x
      simp only at ha0 hsp hts hle hok
      obtain ⟨so, sc, rfl⟩ := hsp.shape
      have HOK : Hid (∀ y ∈ xs, Ok y) := ((mayB_iff _).1 hok.2.2.2).1.all
      have hx8 : xr < 8 := hok.2.1
      obtain ⟨wo, rfl⟩ : ∃ wo : World, wo = wr := ⟨_, rfl⟩
      obtain ⟨P, hP⟩ : ∃ P, P = allI (c.take k) := ⟨_, rfl⟩
      rw [← hP] at hown hts hle
      have HTS := Lib.hid hts
      have HLE : Hid (P.length + (spI xr xs).length ≤ 1024) := by show _ ≤ _; have := HL.out; omega
      obtain ⟨sl, hsl⟩ : ∃ sl, sl = xs.length := ⟨_, rfl⟩
      have HSL := Lib.hid hsl
      have HSP := Lib.hid hsp
      rw [← hsl] at ha1 HSP
      have hslm : sl ≤ 1024 := by rw [hsl]; exact ((mayB_iff _).1 hok.2.2.2).2
      have BX1 : Hid (Below wo.heap.size wo (wo.alloc (.cells #[.int .u8 (xr : Int), .slice so sl sc] 28))) := (Below.refl _ _).alloc (Nat.le_refl _) _
      have K7 : Hid ((wo.alloc (.cells #[.int .u8 (xr : Int), .slice so sl sc] 28)).heap[wo.heap.size]? = some (.cells #[.int .u8 (xr : Int), .slice so sl sc] 28)) := kb_new rfl
      have O1 : Hid (OwnI (wo.alloc (.cells #[.int .u8 (xr : Int), .slice so sl sc] 28)) w.heap.size u5 (P ++ spI xr (xs.take 0))) := by
        show OwnI _ _ _ _
        rw [List.take_zero]
        have := own_stays (show wo.ownsRow _ _ _ _ _ _ from hown.out) BX1.out
        simpa [spI, OwnI] using this
      have BB1 := Lib.hid (bt hbel.out BX1.out)
      have HSP1 := Lib.hid (HSP.out.keeps BX1.out)
      have SPW : Hid (∀ W : World, Below w.heap.size w W → ∀ i, i < sl → ∃ b off, so = some ⟨b, off, none⟩ ∧ W.cell? ⟨b, off + i * 2, none⟩ = some (.int .u32 ((xs.getD i zsp).f : Int)) ∧ W.cell? ⟨b, off + i * 2 + 1, none⟩ = some (.int .u32 ((xs.getD i zsp).t : Int))) := fun W hW i hi => by
        obtain ⟨b9, o9, u9, h9, -, -, hz1, -, hsp9⟩ := (HV.out.keeps hW).at k hkl
        have e9 : u9 = .slice so sl sc := by
          obtain ⟨b8, o8, u8, h8, hb8, -, hz8, -, -⟩ := HV.out.at k hkl
          rw [h8] at h9
          obtain ⟨rfl, rfl⟩ : b8 = b9 ∧ o8 = o9 := by simpa using h9
          have z1 := (hW.cell (p := ⟨b8, o8 + k * 2 + 1, none⟩) hb8).trans hz8
          have z2 := (hbel.out.cell (p := ⟨b8, o8 + k * 2 + 1, none⟩) hb8).trans hz8
          obtain ⟨rfl, rfl⟩ : b1 = b8 ∧ o1 = o8 := by simpa using h8
          rw [ha1] at z2
          rw [hz1] at z1
          exact (Option.some.inj (z1.trans z2.symm))
        subst e9
        rw [hx'] at hsp9
        obtain ⟨b, off, h1, _, h2, h3⟩ := hsp9.at i (by show i < xs.length; omega)
        exact ⟨b, off, h1, h2, h3⟩
      clear hx hx' hs hts hle hok hP hsl hown hsp hbel BX1 HSP1 HSP
      go_wp2
      go_loopw [5, 28] (fun o j wr => ∃ i : Nat, i ≤ sl ∧ j = .int .i64 (i : Int) ∧ Hid (OwnI wr w.heap.size o (P ++ spI xr (xs.take i))) ∧ Hid (wr.heap[wo.heap.size]? = some (.cells #[.int .u8 (xr : Int), .slice so sl sc] 28)) ∧ Hid (Below w.heap.size w wr)) (fun _ j _ => sl - (intOf j).toNat)
      case atStart => exact ⟨0, by omega, rfl, O1, K7, BB1⟩
      case round =>
        clear O1 BB1 K7 ha0 ha1
        obtain ⟨i, hi, rfl, hown, hK7, hbel2⟩ := hrel
        obtain ⟨w2, rfl⟩ : ∃ w2 : World, w2 = wr := ⟨_, rfl⟩
        by_cases his : i < sl
        · have p1 : decide (i < sl) = true := by simpa using his
          have p2 : (0 : Int) ≤ (i : Int) := by omega
          have p3 : (i : Int) < (sl : Int) := by omega
          obtain ⟨b2, o2, rfl, hc0, hc1⟩ := SPW.out w2 hbel2.out i his
          have hss := take_snoc xs i (by rw [← HSL.out]; exact his)
          have htt := spI_snoc xr (xs.take i) (xs.getD i zsp)
          rw [← hss] at htt
          have hle2 := spI_take_le xr xs (i + 1)
          rw [htt, List.length_append, runI_len] at hle2
          have hzo : Ok (xs.getD i zsp) := HOK.out _ (by rw [List.getD, List.getElem?_eq_getElem (by rw [← HSL.out]; exact his)]; exact List.getElem_mem _)
          obtain ⟨z, hz⟩ : ∃ z, z = xs.getD i zsp := ⟨_, rfl⟩
          rw [← hz] at hc0 hc1 htt hle2 hzo
          obtain ⟨f, t, hf, ht⟩ := z
          unfold Ok at hzo
          simp only at hc0 hc1 htt hle2 hzo
          obtain ⟨z1, z2, z3⟩ := hzo
          obtain ⟨Q, hQ⟩ : ∃ Q, Q = P ++ spI xr (xs.take i) := ⟨_, rfl⟩
          rw [← hQ] at hown
          have HTT : Hid (P ++ spI xr (xs.take (i + 1)) = Q ++ runI xr f (t + 1 - f)) := by show _ = _; rw [htt, hQ, List.append_assoc]
          have HQL : Hid (Q.length + (t + 1 - f) ≤ 1024) := by show _ ≤ _; rw [hQ, List.length_append]; have := HLE.out; omega
          have BX2 : Hid (Below w2.heap.size w2 (w2.alloc (.cells #[.int .u32 (f : Int), .int .u32 (t : Int)] 63))) := (Below.refl _ _).alloc (Nat.le_refl _) _
          have K9 : Hid ((w2.alloc (.cells #[.int .u32 (f : Int), .int .u32 (t : Int)] 63)).heap[w2.heap.size]? = some (.cells #[.int .u32 (f : Int), .int .u32 (t : Int)] 63)) := kb_new rfl
          have K72 : Hid ((w2.alloc (.cells #[.int .u32 (f : Int), .int .u32 (t : Int)] 63)).heap[wo.heap.size]? = some (.cells #[.int .u8 (xr : Int), .slice (some ⟨b2, o2, none⟩) sl sc] 28)) := kb_old hK7.out
          have O2 : Hid (OwnI (w2.alloc (.cells #[.int .u32 (f : Int), .int .u32 (t : Int)] 63)) w.heap.size u5 (Q ++ runI xr f (f - f))) := by
            show OwnI _ _ _ _
            rw [Nat.sub_self]
            have := own_stays (show w2.ownsRow _ _ _ _ _ _ from hown.out) BX2.out
            simpa [runI, OwnI] using this
          have BB2 := Lib.hid (bt hbel2.out BX2.out)
          clear hz hss htt hle2 hQ hown BX2 hK7
          go_wp2
          go_loopw [5, 10] (fun o q wr => ∃ e : Nat, f ≤ e ∧ e ≤ t + 1 ∧ q = .int .u32 (e : Int) ∧ Hid (OwnI wr w.heap.size o (Q ++ runI xr f (e - f))) ∧ Hid (wr.heap[wo.heap.size]? = some (.cells #[.int .u8 (xr : Int), .slice (some ⟨b2, o2, none⟩) sl sc] 28)) ∧ Hid (wr.heap[w2.heap.size]? = some (.cells #[.int .u32 (f : Int), .int .u32 (t : Int)] 63)) ∧ Hid (Below w.heap.size w wr)) (fun _ q _ => t + 1 - (intOf q).toNat)
          case atStart => exact ⟨f, by omega, by omega, rfl, O2, K72, K9, BB2⟩
          case round =>
            clear O2 K72 K9 BB2 hc0 hc1
            obtain ⟨e, he1, he2, rfl, hown, hK7, hK9, hbel3⟩ := hrel
            obtain ⟨w3, rfl⟩ : ∃ w3 : World, w3 = wr := ⟨_, rfl⟩
            obtain ⟨ha0, ha1⟩ := two_blk hK7.out
            obtain ⟨d0, d1⟩ := two_blk hK9.out
            by_cases het : e ≤ t
            · have t1 : decide ((e : Int) ≤ (t : Int)) = true := decide_eq_true (by omega)
              have t2 : decide (e ≤ t) = true := decide_eq_true het
              have hrun := runI_snoc xr (e - f) f
              rw [show f + (e - f) = e by omega] at hrun
              have hlen : (Q ++ runI xr f (e - f)).length = Q.length + (e - f) := by rw [List.length_append, runI_len]
              obtain ⟨M, hM⟩ : ∃ M, M = Q ++ runI xr f (e - f) := ⟨_, rfl⟩
              rw [← hM] at hown hlen
              have HR : Hid (Q ++ runI xr f (e + 1 - f) = M ++ [idOf xr e]) := by show _ = _; rw [show e + 1 - f = e - f + 1 by omega, hrun, hM, List.append_assoc]
              have hML : M.length ≤ 1024 := by have := HQL.out; omega
              have SE : Hid (Sees (w3.alloc (.cells #[.int .u32 (e : Int), .int .u8 (xr : Int)] 34)) (.slice (some ⟨w3.heap.size, 0, none⟩) 1 1) 2 1 (ids [idOf xr e])) := by
                have h := sees_new w3 (ids [idOf xr e]) 2 1 rfl (by omega) 34 (0, 0)
                rw [ids_one, idOf_t (by omega), idOf_r (by omega)] at h
                show Sees _ _ _ _ (ids [idOf xr e])
                rw [ids_one, idOf_t (by omega), idOf_r (by omega)]
                exact h
              have BX := Lib.hid ((Below.refl w3.heap.size w3).alloc (Nat.le_refl _) (.cells #[.int .u32 (e : Int), .int .u8 (xr : Int)] 34))
              have OX := Lib.hid (own_stays (show w3.ownsRow _ _ _ _ _ _ from hown.out) BX.out)
              have KX7 : Hid ((w3.alloc (.cells #[.int .u32 (e : Int), .int .u8 (xr : Int)] 34)).heap[wo.heap.size]? = some (.cells #[.int .u8 (xr : Int), .slice (some ⟨b2, o2, none⟩) sl sc] 28)) := kb_old hK7.out
              have KX9 : Hid ((w3.alloc (.cells #[.int .u32 (e : Int), .int .u8 (xr : Int)] 34)).heap[w2.heap.size]? = some (.cells #[.int .u32 (f : Int), .int .u32 (t : Int)] 63)) := kb_old hK9.out
              have hsz3 := hbel3.out.size
              have eT : IntKind.u32.wrap ((e : Int) + 1) = (e : Int) + 1 := by rw [IntKind.wrap_u32]; omega
              obtain ⟨oo, oc, rfl⟩ := Sees.shape (Sees.own (show w3.ownsRow _ _ _ _ _ _ from hown.out))
              obtain ⟨ml, hml⟩ : ∃ ml, ml = M.length := ⟨_, rfl⟩
              rw [← hml] at OX hML ⊢
              have HMLl := Lib.hid hml
              clear hrun hlen hM hown hml hK7 hK9
              go_wp2_with (at_builtin; refine wpList_append_sees rfl (.tmp 40) (.tmp 45) 36 34 rfl Try.underlying36 id_info rfl (by decide) w.heap.size _ ml (ids M) rfl OX.out _ 1 _ rfl SE.out (ids_oneCell _) ?a1 ?a2 ?a3 ?_)
              case a1 => omega
              case a2 => omega
              case a3 => exact Nat.le_trans hsz3 BX.out.size
              rintro v5 w5 o5 g5 b5
              have O5 : Hid (OwnI w5 w.heap.size v5 (Q ++ runI xr f (e + 1 - f))) := by
                show World.ownsRow _ _ _ _ _ _ _
                rw [HR.out, ids_append, List.length_append, ← HMLl.out]
                exact o5
              have K75 := Lib.hid (box_grown OX.out g5 KX7.out (by decide))
              have K95 := Lib.hid (box_grown OX.out g5 KX9.out (by decide))
              have B5 := Lib.hid ((hbel3.out.trans (BX.out.mono hsz3)).trans b5)
              clear o5 g5 b5 OX SE BX KX7 KX9
              go_wp2
              go_roundw
              case rel => exact ⟨e + 1, by omega, by omega, by go_num, O5, K75, K95, B5⟩
              case measure => simp [intOf]; omega
            · obtain rfl : e = t + 1 := by omega
              have t1 : decide (((t + 1 : Nat) : Int) ≤ (t : Int)) = false := decide_eq_false (by omega)
              have t1' : decide ((t : Int) + 1 ≤ (t : Int)) = false := decide_eq_false (by omega)
              have t2 : decide (t + 1 ≤ t) = false := decide_eq_false (by omega)
              have O6 : Hid (OwnI w3 w.heap.size u5 (P ++ spI xr (xs.take (i + 1)))) := by show OwnI _ _ _ _; rw [HTT.out]; exact hown.out
              clear hown
              go_wp2
              go_roundw
              case rel => exact ⟨i + 1, by omega, by go_num, O6, hK7, hbel3⟩
              case measure => simp [intOf]; omega
        · have p1 : decide (i < sl) = false := by simpa using his
          have hkk : xs.take i = xs := List.take_of_length_le (by have := HSL.out; omega)
          have HY3 : Hid (OwnI w2 w.heap.size u5 (allI (c.take (k + 1)))) := by show OwnI _ _ _ _; rw [HTS.out]; have := hown.out; rwa [hkk] at this
          clear hkk hown
          go_wp2
          go_roundw
          case rel => exact ⟨k + 1, by omega, by go_num, HY3, hbel2⟩
          case measure => simp [intOf]; omega
    · have q1 : decide (k < n) = false := by simpa using hkn
      have hkk : c.take k = c := List.take_of_length_le (by have := HN.out; omega)
      rw [hkk, ← HLL.out] at hown
      clear hkk
      obtain ⟨oo, oc, rfl⟩ := Sees.shape (Sees.own (show wr.ownsRow _ _ _ _ _ _ from hown.out))
      go_wp2
      go_ret2
      exact ⟨_, rfl, hown.out, hbel.out⟩
end Go.Proofs.Ytinglfhndlklaaa.Clocks
