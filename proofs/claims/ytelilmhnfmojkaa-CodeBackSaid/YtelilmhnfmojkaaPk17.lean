/- octavoref10.Read: what it answers. Conditions: the bytes read as such; at most a million of them. -/
import Derived.Deep.DrawnRows
import Derived.Deep.RegionHeld3
import Derived.Deep.DeepCutAuto
import Derived.Test.YtelilmhnfmojkaaPk13
import Derived.Test.YtelilmhnfmojkaaPk15
import Derived.Test.YtelilmhnfmojkaaPk10

namespace Go.Proofs.Ytelilmhnfmojkaa.Codes
open Go.RowKit Go.WideShapes Num Go.Proofs.Ytelilmhnfmojkaa.Place Ops
attribute [local go_sem ↓] Go.wp_at_zero Go.wp_at_succ

theorem read_fails2 {xs : List UInt8} {m s0 s : Nat} {l : List Opn} (h : Num.get xs = (m, (enc m).length, 0)) (hs : s0 = (enc m).length) (ha : AreAt xs s0 l) (hl : l.length < m) (hs2 : s = s0 + (bytesL l).length) (ho : ∀ o, ¬ IsAt (xs.drop s) 0 o) : ∀ L, ¬ IsList xs L := fun L hL => by
  obtain ⟨h1, h2, h3⟩ := isList_iff.1 hL
  rw [h] at h1
  simp only [Prod.mk.injEq] at h1
  rw [← h1.2.1, ← hs] at h3
  have hk : l.length < L.length := by rw [← h1.1]; exact hl
  have e : L.take l.length = l := areAt_one (areAt_prefix h3 _) ha (by rw [List.length_take]; omega)
  have h4 := areAt_take h3 hk
  rw [e, ← hs2] at h4
  exact ho _ (isAt_drop.2 h4)
theorem get_len {xs : List UInt8} {m : Nat} (h : Num.get xs = (m, (enc m).length, 0)) : (enc m).length ≤ xs.length ∧ xs ≠ [] := by
  rcases get_cases xs with h2 | ⟨k, t, h2, _, h3⟩
  · rw [h] at h2; simp at h2
  · rw [h] at h2
    simp only [Prod.mk.injEq, and_true] at h2
    obtain ⟨rfl, _⟩ := h2
    have := (encF_len 5 m).1
    refine ⟨by rw [h3, List.length_append]; omega, fun e => ?_⟩
    rw [e] at h3
    have h4 := congrArg List.length h3
    rw [List.length_append] at h4
    unfold enc at h4
    simp at h4
    omega
theorem areAt_size {xs : List UInt8} {s : Nat} {l : List Opn} (h : AreAt xs s l) (hs : s ≤ xs.length) : s + (bytesL l).length ≤ xs.length := by
  obtain ⟨_, t, e⟩ := h
  have := congrArg List.length e
  rw [List.length_drop, List.length_append] at this
  omega
theorem ansO_cases (ys : List UInt8) : ((∀ o, ¬ IsAt ys 0 o) ∧ ansO ys = (zop, 0, 8)) ∨ ∃ o, IsAt ys 0 o ∧ ansO ys = (o, (bytesO o).length, 0) := by
  by_cases h : ∃ o, IsAt ys 0 o
  · obtain ⟨o, h⟩ := h
    exact .inr ⟨o, h, one_found h⟩
  · exact .inl ⟨fun o ho => h ⟨o, ho⟩, none_found (fun o ho => h ⟨o, ho⟩)⟩

set_option maxRecDepth 100000 in
set_option maxHeartbeats 8000000 in
theorem refRead_any {xs : List UInt8} {ao0 : Option Addr} {n cap0 : Nat} {w : World} (hn : n = xs.length) (hl : n ≤ 1000000) (hr : Reads w (.slice ao0 n cap0) xs) :
    Calls Try.prog 21 #[.slice ao0 n cap0] w (ReadOut (ansL xs).1 (ansL xs).2.1 (ansL xs).2.2 w) := by
  have HRD : Hid (∀ W : World, Below w.heap.size w W → Reads W (.slice ao0 n cap0) xs) := fun W h => hr.keeps h
  have HN := Lib.hid hn
  obtain ⟨⟨la, sa, ca⟩, ha⟩ : ∃ z, ansL xs = z := ⟨_, rfl⟩
  have HB : Hid ((∀ L, ¬ IsList xs L) → (la, sa, ca) = ([], 0, 8)) := fun h => by rw [← ha]; exact ansL_no h
  have HG : Hid (∀ L, IsList xs L → (la, sa, ca) = (L, (listB L).length, 0)) := fun L h => by rw [← ha]; exact ansL_yes h
  rw [ha]
  simp only
  have GT : Hid (∀ a b c : Nat, Num.get xs = (a, b, c) → Calls Try.prog 39 #[.slice ao0 n cap0] w fun e w' => e = .returned (.tuple #[.int .i64 (a : Int), .int .i64 (b : Int), .int .i64 (c : Int)]) ∧ w = w') := fun a b c h => refGet_reads hr h
  clear hn ha
  rcases get_cases xs with hg | ⟨m, t, hg, hm, -⟩
  · have GT2 := Lib.hid (GT.out _ _ _ hg)
    have hbad := HB.out (fun L hL => by obtain ⟨h1, _⟩ := isList_iff.1 hL; rw [hg] at h1; simp at h1)
    obtain ⟨rfl, rfl, rfl⟩ : la = [] ∧ sa = 0 ∧ ca = 8 := by simpa using hbad
    clear hg hbad GT HB HG hr
    go_enter Try.func21, Try.ntmps21
    go_wp2_with fail
    refine GT2.out.mono ?_
    rintro e w1 ⟨rfl, rfl⟩
    go_wp2
    go_ret3
    exact ⟨_, rfl, OwnL.nil _ _, Below.refl _ _⟩
  have GT2 := Lib.hid (GT.out _ _ _ hg)
  obtain ⟨hs0, hxne⟩ := get_len hg
  have HXNE := Lib.hid hxne
  have HGT := Lib.hid hg
  obtain ⟨s0, hs⟩ : ∃ s, s = (enc m).length := ⟨_, rfl⟩
  have HS := Lib.hid hs
  rw [← hs] at GT2 hs0
  have hs0n : s0 ≤ n := by rw [HN.out]; exact hs0
  unfold most at hm
  by_cases hbig : 1024 < m
  · have q1 : decide ((1024 : Int) < (m : Int)) = true := decide_eq_true (by omega)
    have q2 : decide (1024 < m) = true := decide_eq_true hbig
    have hbad := HB.out (fun L hL => by obtain ⟨h1, h2, _⟩ := isList_iff.1 hL; rw [hg] at h1; simp at h1; omega)
    obtain ⟨rfl, rfl, rfl⟩ : la = [] ∧ sa = 0 ∧ ca = 8 := by simpa using hbad
    clear hg hbad GT HB HG hr hs hxne hs0
    go_enter Try.func21, Try.ntmps21
    go_wp2_with fail
    refine GT2.out.mono ?_
    rintro e w1 ⟨rfl, rfl⟩
    go_wp2
    go_ret3
    exact ⟨_, rfl, OwnL.nil _ _, Below.refl _ _⟩
  have q1 : decide ((1024 : Int) < (m : Int)) = false := decide_eq_false (by omega)
  have q2 : decide (1024 < m) = false := decide_eq_false hbig
  obtain ⟨bx, ox, -, rfl, -, -⟩ := reads_part hr (Nat.zero_le n) hxne
  have L0 : Hid (OwnL w w.heap.size (.slice none 0 0) []) := OwnL.nil _ _
  have S0 : Hid (AreAt xs s0 [] ∧ s0 = s0 + (bytesL []).length ∧ s0 ≤ n) := ⟨⟨by simp, _, rfl⟩, by simp [bytesL], hs0n⟩
  have B0 : Hid (Below w.heap.size w w) := Below.refl _ _
  clear hg GT hr hs hxne hs0
  go_enter Try.func21, Try.ntmps21
  go_wp2_with fail
  refine GT2.out.mono ?_
  rintro e w1 ⟨rfl, rfl⟩
  go_wp2
  go_loopw [6, 8, 9, 10, 11, 12] (fun p v i a b c wr => ∃ (l : List Opn) (s j : Nat), Hid (j = l.length) ∧ j ≤ m ∧ i = .int .i64 (j : Int) ∧ p = .int .i64 (s : Int) ∧ (∃ ao cap, v = .slice ao j cap) ∧ Hid (OwnL wr w.heap.size v l) ∧ Hid (AreAt xs s0 l ∧ s = s0 + (bytesL l).length ∧ s ≤ n) ∧ Hid (Below w.heap.size w wr)) (fun _ _ i _ _ _ _ => m - (intOf i).toNat)
  case atStart => exact ⟨[], s0, 0, rfl, by omega, rfl, rfl, ⟨none, 0, rfl⟩, L0, S0, B0⟩
  case round =>
    clear L0 S0 B0 GT2
    obtain ⟨l, s, j, HJ, hjm, rfl, rfl, ⟨aoL, capL, rfl⟩, hown, hst, hbel⟩ := hrel
    have hsn : s ≤ n := hst.out.2.2
    by_cases hjn : j < m
    · have q3 : decide (j < m) = true := by simpa using hjn
      have q4 : (0 : Int) ≤ (s : Int) := by omega
      have q5 : (s : Int) ≤ (n : Int) := by omega
      obtain ⟨b', off', o1, e0, hif, hr2⟩ := reads_part (HRD.out wr hbel.out) hsn HXNE.out
      cases e0
      have RG := refGetO_any (n := n - s) (by rw [List.length_drop, ← HN.out]) (by omega) hr2
      rcases ansO_cases (xs.drop s) with ⟨hno, ha⟩ | ⟨o, ho, ha⟩
      · rw [ha] at RG
        unfold GotO at RG
        have HZ : Hid (∀ v : Value, opv zop v = .agg #[.int .u8 0, .int .u32 0, .int .u8 0, v, .int .i64 0]) := fun v => rfl
        simp only [HZ.out] at RG
        have HZL : Hid (zop.pl.length = 0) := rfl
        rw [HZL.out] at RG
        have RG2 := Lib.hid RG
        have hbad := HB.out (read_fails2 HGT.out HS.out hst.out.1 (by rw [← HJ.out]; exact hjn) hst.out.2.1 hno)
        obtain ⟨rfl, rfl, rfl⟩ : la = [] ∧ sa = 0 ∧ ca = 8 := by simpa using hbad
        clear RG hno ha hbad hr2 HG HB
        go_wp2_with fail
        refine RG2.out.mono ?_
        rintro e w5 ⟨ao5, cap5, rfl, o5, b5⟩
        have B5 := Lib.hid (bt hbel.out (b5.alloc b5.size (.cells #[.int .u8 0, .int .u32 0, .int .u8 0, .slice ao5 0 cap5, .int .i64 0] 35)))
        clear o5 b5
        go_wp2
        go_ret3
        exact ⟨_, rfl, OwnL.nil _ _, B5.out⟩
      · rw [ha] at RG
        unfold GotO at RG
        have HO : Hid (∀ v : Value, opv o v = .agg #[.int .u8 (o.k : Int), .int .u32 (o.t : Int), .int .u8 (o.r : Int), v, .int .i64 o.p]) := fun v => rfl
        obtain ⟨z, hz⟩ : ∃ z, z = (bytesO o).length := ⟨_, rfl⟩
        have hzs := isAt_size (isAt_drop.1 ho)
        have HSN : Hid (AreAt xs s0 (l ++ [o]) ∧ s + z = s0 + (bytesL (l ++ [o])).length ∧ s + z ≤ n) := by
          obtain ⟨t1, t2, t3⟩ := hst.out
          have h5 := isAt_drop.1 ho
          have h6 := h5
          rw [t2] at h5
          refine ⟨areAt_snoc t1 h5, ?_, by rw [HN.out, hz]; exact hzs⟩
          rw [bytesL_append, List.length_append, hz, t2]
          simp [bytesL]
          omega
        have hzn : s + z ≤ n := HSN.out.2.2
        rw [← hz] at RG
        obtain ⟨k, hk⟩ : ∃ k, o.k = k := ⟨_, rfl⟩
        obtain ⟨t, ht⟩ : ∃ k, o.t = k := ⟨_, rfl⟩
        obtain ⟨r, hr⟩ : ∃ k, o.r = k := ⟨_, rfl⟩
        obtain ⟨p, hp⟩ : ∃ k, o.p = k := ⟨_, rfl⟩
        have HFV : Hid (∀ v : Value, [.int .u8 (k : Int), .int .u32 (t : Int), .int .u8 (r : Int), v, .int .i64 p] = [Value.int .u8 (o.k : Int), .int .u32 (o.t : Int), .int .u8 (o.r : Int), v, .int .i64 o.p]) := fun v => by rw [hk, ht, hr, hp]
        rw [hk, ht, hr, hp] at HO
        simp only [HO.out] at RG
        obtain ⟨no, hno⟩ : ∃ n, n = o.pl.length := ⟨_, rfl⟩
        have HNO := Lib.hid hno
        rw [← hno] at RG
        have RG2 := Lib.hid RG
        have ea : IntKind.i64.wrap ((s : Int) + (z : Int)) = ((s + z : Nat) : Int) := IntWalk.i64_in _ (by omega)
        have HSZ : Hid (w.heap.size ≤ wr.heap.size) := hbel.out.size
        clear RG ha ho hk ht hr hp hno hr2 hz hzs hst
        go_wp2_with fail
        refine RG2.out.mono ?_
        rintro e w5 ⟨aoO, capO, rfl, o5, b5⟩
        obtain ⟨wa, hwa⟩ : ∃ wa, wa = w5.alloc (.cells #[.int .u8 (k : Int), .int .u32 (t : Int), .int .u8 (r : Int), .slice aoO no capO, .int .i64 p] 35) := ⟨_, rfl⟩
        have b5' : Below wr.heap.size wr wa := by rw [hwa]; exact b5.alloc b5.size _
        have PO : Hid (wa.ownsRow w.heap.size 71 3 (.slice aoO no capO) no (runs o.pl)) := by
          have := own_stays (op_base o5 HSZ.out) ((Below.refl _ _).alloc (Nat.le_refl _) (.cells #[.int .u8 (k : Int), .int .u32 (t : Int), .int .u8 (r : Int), .slice aoO no capO, .int .i64 p] 35))
          rw [hwa]; exact this
        have L5 := Lib.hid (hown.out.keeps b5')
        have B5 := Lib.hid (bt hbel.out b5')
        have hsa : wa.heap.size = w5.heap.size + 1 := by rw [hwa]; simp
        obtain ⟨cs, lo, lh⟩ := L5.out
        rw [← HJ.out] at lo
        have LO := Lib.hid lo
        have LH := Lib.hid lh
        have SE : Hid (Sees (wa.alloc (.cells #[.int .u8 (k : Int), .int .u32 (t : Int), .int .u8 (r : Int), .slice aoO no capO, .int .i64 p] 35)) (.slice (some ⟨w5.heap.size + 1, 0, none⟩) 1 1) 5 1 [.int .u8 (k : Int), .int .u32 (t : Int), .int .u8 (r : Int), .slice aoO no capO, .int .i64 p]) := by
          have := sees_new wa [.int .u8 (k : Int), .int .u32 (t : Int), .int .u8 (r : Int), .slice aoO no capO, .int .i64 p] 5 1 rfl (by omega) 35 (0, 0)
          rw [hsa] at this
          exact this
        have OA : Hid ((wa.alloc (.cells #[.int .u8 (k : Int), .int .u32 (t : Int), .int .u8 (r : Int), .slice aoO no capO, .int .i64 p] 35)).ownsRow w.heap.size 35 5 (.slice aoL j capL) j cs) := own_stays LO.out ((Below.refl _ _).alloc (Nat.le_refl _) _)
        have FO : ∀ z ∈ [Value.int .u8 (k : Int), .int .u32 (t : Int), .int .u8 (r : Int), .slice aoO no capO, .int .i64 p], z.oneCell' = true := by rw [HFV.out]; exact five_one o _ ⟨_, _, _, rfl⟩
        have FO2 := Lib.hid FO
        have bz : w.heap.size ≤ (wa.alloc (.cells #[.int .u8 (k : Int), .int .u32 (t : Int), .int .u8 (r : Int), .slice aoO no capO, .int .i64 p] 35)).heap.size := by have := B5.out.size; simp; omega
        have HWA := Lib.hid hwa
        rw [hwa] at OA SE bz
        clear o5 b5 b5' lo lh FO hown hbel L5 hsa hwa
        go_wp2_with (at_builtin; refine wpList_append_sees rfl (.tmp 40) (.tmp 42) 26 35 rfl Try.underlying26 op_info rfl (by decide) w.heap.size _ j cs rfl OA.out _ 1 [.int .u8 (k : Int), .int .u32 (t : Int), .int .u8 (r : Int), .slice aoO no capO, .int .i64 p] rfl SE.out FO2.out ?k1 ?k2 ?k3 ?_)
        case k1 => omega
        case k2 => omega
        case k3 => exact bz
        rintro v6 w6 o6 g6 b6
        rw [← HWA.out] at g6 b6
        have L6 : Hid (OwnL w6 w.heap.size v6 (l ++ [o])) := by
          have lo2 := LO.out
          have o7 := o6
          rw [HFV.out] at o7
          have po := own_stays (PO.out) ((Below.refl _ _).alloc (Nat.le_refl _) (.cells #[.int .u8 (k : Int), .int .u32 (t : Int), .int .u8 (r : Int), .slice aoO no capO, .int .i64 p] 35))
          have gx := g6
          rw [HJ.out] at lo2 gx
          rw [HNO.out] at po o7
          refine OwnL.snoc (W := wa) (W8 := wa.alloc (.cells #[.int .u8 (k : Int), .int .u32 (t : Int), .int .u8 (r : Int), .slice aoO no capO, .int .i64 p] 35)) (m := j + 1) lo2 LH.out ((Below.refl _ _).alloc (Nat.le_refl _) _) ?_ gx o7 (by rw [HJ.out])
          rw [HNO.out]
          exact po
        have B6 : Hid (Below w.heap.size w w6) := (B5.out.alloc B5.out.size _).trans b6
        have J6 : Hid (j + 1 = (l ++ [o]).length) := by unfold Hid; rw [List.length_append, ← HJ.out]; rfl
        obtain ⟨va, vc, rfl⟩ : ∃ ao cap, v6 = .slice ao (j + 1) cap := Sees.shape (Sees.own o6)
        clear o6 g6 b6 OA SE LO LH PO B5 bz HWA
        go_wp2
        go_roundw
        case rel => exact ⟨l ++ [o], s + z, j + 1, J6, by omega, by go_num, by go_num, ⟨va, vc, rfl⟩, L6, HSN, B6⟩
        case measure => simp [intOf]; omega
    · have q3 : decide (j < m) = false := by simpa using hjn
      obtain ⟨d1, d2⟩ := read_done HGT.out HS.out (by omega) hst.out.1 (by rw [← HJ.out]; omega)
      have hans := HG.out l d1
      rw [d2, ← hst.out.2.1] at hans
      obtain ⟨rfl, rfl, rfl⟩ : la = l ∧ sa = s ∧ ca = 0 := by simpa using hans
      clear d1 d2 hans HG HB
      go_wp2
      go_ret3
      exact ⟨.slice aoL j capL, rfl, hown.out, hbel.out⟩
end Go.Proofs.Ytelilmhnfmojkaa.Codes

/- octavoref10.List, All: what each answers. Conditions: the slice's cells are operations. -/
namespace Go.Proofs.Ytelilmhnfmojkaa.Codes
open Go.RowKit Go.WideShapes Num Go.Proofs.Ytelilmhnfmojkaa.Place Ops
attribute [local go_sem ↓] Go.wp_at_zero Go.wp_at_succ

set_option maxRecDepth 100000 in
set_option maxHeartbeats 8000000 in
theorem refList_any {v : Value} {l : List Opn} {w : World} (hv : OpL w v l) (hl : l.length ≤ 1024) (hm : allM l = true) :
    Calls Try.prog 38 #[v] w (Gave (listB l) w) := by
  obtain ⟨ao, cap, rfl⟩ := hv.shape
  obtain ⟨n, hn⟩ : ∃ n, n = l.length := ⟨_, rfl⟩
  have HV : Hid (∀ W : World, Below w.heap.size w W → OpL W (.slice ao l.length cap) l) := fun W h => hv.keeps h
  have HN := Lib.hid hn
  have HM := Lib.hid ((allM_iff l).1 hm)
  obtain ⟨R, hR⟩ : ∃ c, listB l = c := ⟨_, rfl⟩
  have HRL : Hid (R = nums [n] ++ bytesL l) := by rw [← hR, listB_nums, ← hn]; rfl
  rw [hR, ← hn]
  rw [← hn] at hl
  unfold Gave
  have nb : n ≤ most := by unfold most; omega
  clear hn hR hv hm
  go_enter Try.func38, Try.ntmps38
  go_wp2_with fail
  refine (refBytes_any n nb _).mono ?_
  rintro e w1 ⟨v1, rfl, o1, b1⟩
  have O1 : Hid (w1.ownsRow w.heap.size 5 1 v1 (nums [n] ++ bytesL (l.take 0)).length (bs (nums [n] ++ bytesL (l.take 0)))) := by
    have e : nums [n] ++ bytesL (l.take 0) = enc n := by simp [bytesL, nums]
    rw [e]; exact o1
  have B1 := Lib.hid b1
  clear o1 b1
  go_wp2
  go_loopw [3, 4] (fun b i wr => ∃ j : Nat, j ≤ n ∧ i = .int .i64 (j : Int) ∧ Hid (wr.ownsRow w.heap.size 5 1 b (nums [n] ++ bytesL (l.take j)).length (bs (nums [n] ++ bytesL (l.take j)))) ∧ Hid (Below w.heap.size w wr)) (fun _ i _ => n - (intOf i).toNat)
  case atStart => exact ⟨0, by omega, rfl, O1, B1⟩
  case round =>
    clear O1 B1
    obtain ⟨j, hj, rfl, hown, hbel⟩ := hrel
    by_cases hjn : j < n
    · have q3 : decide (j < n) = true := by simpa using hjn
      have q4 : (0 : Int) ≤ (j : Int) := by omega
      have q5 : (j : Int) < (n : Int) := by omega
      have hjl : j < l.length := by rw [← HN.out]; exact hjn
      have hst := bytesL_take l j hjl
      have hmx := HM.out _ (List.getElem_mem hjl)
      obtain ⟨bb, oo, u, rfl, hbb, hru, h0, h1, h2, h3, h4⟩ := opl_at (HV.out wr hbel.out) j hjl
      obtain ⟨x, hx⟩ : ∃ x, x = l[j]'hjl := ⟨_, rfl⟩
      rw [← hx] at hru h0 h1 h2 h4 hst hmx
      obtain ⟨uo, uc, rfl⟩ := hru.shape
      obtain ⟨nu, hnu⟩ : ∃ n, n = x.pl.length := ⟨_, rfl⟩
      rw [← hnu] at hru h3
      have HRU : Hid (∀ W : World, Below wr.heap.size wr W → Runs W (.slice uo nu uc) x.pl) := fun W h => hru.keeps h
      have HO : Hid (∀ v : Value, opv x v = .agg #[.int .u8 (x.k : Int), .int .u32 (x.t : Int), .int .u8 (x.r : Int), v, .int .i64 x.p]) := fun v => rfl
      have HST := Lib.hid hst
      have BYT : Hid (∀ (W : World), Runs W (.slice uo nu uc) x.pl → Calls Try.prog 32 #[opv x (.slice uo nu uc)] W (Gave (bytesO x) W)) := fun W h => refBytesO_any h hmx
      have HXL : Hid ((bytesO x).length ≤ 1200) := bytesO_len hmx
      obtain ⟨k, hk⟩ : ∃ k, x.k = k := ⟨_, rfl⟩
      obtain ⟨t, ht⟩ : ∃ k, x.t = k := ⟨_, rfl⟩
      obtain ⟨r, hr⟩ : ∃ k, x.r = k := ⟨_, rfl⟩
      obtain ⟨p, hp⟩ : ∃ k, x.p = k := ⟨_, rfl⟩
      rw [hk, ht, hr, hp] at HO
      rw [hk] at h0
      rw [ht] at h1
      rw [hr] at h2
      rw [hp] at h4
      simp only [HO.out] at BYT
      have hlen : (nums [n] ++ bytesL (l.take j)).length ≤ 1000000000 := by
        have e1 := nums_len [n]
        have e2 := bytesL_len (l := l.take j) (fun o ho => HM.out o (List.mem_of_mem_take ho))
        rw [List.length_take] at e2
        rw [List.length_append]
        simp only [List.length_cons, List.length_nil] at e1
        omega
      have RU : Hid (Runs wr (.slice uo nu uc) x.pl) := hru
      obtain ⟨E, hE⟩ : ∃ E, bytesO x = E := ⟨_, rfl⟩
      rw [hE] at BYT HXL HST
      have HLEN := Lib.hid hlen
      clear hru hst hx hk ht hr hp hmx hnu hE hlen
      go_wp2_with fail
      refine (BYT.out _ RU.out).mono ?_
      rintro e w5 ⟨v5, rfl, o5, b5⟩
      obtain ⟨ao5, cap5, rfl⟩ := own_shape o5
      have OA := Lib.hid (own_stays hown.out b5)
      have BA := Lib.hid (bt hbel.out b5)
      have SA : Hid (Sees w5 (.slice ao5 E.length cap5) 1 E.length (bs E)) := Sees.own o5
      have hl1 := HLEN.out
      have hl2 := HXL.out
      have bz : w.heap.size ≤ w5.heap.size := BA.out.size
      clear o5 b5 hown hbel h0 h1 h2 h3 h4
      go_wp2_with (at_builtin; refine wpList_append_sees rfl (.tmp 14) (.tmp 19) 22 5 rfl Try.underlying22 u8_info rfl (by decide) w.heap.size _ _ _ rfl OA.out _ E.length _ rfl SA.out (bs_oneCell _) ?k1 ?k2 ?k3 ?_)
      case k1 => omega
      case k2 => omega
      case k3 => exact bz
      rintro v6 w6 o6 g6 b6
      have O6 : Hid (w6.ownsRow w.heap.size 5 1 v6 (nums [n] ++ bytesL (l.take (j + 1))).length (bs (nums [n] ++ bytesL (l.take (j + 1))))) := by
        unfold Hid
        rw [HST.out, ← List.append_assoc, List.length_append, bs_append]; simpa using o6
      have B6 := Lib.hid (BA.out.trans b6)
      clear o6 g6 b6 OA SA BA
      go_wp2
      go_roundw
      case rel => exact ⟨j + 1, by omega, by go_num, O6, B6⟩
      case measure => simp [intOf]; omega
    · have q3 : decide (j < n) = false := by simpa using hjn
      have hkk : l.take j = l := List.take_of_length_le (by have := HN.out; omega)
      rw [hkk] at hown
      clear hkk
      go_wp2
      go_ret
      exact ⟨_, rfl, by rw [HRL.out]; exact hown.out, hbel.out⟩

set_option maxRecDepth 100000 in
set_option maxHeartbeats 8000000 in
theorem refAll_any {v : Value} {l : List Opn} {w : World} (hv : OpL w v l) :
    Calls Try.prog 20 #[v] w (Put2 (allC l) (allB l) w) := by
  obtain ⟨ao, cap, rfl⟩ := hv.shape
  obtain ⟨n, hn⟩ : ∃ n, n = l.length := ⟨_, rfl⟩
  have hmx : n ≤ 9223372036854775807 := by rw [hn]; exact hv.max
  have HV : Hid (∀ W : World, Below w.heap.size w W → OpL W (.slice ao l.length cap) l) := fun W h => hv.keeps h
  have HN := Lib.hid hn
  obtain ⟨C, hC⟩ : ∃ c, allC l = c := ⟨_, rfl⟩
  obtain ⟨R, hR⟩ : ∃ c, allB l = c := ⟨_, rfl⟩
  rw [hC, hR, ← hn]
  by_cases hbig : 1024 < n
  · have q1 : decide ((1024 : Int) < (n : Int)) = true := decide_eq_true (by omega)
    have q2 : decide (1024 < n) = true := decide_eq_true hbig
    obtain rfl : C = 4 := by rw [← hC]; unfold allC; rw [if_pos (by omega)]
    obtain rfl : R = [] := by rw [← hR]; unfold allB; rw [if_pos (by omega)]
    clear hn hC hR hv
    go_enter Try.func20, Try.ntmps20
    go_wp2
    go_ret2
    exact ⟨_, rfl, World.ownsRow_nil _ _ _ _, Below.refl _ _⟩
  have q1 : decide ((1024 : Int) < (n : Int)) = false := decide_eq_false (by omega)
  have q2 : decide (1024 < n) = false := decide_eq_false hbig
  have hn1024 : n ≤ 1024 := by omega
  have NO : Hid (allM l = false → C = 8 ∧ R = []) := fun h => by
    have hnot : ¬ 1024 < l.length := by omega
    rw [← hC, ← hR]; unfold allC allB; simp [hnot, h]
  have YES : Hid (allM l = true → C = 0 ∧ R = listB l) := fun h => by
    have hnot : ¬ 1024 < l.length := by omega
    rw [← hC, ← hR]; unfold allC allB; simp [hnot, h]
  have LI : Hid (∀ W : World, Below w.heap.size w W → allM l = true → Calls Try.prog 38 #[.slice ao n cap] W (Gave (listB l) W)) := fun W h hm => by
    have := refList_any (HV.out W h) (by omega) hm
    rwa [← hn] at this
  clear hn hC hR hv
  go_enter Try.func20, Try.ntmps20
  go_wp2
  go_loopw [4] (fun i wr => ∃ j : Nat, j ≤ n ∧ i = .int .i64 (j : Int) ∧ Hid (∀ k (h : k < l.length), k < j → mayO (l[k]'h) = true) ∧ Hid (Below w.heap.size w wr)) (fun i _ => n - (intOf i).toNat)
  case atStart => exact ⟨0, by omega, rfl, fun k h hk => by omega, Below.refl _ _⟩
  case round =>
    obtain ⟨j, hj, rfl, hmay, hbel⟩ := hrel
    by_cases hjn : j < n
    · have q3 : decide (j < n) = true := by simpa using hjn
      have q4 : (0 : Int) ≤ (j : Int) := by omega
      have q5 : (j : Int) < (n : Int) := by omega
      have hjl : j < l.length := by rw [← HN.out]; exact hjn
      have hnxt : ∀ (m : Bool), mayO (l[j]'hjl) = m → (m = false → allM l = false) := fun m hm hmf => allM_no hjl (by rw [hm, hmf])
      obtain ⟨bb, oo, u, rfl, hbb, hru, h0, h1, h2, h3, h4⟩ := opl_at (HV.out wr hbel.out) j hjl
      obtain ⟨x, hx⟩ : ∃ x, x = l[j]'hjl := ⟨_, rfl⟩
      rw [← hx] at hru h0 h1 h2 h4 hnxt
      obtain ⟨uo, uc, rfl⟩ := hru.shape
      obtain ⟨nu, hnu⟩ : ∃ n, n = x.pl.length := ⟨_, rfl⟩
      rw [← hnu] at hru h3
      have HRU : Hid (∀ W : World, Below wr.heap.size wr W → Runs W (.slice uo nu uc) x.pl) := fun W h => hru.keeps h
      have HO : Hid (∀ v : Value, opv x v = .agg #[.int .u8 (x.k : Int), .int .u32 (x.t : Int), .int .u8 (x.r : Int), v, .int .i64 x.p]) := fun v => rfl
      have HNX := Lib.hid hnxt
      have HXJ := Lib.hid hx
      have MAY : Hid (∀ (W : World), Runs W (.slice uo nu uc) x.pl → Calls Try.prog 31 #[opv x (.slice uo nu uc)] W fun e w' => e = .returned (.bool (mayO x)) ∧ Below W.heap.size W w') := fun W h => refMayO_any h
      obtain ⟨k, hk⟩ : ∃ k, x.k = k := ⟨_, rfl⟩
      obtain ⟨t, ht⟩ : ∃ k, x.t = k := ⟨_, rfl⟩
      obtain ⟨r, hr⟩ : ∃ k, x.r = k := ⟨_, rfl⟩
      obtain ⟨p, hp⟩ : ∃ k, x.p = k := ⟨_, rfl⟩
      rw [hk, ht, hr, hp] at HO
      rw [hk] at h0
      rw [ht] at h1
      rw [hr] at h2
      rw [hp] at h4
      simp only [HO.out] at MAY
      have RU : Hid (Runs wr (.slice uo nu uc) x.pl) := hru
      obtain ⟨my, hmy⟩ : ∃ b, mayO x = b := ⟨_, rfl⟩
      rw [hmy] at MAY
      have HMY := Lib.hid hmy
      clear hru hnxt hx hk ht hr hp hmy hnu
      cases my
      · obtain ⟨rfl, rfl⟩ := NO.out (HNX.out false HMY.out rfl)
        go_wp2_with fail
        refine (MAY.out _ RU.out).mono ?_
        rintro e w5 ⟨rfl, b5⟩
        have B5 := Lib.hid (bt hbel.out b5)
        clear b5
        go_wp2
        go_ret2
        exact ⟨_, rfl, World.ownsRow_nil _ _ _ _, B5.out⟩
      · go_wp2_with fail
        refine (MAY.out _ RU.out).mono ?_
        rintro e w5 ⟨rfl, b5⟩
        have B5 := Lib.hid (bt hbel.out b5)
        have MJ : Hid (∀ k (h : k < l.length), k < j + 1 → mayO (l[k]'h) = true) := fun i h hi => by
          by_cases e : i = j
          · subst e; rw [← HXJ.out]; exact HMY.out
          · exact hmay.out i h (by omega)
        clear b5 hmay HNX
        go_wp2
        go_roundw
        case rel => exact ⟨j + 1, by omega, by go_num, MJ, B5⟩
        case measure => simp [intOf]; omega
    · have q3 : decide (j < n) = false := by simpa using hjn
      have hall : allM l = true := (allM_iff l).2 (fun o ho => by
        obtain ⟨i, hi, rfl⟩ := List.getElem_of_mem ho
        exact hmay.out i hi (by have := HN.out; omega))
      obtain ⟨rfl, hRl⟩ := YES.out hall
      have LI2 := Lib.hid (LI.out wr hbel.out hall)
      have HRL := Lib.hid hRl
      clear hall hmay hRl LI
      go_wp2_with fail
      refine LI2.out.mono ?_
      rintro e w5 ⟨v5, rfl, o5, b5⟩
      have O5 : Hid (w5.ownsRow w.heap.size 5 1 v5 (listB l).length (bs (listB l))) := op_base o5 hbel.out.size
      have B5 := Lib.hid (bt hbel.out b5)
      clear o5 b5
      go_wp2
      go_ret2
      exact ⟨_, rfl, by rw [HRL.out]; exact O5.out, B5.out⟩
end Go.Proofs.Ytelilmhnfmojkaa.Codes

/- octavoref10.Great, Same, Twin: what each answers. Conditions: the slices' cells are operations; Twin's: they are not more than memory holds. -/
namespace Go.Proofs.Ytelilmhnfmojkaa.Codes
open Go.RowKit Go.WideShapes Go.Proofs.Ytelilmhnfmojkaa.Place Ops
attribute [local go_sem ↓] Go.wp_at_zero Go.wp_at_succ

instance : DecidableEq Opn := fun a b => decidable_of_iff (sameB a b = true) (sameB_iff a b)
/-- What five cells hold, at a place of a block. -/
def FiveAt (w : World) (g o : Nat) (c0 c1 c2 c3 c4 : Value) : Prop := g < w.heap.size ∧ w.cell? ⟨g, o, none⟩ = some c0 ∧ w.cell? ⟨g, o + 1, none⟩ = some c1 ∧ w.cell? ⟨g, o + 2, none⟩ = some c2 ∧ w.cell? ⟨g, o + 3, none⟩ = some c3 ∧ w.cell? ⟨g, o + 4, none⟩ = some c4
theorem FiveAt.keeps {w w' : World} {g o : Nat} {c0 c1 c2 c3 c4 : Value} (p : FiveAt w g o c0 c1 c2 c3 c4) (hb : Below w.heap.size w w') : FiveAt w' g o c0 c1 c2 c3 c4 :=
  ⟨Nat.lt_of_lt_of_le p.1 hb.size, (hb.cell (p := ⟨g, o, none⟩) p.1).trans p.2.1, (hb.cell (p := ⟨g, o + 1, none⟩) p.1).trans p.2.2.1, (hb.cell (p := ⟨g, o + 2, none⟩) p.1).trans p.2.2.2.1, (hb.cell (p := ⟨g, o + 3, none⟩) p.1).trans p.2.2.2.2.1, (hb.cell (p := ⟨g, o + 4, none⟩) p.1).trans p.2.2.2.2.2⟩

/-- What Great answers: where it answers no, there are not more than so many. -/
def GrtO (l : List Opn) (m : Int) (e : Ending) : Prop := ∃ g, e = .returned (.bool g) ∧ (g = false → (l.length : Int) ≤ m ∧ ∀ k (h : k < l.length), k < 300 → (l[k]'h).pl.length ≤ 100)
theorem GrtO.yes {l : List Opn} {m : Int} : GrtO l m (.returned (.bool true)) := ⟨true, rfl, fun h => by cases h⟩

set_option maxRecDepth 100000 in
set_option maxHeartbeats 4000000 in
theorem greatO_any {v : Value} {l : List Opn} {many : Int} {w : World} (hv : OpL w v l) :
    Calls Try.prog 18 #[v, .int .i64 many] w fun e w' => GrtO l many e ∧ w = w' := by
  obtain ⟨ao, cap, rfl⟩ := hv.shape
  obtain ⟨n, hn⟩ : ∃ n, n = l.length := ⟨_, rfl⟩
  have hm : n ≤ 9223372036854775807 := by rw [hn]; exact hv.max
  have HV := Lib.hid hv
  have HN := Lib.hid hn
  rw [← hn]
  clear hv hn
  go_enter Try.func18, Try.ntmps18
  go_wp2
  go_loop [5, 6, 7] (fun s i c => ∃ (j : Nat) (m : Int), j ≤ n ∧ j ≤ 300 ∧ i = .int .i64 (j : Int) ∧ s = .int .i64 m ∧ Hid (∀ k (h : k < l.length), k < j → (l[k]'h).pl.length ≤ 100)) (fun _ i _ => n - (intOf i).toNat)
  case atStart => exact ⟨0, 0, by omega, by omega, rfl, rfl, fun k h hk => by omega⟩
  case round =>
    obtain ⟨j, m, hj, hj3, rfl, rfl, hall⟩ := hrel
    by_cases hjn : j < n
    · have q1 : decide (j < n) = true := by simpa using hjn
      by_cases hj4 : j < 300
      · have q4 : decide ((j : Int) < 300) = true := decide_eq_true (by omega)
        have q5 : decide (j < 300) = true := decide_eq_true hj4
        have q2 : (0 : Int) ≤ (j : Int) := by omega
        have q3 : (j : Int) < (n : Int) := by omega
        have hjl : j < l.length := by rw [← HN.out]; exact hjn
        obtain ⟨b1, o1, u, rfl, hb1, hru, -, -, -, ha3, -⟩ := opl_at HV.out j hjl
        have hsx := Sees.max hru
        have HRU := Lib.hid hru
        obtain ⟨so, sc, rfl⟩ := hru.shape
        obtain ⟨p, hp⟩ : ∃ p, p = (l[j]'hjl).pl := ⟨_, rfl⟩
        have HJA : Hid (p.length ≤ 100 → ∀ k (h : k < l.length), k < j + 1 → (l[k]'h).pl.length ≤ 100) := fun h1 k h hk => by
          by_cases e : k = j
          · subst e; rw [← hp]; exact h1
          · exact hall.out k h (by omega)
        rw [← hp] at ha3 hsx HRU
        obtain ⟨d, hd⟩ : ∃ d, d = p.length := ⟨_, rfl⟩
        have HD := Lib.hid hd
        rw [← hd] at ha3 hsx HRU
        clear hall hp hru hd
        by_cases h3 : 100 < d
        · have t1 : decide ((100 : Int) < (d : Int)) = true := decide_eq_true (by omega)
          have t2 : decide (100 < d) = true := decide_eq_true h3
          go_wp2
          go_ret
          exact ⟨GrtO.yes, rfl⟩
        · have t1 : decide ((100 : Int) < (d : Int)) = false := decide_eq_false (by omega)
          have t2 : decide (100 < d) = false := decide_eq_false h3
          have HJB := Lib.hid (HJA.out (by rw [← HD.out]; omega))
          clear HJA
          go_wp2
          go_loop [5, 7] (fun s c => ∃ (k : Nat) (m : Int), k ≤ d ∧ c = .int .i64 (k : Int) ∧ s = .int .i64 m) (fun _ c => d - (intOf c).toNat)
          case atStart => exact ⟨0, _, by omega, rfl, rfl⟩
          case round =>
            obtain ⟨k, m, hk, rfl, rfl⟩ := hrel
            by_cases hkd : k < d
            · have c1 : decide (k < d) = true := by simpa using hkd
              have c2 : (0 : Int) ≤ (k : Int) := by omega
              have c3 : (k : Int) < (d : Int) := by omega
              obtain ⟨b2, o2, rfl, hb2, -, -, g2⟩ := HRU.out.at k (by rw [← HD.out]; exact hkd)
              go_wp2
              go_round
              case rel => exact ⟨k + 1, _, by omega, by go_num, rfl⟩
              case measure => simp [intOf]; omega
            · have c1 : decide (k < d) = false := by simpa using hkd
              go_wp2
              go_round
              case rel => exact ⟨j + 1, _, by omega, by omega, by go_num, rfl, HJB⟩
              case measure => simp [intOf]; omega
      · obtain rfl : j = 300 := by omega
        obtain ⟨b, hb⟩ : ∃ b, decide (many < (n : Int)) = b := ⟨_, rfl⟩
        have HB : Hid (b = false → (n : Int) ≤ many) := fun h => by rw [h] at hb; have := of_decide_eq_false hb; omega
        obtain ⟨c, hc⟩ : ∃ b, decide (3000 < m) = b := ⟨_, rfl⟩
        clear q1
        cases b
        · go_wp2
          go_ret
          refine ⟨⟨_, rfl, fun _ => ⟨?_, fun k h hk => hall.out k h hk⟩⟩, rfl⟩
          rw [← HN.out]; exact HB.out trivial
        · go_wp2
          go_ret
          exact ⟨GrtO.yes, rfl⟩
    · have q1 : decide (j < n) = false := by simpa using hjn
      obtain rfl : j = n := by omega
      obtain ⟨b, hb⟩ : ∃ b, decide (many < (j : Int)) = b := ⟨_, rfl⟩
      have HB : Hid (b = false → (j : Int) ≤ many) := fun h => by rw [h] at hb; have := of_decide_eq_false hb; omega
      obtain ⟨c, hc⟩ : ∃ b, decide (3000 < m) = b := ⟨_, rfl⟩
      cases b
      · go_wp2
        go_ret
        refine ⟨⟨_, rfl, fun _ => ⟨?_, fun k h _ => hall.out k h (by have := HN.out; omega)⟩⟩, rfl⟩
        rw [← HN.out]; exact HB.out trivial
      · go_wp2
        go_ret
        exact ⟨GrtO.yes, rfl⟩

set_option maxRecDepth 100000 in
set_option maxHeartbeats 4000000 in
theorem sameL_any {u v : Value} {l m : List Opn} {w : World} (hu : OpL w u l) (hv : OpL w v m) :
    Calls Try.prog 22 #[u, v] w fun e w' => e = .returned (.bool (decide (l = m))) ∧ Below w.heap.size w w' := by
  obtain ⟨ao, cap, rfl⟩ := hu.shape
  obtain ⟨bo, cab, rfl⟩ := hv.shape
  obtain ⟨n, hn⟩ : ∃ n, n = l.length := ⟨_, rfl⟩
  obtain ⟨n', hn'⟩ : ∃ n, n = m.length := ⟨_, rfl⟩
  have hm : n ≤ 9223372036854775807 := by rw [hn]; exact hu.max
  have hm' : n' ≤ 9223372036854775807 := by rw [hn']; exact hv.max
  have HU : Hid (∀ W : World, Below w.heap.size w W → OpL W (.slice ao l.length cap) l) := fun W h => hu.keeps h
  have HV : Hid (∀ W : World, Below w.heap.size w W → OpL W (.slice bo m.length cab) m) := fun W h => hv.keeps h
  have HN := Lib.hid hn
  have HN' := Lib.hid hn'
  obtain ⟨q, hq⟩ : ∃ q, decide (l = m) = q := ⟨_, rfl⟩
  have HQ := Lib.hid hq
  rw [hq, ← hn, ← hn']
  clear hu hv hn hn' hq
  go_enter Try.func22, Try.ntmps22
  by_cases he : n = n'
  rotate_left
  · have t1 : ((n : Int) != (n' : Int)) = true := by simp; omega
    have t2 : (n == n') = false := by simpa using he
    obtain rfl : q = false := by rw [← HQ.out]; exact decide_eq_false (fun h => he (by rw [HN.out, HN'.out, h]))
    go_wp2
    go_ret
    exact ⟨rfl, Below.refl _ _⟩
  subst he
  have t1 : ((n : Int) != (n : Int)) = false := by simp
  go_wp2
  go_loopw [5] (fun i wr => ∃ j : Nat, j ≤ n ∧ i = .int .i64 (j : Int) ∧ Hid (∀ k (h : k < l.length) (h' : k < m.length), k < j → l[k]'h = m[k]'h') ∧ Hid (Below w.heap.size w wr)) (fun i _ => n - (intOf i).toNat)
  case atStart => exact ⟨0, by omega, rfl, fun k h h' hk => by omega, Below.refl _ _⟩
  case round =>
    obtain ⟨j, hj, rfl, hall, hbel⟩ := hrel
    by_cases hjn : j < n
    · have q3 : decide (j < n) = true := by simpa using hjn
      have q4 : (0 : Int) ≤ (j : Int) := by omega
      have q5 : (j : Int) < (n : Int) := by omega
      have hjl : j < l.length := by rw [← HN.out]; exact hjn
      have hjm : j < m.length := by rw [← HN'.out]; exact hjn
      obtain ⟨bb, oo, u, rfl, hbb, hru, h0, h1, h2, h3, h4⟩ := opl_at (HU.out wr hbel.out) j hjl
      obtain ⟨bb', oo', u', rfl, hbb', hru', h0', h1', h2', h3', h4'⟩ := opl_at (HV.out wr hbel.out) j hjm
      obtain ⟨x, hx⟩ : ∃ x, x = l[j]'hjl := ⟨_, rfl⟩
      obtain ⟨y, hy⟩ : ∃ x, x = m[j]'hjm := ⟨_, rfl⟩
      rw [← hx] at hru h0 h1 h2 h4
      rw [← hy] at hru' h0' h1' h2' h4'
      have SM : Hid (∀ W : World, Below wr.heap.size wr W → Calls Try.prog 17 #[opv x u, opv y u'] W fun e w' => e = .returned (.bool (sameB x y)) ∧ Below W.heap.size W w') := fun W h => Ops.refSame_any (hru.keeps h) (hru'.keeps h)
      have HO : Hid (∀ v : Value, opv x v = .agg #[.int .u8 (x.k : Int), .int .u32 (x.t : Int), .int .u8 (x.r : Int), v, .int .i64 x.p]) := fun v => rfl
      have HO' : Hid (∀ v : Value, opv y v = .agg #[.int .u8 (y.k : Int), .int .u32 (y.t : Int), .int .u8 (y.r : Int), v, .int .i64 y.p]) := fun v => rfl
      have HNO : Hid (sameB x y = false → q = false) := fun h => by
        rw [← HQ.out]
        refine decide_eq_false (fun e => ?_)
        have : x = y := by rw [hx, hy]; subst e; rfl
        rw [(sameB_iff x y).2 this] at h; cases h
      have HYES : Hid (sameB x y = true → ∀ k (h : k < l.length) (h' : k < m.length), k < j + 1 → l[k]'h = m[k]'h') := fun e k h h' hk => by
        by_cases ek : k = j
        · subst ek; rw [← hx, ← hy]; exact (sameB_iff x y).1 e
        · exact hall.out k h h' (by omega)
      obtain ⟨k, hk⟩ : ∃ k, x.k = k := ⟨_, rfl⟩
      obtain ⟨t, ht⟩ : ∃ k, x.t = k := ⟨_, rfl⟩
      obtain ⟨r, hr⟩ : ∃ k, x.r = k := ⟨_, rfl⟩
      obtain ⟨p, hp⟩ : ∃ k, x.p = k := ⟨_, rfl⟩
      rw [hk, ht, hr, hp] at HO
      rw [hk] at h0
      rw [ht] at h1
      rw [hr] at h2
      rw [hp] at h4
      obtain ⟨k', hk'⟩ : ∃ k, y.k = k := ⟨_, rfl⟩
      obtain ⟨t', ht'⟩ : ∃ k, y.t = k := ⟨_, rfl⟩
      obtain ⟨r', hr'⟩ : ∃ k, y.r = k := ⟨_, rfl⟩
      obtain ⟨p', hp'⟩ : ∃ k, y.p = k := ⟨_, rfl⟩
      rw [hk', ht', hr', hp'] at HO'
      rw [hk'] at h0'
      rw [ht'] at h1'
      rw [hr'] at h2'
      rw [hp'] at h4'
      simp only [HO.out, HO'.out] at SM
      obtain ⟨my, hmy⟩ : ∃ b, sameB x y = b := ⟨_, rfl⟩
      rw [hmy] at SM HNO HYES
      have F1 : Hid (FiveAt wr bb (oo + j * 5) (.int .u8 (k : Int)) (.int .u32 (t : Int)) (.int .u8 (r : Int)) u (.int .i64 p)) := ⟨hbb, h0, h1, h2, h3, h4⟩
      have F2 : Hid (FiveAt wr bb' (oo' + j * 5) (.int .u8 (k' : Int)) (.int .u32 (t' : Int)) (.int .u8 (r' : Int)) u' (.int .i64 p')) := ⟨hbb', h0', h1', h2', h3', h4'⟩
      have SK : Hid (∀ w' : World, Below wr.heap.size wr w' → Below wr.heap.size wr w' ∧ w'.cell? ⟨bb, oo + j * 5, none⟩ = some (.int .u8 (k : Int)) ∧ w'.cell? ⟨bb, oo + j * 5 + 1, none⟩ = some (.int .u32 (t : Int)) ∧ w'.cell? ⟨bb, oo + j * 5 + 2, none⟩ = some (.int .u8 (r : Int)) ∧ w'.cell? ⟨bb, oo + j * 5 + 3, none⟩ = some (u) ∧ w'.cell? ⟨bb, oo + j * 5 + 4, none⟩ = some (.int .i64 p) ∧ w'.cell? ⟨bb', oo' + j * 5, none⟩ = some (.int .u8 (k' : Int)) ∧ w'.cell? ⟨bb', oo' + j * 5 + 1, none⟩ = some (.int .u32 (t' : Int)) ∧ w'.cell? ⟨bb', oo' + j * 5 + 2, none⟩ = some (.int .u8 (r' : Int)) ∧ w'.cell? ⟨bb', oo' + j * 5 + 3, none⟩ = some (u') ∧ w'.cell? ⟨bb', oo' + j * 5 + 4, none⟩ = some (.int .i64 p')) := fun W h => by
        have a1 := (F1.out.keeps h).2
        have a2 := (F2.out.keeps h).2
        exact ⟨h, a1.1, a1.2.1, a1.2.2.1, a1.2.2.2.1, a1.2.2.2.2, a2.1, a2.2.1, a2.2.2.1, a2.2.2.2.1, a2.2.2.2.2⟩
      clear hru hru' hx hy hk ht hr hp hk' ht' hr' hp' hmy hall HO HO' h0 h1 h2 h3 h4 h0' h1' h2' h3' h4' F1 F2
      cases my
      · obtain rfl := HNO.out rfl
        go_wp2
        go_region_held3 (fun w' => Below wr.heap.size wr w' ∧ w'.cell? ⟨bb, oo + j * 5, none⟩ = some (.int .u8 (k : Int)) ∧ w'.cell? ⟨bb, oo + j * 5 + 1, none⟩ = some (.int .u32 (t : Int)) ∧ w'.cell? ⟨bb, oo + j * 5 + 2, none⟩ = some (.int .u8 (r : Int)) ∧ w'.cell? ⟨bb, oo + j * 5 + 3, none⟩ = some (u) ∧ w'.cell? ⟨bb, oo + j * 5 + 4, none⟩ = some (.int .i64 p) ∧ w'.cell? ⟨bb', oo' + j * 5, none⟩ = some (.int .u8 (k' : Int)) ∧ w'.cell? ⟨bb', oo' + j * 5 + 1, none⟩ = some (.int .u32 (t' : Int)) ∧ w'.cell? ⟨bb', oo' + j * 5 + 2, none⟩ = some (.int .u8 (r' : Int)) ∧ w'.cell? ⟨bb', oo' + j * 5 + 3, none⟩ = some (u') ∧ w'.cell? ⟨bb', oo' + j * 5 + 4, none⟩ = some (.int .i64 p'))
          (first | exact SK.out _ (drew1 _) | (go_split_ands; exact SK.out _ (bt (by assumption) (by assumption))) | (go_split_ands; refine SK.out _ (bt ?_ ?_) <;> assumption))
          ((go_at_call 17; go_split_ands; (with_reducible refine (SM.out _ (by assumption)).mono ?_); rintro e w9 ⟨rfl, b9⟩))
        go_wp2
        go_ret
        go_split_ands
        exact ⟨rfl, bt hbel.out (by assumption)⟩
      · have HY := Lib.hid (HYES.out rfl)
        clear HYES HNO
        go_wp2
        go_region_held3 (fun w' => Below wr.heap.size wr w' ∧ w'.cell? ⟨bb, oo + j * 5, none⟩ = some (.int .u8 (k : Int)) ∧ w'.cell? ⟨bb, oo + j * 5 + 1, none⟩ = some (.int .u32 (t : Int)) ∧ w'.cell? ⟨bb, oo + j * 5 + 2, none⟩ = some (.int .u8 (r : Int)) ∧ w'.cell? ⟨bb, oo + j * 5 + 3, none⟩ = some (u) ∧ w'.cell? ⟨bb, oo + j * 5 + 4, none⟩ = some (.int .i64 p) ∧ w'.cell? ⟨bb', oo' + j * 5, none⟩ = some (.int .u8 (k' : Int)) ∧ w'.cell? ⟨bb', oo' + j * 5 + 1, none⟩ = some (.int .u32 (t' : Int)) ∧ w'.cell? ⟨bb', oo' + j * 5 + 2, none⟩ = some (.int .u8 (r' : Int)) ∧ w'.cell? ⟨bb', oo' + j * 5 + 3, none⟩ = some (u') ∧ w'.cell? ⟨bb', oo' + j * 5 + 4, none⟩ = some (.int .i64 p'))
          (first | exact SK.out _ (drew1 _) | (go_split_ands; exact SK.out _ (bt (by assumption) (by assumption))) | (go_split_ands; refine SK.out _ (bt ?_ ?_) <;> assumption))
          ((go_at_call 17; go_split_ands; (with_reducible refine (SM.out _ (by assumption)).mono ?_); rintro e w9 ⟨rfl, b9⟩))
        go_wp2
        go_split_ands
        go_roundw
        case rel => exact ⟨j + 1, by omega, by go_num, HY, Lib.hid (bt hbel.out (by assumption))⟩
        case measure => simp [intOf]; omega
    · have q3 : decide (j < n) = false := by simpa using hjn
      obtain rfl : q = true := by
        rw [← HQ.out]
        refine decide_eq_true (List.ext_getElem (by rw [← HN.out, ← HN'.out]) (fun k h h' => hall.out k h h' (by have := HN.out; omega)))
      go_wp2
      go_ret
      exact ⟨rfl, hbel.out⟩
end Go.Proofs.Ytelilmhnfmojkaa.Codes

/- octavoref10.Twin: what it answers. Conditions: the slice's cells are operations, not more than memory holds. -/
namespace Go.Proofs.Ytelilmhnfmojkaa.Codes
open Go.RowKit Go.WideShapes Go.Proofs.Ytelilmhnfmojkaa.Place Ops
attribute [local go_sem ↓] Go.wp_at_zero Go.wp_at_succ

set_option maxRecDepth 100000 in
set_option maxHeartbeats 4000000 in
theorem twinL_any {v : Value} {l : List Opn} {w : World} (hv : OpL w v l) (hl : l.length ≤ 1000000000) (hp : ∀ o ∈ l, o.pl.length ≤ 8796093022208) :
    Calls Try.prog 19 #[v] w fun e w' => ∃ v', e = .returned v' ∧ OwnL w' w.heap.size v' l ∧ Below w.heap.size w w' := by
  obtain ⟨ao, cap, rfl⟩ := hv.shape
  obtain ⟨n, hn⟩ : ∃ n, n = l.length := ⟨_, rfl⟩
  have HV : Hid (∀ W : World, Below w.heap.size w W → OpL W (.slice ao l.length cap) l) := fun W h => hv.keeps h
  have HN := Lib.hid hn
  have HP := Lib.hid hp
  rw [← hn] at hl ⊢
  have L0 : Hid (OwnL w w.heap.size (.slice none 0 0) (l.take 0)) := OwnL.nil _ _
  have B0 : Hid (Below w.heap.size w w) := Below.refl _ _
  clear hv hn hp
  go_enter Try.func19, Try.ntmps19
  go_wp2
  go_loopw [3, 4] (fun v i wr => ∃ j : Nat, j ≤ n ∧ i = .int .i64 (j : Int) ∧ (∃ ao cap, v = .slice ao j cap) ∧ Hid (OwnL wr w.heap.size v (l.take j)) ∧ Hid (Below w.heap.size w wr)) (fun _ i _ => n - (intOf i).toNat)
  case atStart => exact ⟨0, by omega, rfl, ⟨none, 0, rfl⟩, L0, B0⟩
  case round =>
    clear L0 B0
    obtain ⟨j, hj, rfl, ⟨aoL, capL, rfl⟩, hown, hbel⟩ := hrel
    by_cases hjn : j < n
    · have q3 : decide (j < n) = true := by simpa using hjn
      have q4 : (0 : Int) ≤ (j : Int) := by omega
      have q5 : (j : Int) < (n : Int) := by omega
      have hjl : j < l.length := by rw [← HN.out]; exact hjn
      obtain ⟨bb, oo, u, rfl, hbb, hru, h0, h1, h2, h3, h4⟩ := opl_at (HV.out wr hbel.out) j hjl
      obtain ⟨x, hx⟩ : ∃ x, x = l[j]'hjl := ⟨_, rfl⟩
      have hst : l.take (j + 1) = l.take j ++ [x] := by rw [List.take_succ_eq_append_getElem hjl, hx]
      have hpx : x.pl.length ≤ 8796093022208 := HP.out x (by rw [hx]; exact List.getElem_mem hjl)
      rw [← hx] at hru h0 h1 h2 h4
      have HST := Lib.hid hst
      have TW : Hid (Calls Try.prog 13 #[opv x u] wr fun e w' => ∃ ao cap, e = .returned (opv x (.slice ao x.pl.length cap)) ∧ w'.ownsRow wr.heap.size 71 3 (.slice ao x.pl.length cap) x.pl.length (runs x.pl) ∧ Below wr.heap.size wr w') := by
        refine (refTwin_any hru hpx).mono ?_
        rintro e w' ⟨v', rfl, ho, hb⟩
        obtain ⟨ao', cap', rfl⟩ : ∃ ao cap, v' = .slice ao x.pl.length cap := Sees.shape (Sees.own ho)
        exact ⟨ao', cap', rfl, ho, hb⟩
      have HO : Hid (∀ v : Value, opv x v = .agg #[.int .u8 (x.k : Int), .int .u32 (x.t : Int), .int .u8 (x.r : Int), v, .int .i64 x.p]) := fun v => rfl
      obtain ⟨k, hk⟩ : ∃ k, x.k = k := ⟨_, rfl⟩
      obtain ⟨t, ht⟩ : ∃ k, x.t = k := ⟨_, rfl⟩
      obtain ⟨r, hr⟩ : ∃ k, x.r = k := ⟨_, rfl⟩
      obtain ⟨p, hp⟩ : ∃ k, x.p = k := ⟨_, rfl⟩
      have HFV : Hid (∀ v : Value, [.int .u8 (k : Int), .int .u32 (t : Int), .int .u8 (r : Int), v, .int .i64 p] = [Value.int .u8 (x.k : Int), .int .u32 (x.t : Int), .int .u8 (x.r : Int), v, .int .i64 x.p]) := fun v => by rw [hk, ht, hr, hp]
      rw [hk, ht, hr, hp] at HO
      rw [hk] at h0
      rw [ht] at h1
      rw [hr] at h2
      rw [hp] at h4
      obtain ⟨no, hno⟩ : ∃ n, n = x.pl.length := ⟨_, rfl⟩
      have HNO := Lib.hid hno
      rw [← hno] at TW
      simp only [HO.out] at TW
      have HLT : Hid ((l.take j).length = j) := by unfold Hid; rw [List.length_take, ← HN.out]; omega
      have hsz : w.heap.size ≤ wr.heap.size := hbel.out.size
      have HSZ := Lib.hid hsz
      clear hru hx hk ht hr hp hno hst hpx hsz
      go_wp2_with fail
      refine TW.out.mono ?_
      rintro e w5 ⟨aoO, capO, rfl, o5, b5⟩
      have L5 := Lib.hid (hown.out.keeps b5)
      have B5 := Lib.hid (bt hbel.out b5)
      obtain ⟨cs, lo, lh⟩ := L5.out
      rw [HLT.out] at lo
      have LO := Lib.hid lo
      have LH := Lib.hid lh
      have PO : Hid (w5.ownsRow w.heap.size 71 3 (.slice aoO no capO) no (runs x.pl)) := op_base o5 HSZ.out
      have SE : Hid (Sees (w5.alloc (.cells #[.int .u8 (k : Int), .int .u32 (t : Int), .int .u8 (r : Int), .slice aoO no capO, .int .i64 p] 35)) (.slice (some ⟨w5.heap.size, 0, none⟩) 1 1) 5 1 [.int .u8 (k : Int), .int .u32 (t : Int), .int .u8 (r : Int), .slice aoO no capO, .int .i64 p]) := sees_new w5 [.int .u8 (k : Int), .int .u32 (t : Int), .int .u8 (r : Int), .slice aoO no capO, .int .i64 p] 5 1 rfl (by omega) 35 (0, 0)
      have OA : Hid ((w5.alloc (.cells #[.int .u8 (k : Int), .int .u32 (t : Int), .int .u8 (r : Int), .slice aoO no capO, .int .i64 p] 35)).ownsRow w.heap.size 35 5 (.slice aoL j capL) j cs) := own_stays LO.out ((Below.refl _ _).alloc (Nat.le_refl _) _)
      have FO : ∀ z ∈ [Value.int .u8 (k : Int), .int .u32 (t : Int), .int .u8 (r : Int), .slice aoO no capO, .int .i64 p], z.oneCell' = true := by rw [HFV.out]; exact five_one x _ ⟨_, _, _, rfl⟩
      have FO2 := Lib.hid FO
      have bz : w.heap.size ≤ (w5.alloc (.cells #[.int .u8 (k : Int), .int .u32 (t : Int), .int .u8 (r : Int), .slice aoO no capO, .int .i64 p] 35)).heap.size := by have := B5.out.size; simp; omega
      clear o5 b5 lo lh FO hown hbel L5
      go_wp2_with (at_builtin; refine wpList_append_sees rfl (.tmp 11) (.tmp 17) 26 35 rfl Try.underlying26 op_info rfl (by decide) w.heap.size _ j cs rfl OA.out _ 1 [.int .u8 (k : Int), .int .u32 (t : Int), .int .u8 (r : Int), .slice aoO no capO, .int .i64 p] rfl SE.out FO2.out ?k1 ?k2 ?k3 ?_)
      case k1 => omega
      case k2 => omega
      case k3 => exact bz
      rintro v6 w6 o6 g6 b6
      have L6 : Hid (OwnL w6 w.heap.size v6 (l.take (j + 1))) := by
        have lo2 := LO.out
        have o7 := o6
        rw [HFV.out] at o7
        have po := own_stays (PO.out) ((Below.refl _ _).alloc (Nat.le_refl _) (.cells #[.int .u8 (k : Int), .int .u32 (t : Int), .int .u8 (r : Int), .slice aoO no capO, .int .i64 p] 35))
        have gx := g6
        unfold Hid
        rw [HST.out]
        rw [← HLT.out] at lo2 gx
        rw [HNO.out] at po o7
        refine OwnL.snoc (W := w5) (W8 := w5.alloc (.cells #[.int .u8 (k : Int), .int .u32 (t : Int), .int .u8 (r : Int), .slice aoO no capO, .int .i64 p] 35)) (m := j + 1) lo2 LH.out ((Below.refl _ _).alloc (Nat.le_refl _) _) ?_ gx o7 (by rw [HLT.out])
        rw [HNO.out]
        exact po
      have B6 : Hid (Below w.heap.size w w6) := (B5.out.alloc B5.out.size _).trans b6
      obtain ⟨va, vc, rfl⟩ : ∃ ao cap, v6 = .slice ao (j + 1) cap := Sees.shape (Sees.own o6)
      clear o6 g6 b6 OA SE LO LH PO B5 bz
      go_wp2
      go_roundw
      case rel => exact ⟨j + 1, by omega, by go_num, ⟨va, vc, rfl⟩, L6, B6⟩
      case measure => simp [intOf]; omega
    · have q3 : decide (j < n) = false := by simpa using hjn
      have hkk : l.take j = l := List.take_of_length_le (by have := HN.out; omega)
      rw [hkk] at hown
      clear hkk
      go_wp2
      go_ret
      exact ⟨_, rfl, hown.out, hbel.out⟩
end Go.Proofs.Ytelilmhnfmojkaa.Codes

/- CodeList answers true, and changes nothing that was there. Conditions: the places are not longer than memory holds. -/
namespace Go.Proofs.Ytelilmhnfmojkaa.Codes
open Go.RowKit Go.WideShapes Num Go.Proofs.Ytelilmhnfmojkaa.Place Ops
attribute [local go_sem ↓] Go.wp_at_zero Go.wp_at_succ

/-- A test, and what it tells where it fails. -/
def Tst (t : Value) (P : Prop) : Prop := ∃ q, t = .bool q ∧ (q = false → P)
theorem tst {P : Prop} (q : Bool) (h : q = false → P) : Tst (.bool q) P := ⟨q, rfl, h⟩

set_option maxRecDepth 100000 in
set_option maxHeartbeats 16000000 in
theorem list_walk {l : List Opn} {ao0 : Option Addr} {cap0 : Nat} {ao1 : Option Addr} {cap1 : Nat} {xs : List UInt8} {w : World} (hr0 : OpL w (.slice ao0 l.length cap0) l) (hp : ∀ o ∈ l, o.pl.length ≤ 8796093022208) (hr1 : Reads w (.slice ao1 xs.length cap1) xs) :
    Calls Try.prog 5 #[.slice ao0 l.length cap0, .slice ao1 xs.length cap1] w fun e w' => e = .returned (.bool true) ∧ Below w.heap.size w w' := by
  have HR0 := Lib.hid hr0
  have HR1 := Lib.hid hr1
  obtain ⟨n0, hn0⟩ : ∃ n, n = l.length := ⟨_, rfl⟩
  obtain ⟨n1, hn1⟩ : ∃ n, n = xs.length := ⟨_, rfl⟩
  obtain ⟨⟨la, sa, ca⟩, ha⟩ : ∃ z, ansL xs = z := ⟨_, rfl⟩
  obtain ⟨C, hC⟩ : ∃ c, allC l = c := ⟨_, rfl⟩
  obtain ⟨P, hP⟩ : ∃ c, allB l = c := ⟨_, rfl⟩
  have GR := Lib.hid (greatO_any (many := 100) hr0)
  have TW : Hid (n0 ≤ 1100 → Calls Try.prog 19 #[.slice ao0 l.length cap0] w fun e w' => ∃ v', e = .returned v' ∧ OwnL w' w.heap.size v' l ∧ Below w.heap.size w w') := fun h => twinL_any hr0 (by omega) hp
  have CA : Hid (∀ (W : World) (v : Value), OpL W v l → Calls Try.prog 8 #[v] W (Put2 C P W)) := fun W v h => by rw [← hC, ← hP]; exact cAll_any h
  have RA : Hid (∀ (W : World) (v : Value), OpL W v l → Calls Try.prog 20 #[v] W (Put2 C P W)) := fun W v h => by rw [← hC, ← hP]; exact refAll_any h
  have CR : Hid (∀ W : World, Reads W (.slice ao1 n1 cap1) xs → n1 ≤ 20000 → Calls Try.prog 9 #[.slice ao1 n1 cap1] W (ReadOut la sa ca W)) := fun W h hl => by
    have := cRead_any hn1 (by omega) h
    rwa [ha] at this
  have RR : Hid (∀ W : World, Reads W (.slice ao1 n1 cap1) xs → n1 ≤ 20000 → Calls Try.prog 21 #[.slice ao1 n1 cap1] W (ReadOut la sa ca W)) := fun W h hl => by
    have := refRead_any hn1 (by omega) h
    rwa [ha] at this
  have SL : Hid (∀ (W : World) (u v : Value) (m : List Opn), OpL W u m → OpL W v m → Calls Try.prog 22 #[u, v] W fun e w' => e = .returned (.bool true) ∧ Below W.heap.size W w') := fun W u v m h h2 => by
    have := sameL_any h h2
    rwa [decide_eq_true rfl] at this
  rw [← hn0] at GR TW HR0 ⊢
  rw [← hn1] at HR1 ⊢
  clear hr0 hr1 hn0 hn1 ha hC hP hp
  go_enter Try.func5, Try.ntmps5
  go_upto_region 1 with fail
  go_cut [33] (fun t wx => w = wx ∧ Tst t (n0 ≤ 1100 ∧ n1 ≤ 20000))
  case first =>
    go_wp2_with fail
    refine GR.out.mono ?_
    rintro e w1 ⟨⟨g, rfl, -⟩, rfl⟩
    obtain ⟨q0, hq0⟩ : ∃ q, decide (n0 ≤ 1024) = q := ⟨_, rfl⟩
    have hq0' : decide ((n0 : Int) ≤ 1024) = q0 := by rw [← hq0]; exact decide_eq_decide.2 (by omega)
    obtain ⟨q1, hq1⟩ : ∃ q, decide (1100 < n0) = q := ⟨_, rfl⟩
    have hq1' : decide ((1100 : Int) < (n0 : Int)) = q1 := by rw [← hq1]; exact decide_eq_decide.2 (by omega)
    obtain ⟨q2, hq2⟩ : ∃ q, decide (20000 < n1) = q := ⟨_, rfl⟩
    have hq2' : decide ((20000 : Int) < (n1 : Int)) = q2 := by rw [← hq2]; exact decide_eq_decide.2 (by omega)
    have HA : Hid (q1 = false → q2 = false → n0 ≤ 1100 ∧ n1 ≤ 20000) := fun h1 h2 => by
      rw [h1] at hq1; rw [h2] at hq2
      have := of_decide_eq_false hq1
      have := of_decide_eq_false hq2
      omega
    clear GR TW
    cases q1
    · cases q2
      · have HB := Lib.hid (HA.out rfl rfl)
        go_wp2
        all_goals go_meet
        all_goals exact ⟨rfl, tst _ (fun _ => HB.out)⟩
      · go_wp2
        all_goals go_meet
        all_goals exact ⟨rfl, tst _ (fun h => by cases h)⟩
    · go_wp2
      all_goals go_meet
      all_goals exact ⟨rfl, tst _ (fun h => by cases h)⟩
  case rest =>
    obtain ⟨rfl, q, rfl, hq⟩ := hcut
    cases q
    rotate_left
    · go_wp2
      go_ret
      exact ⟨rfl, Below.refl _ _⟩
    obtain ⟨h1100, h20⟩ := hq rfl
    have TW2 := Lib.hid (TW.out h1100)
    have B0 : Hid (Below w.heap.size w w) := Below.refl _ _
    clear TW GR
    go_wp2_with fail
    refine TW2.out.mono ?_
    rintro e w2 ⟨vo, rfl, o2, b2⟩
    have B_1 := Lib.hid (bt B0.out b2)
    clear B0
    have R0_2 := Lib.hid (HR0.out.keeps b2)
    clear HR0
    have R1_3 := Lib.hid (HR1.out.keeps b2)
    clear HR1
    have OX_4 := Lib.hid (o2.opl)
    clear o2 b2 TW2
    have sB := run_string R1_3.out
    go_wp2_with fail
    clear sB
    refine (CA.out _ _ OX_4.out).mono ?_
    rintro e w3 ⟨vx, rfl, o3, b3⟩
    have B_5 := Lib.hid (bt B_1.out b3)
    clear B_1
    have R0_6 := Lib.hid (R0_2.out.keeps b3)
    clear R0_2
    have R1_7 := Lib.hid (R1_3.out.keeps b3)
    clear R1_3
    have OX_8 := Lib.hid (OX_4.out.keeps b3)
    clear OX_4
    have X_9 := Lib.hid (Reads.own o3)
    clear o3 b3
    go_wp2_with fail
    refine (RA.out _ _ R0_6.out).mono ?_
    rintro e w4 ⟨vy, rfl, o4, b4⟩
    have B_10 := Lib.hid (bt B_5.out b4)
    clear B_5
    have R0_11 := Lib.hid (R0_6.out.keeps b4)
    clear R0_6
    have R1_12 := Lib.hid (R1_7.out.keeps b4)
    clear R1_7
    have OX_13 := Lib.hid (OX_8.out.keeps b4)
    clear OX_8
    have X_14 := Lib.hid (X_9.out.keeps b4)
    clear X_9
    have Y_15 := Lib.hid (Reads.own o4)
    clear o4 b4
    go_wp2_with fail
    refine (CR.out _ R1_12.out h20).mono ?_
    rintro e w5 ⟨vl, rfl, o5, b5⟩
    have B_16 := Lib.hid (bt B_10.out b5)
    clear B_10
    have R0_17 := Lib.hid (R0_11.out.keeps b5)
    clear R0_11
    have R1_18 := Lib.hid (R1_12.out.keeps b5)
    clear R1_12
    have OX_19 := Lib.hid (OX_13.out.keeps b5)
    clear OX_13
    have X_20 := Lib.hid (X_14.out.keeps b5)
    clear X_14
    have Y_21 := Lib.hid (Y_15.out.keeps b5)
    clear Y_15
    have LP_22 := Lib.hid (o5.opl)
    clear o5 b5
    go_wp2_with fail
    refine (RR.out _ R1_18.out h20).mono ?_
    rintro e w6 ⟨vm, rfl, o6, b6⟩
    have B_23 := Lib.hid (bt B_16.out b6)
    clear B_16
    have R0_24 := Lib.hid (R0_17.out.keeps b6)
    clear R0_17
    have R1_25 := Lib.hid (R1_18.out.keeps b6)
    clear R1_18
    have OX_26 := Lib.hid (OX_19.out.keeps b6)
    clear OX_19
    have X_27 := Lib.hid (X_20.out.keeps b6)
    clear X_20
    have Y_28 := Lib.hid (Y_21.out.keeps b6)
    clear Y_21
    have LP_29 := Lib.hid (LP_22.out.keeps b6)
    clear LP_22
    have LQ_30 := Lib.hid (o6.opl)
    clear o6 b6
    have sx := run_string X_27.out
    have sy := run_string Y_28.out
    go_wp2_with fail
    clear sx sy
    refine (SL.out _ _ _ _ LP_29.out LQ_30.out).mono ?_
    rintro e w7 ⟨rfl, b7⟩
    have B_31 := Lib.hid (bt B_23.out b7)
    clear B_23
    have R0_32 := Lib.hid (R0_24.out.keeps b7)
    clear R0_24
    have R1_33 := Lib.hid (R1_25.out.keeps b7)
    clear R1_25
    have OX_34 := Lib.hid (OX_26.out.keeps b7)
    clear OX_26
    have X_35 := Lib.hid (X_27.out.keeps b7)
    clear X_27
    have Y_36 := Lib.hid (Y_28.out.keeps b7)
    clear Y_28
    have LP_37 := Lib.hid (LP_29.out.keeps b7)
    clear LP_29
    have LQ_38 := Lib.hid (LQ_30.out.keeps b7)
    clear LQ_30
    clear b7
    go_wp2_with fail
    refine (SL.out _ _ _ _ OX_34.out R0_32.out).mono ?_
    rintro e w8 ⟨rfl, b8⟩
    have B_39 := Lib.hid (bt B_31.out b8)
    clear B_31
    have R0_40 := Lib.hid (R0_32.out.keeps b8)
    clear R0_32
    have R1_41 := Lib.hid (R1_33.out.keeps b8)
    clear R1_33
    have OX_42 := Lib.hid (OX_34.out.keeps b8)
    clear OX_34
    have X_43 := Lib.hid (X_35.out.keeps b8)
    clear X_35
    have Y_44 := Lib.hid (Y_36.out.keeps b8)
    clear Y_36
    have LP_45 := Lib.hid (LP_37.out.keeps b8)
    clear LP_37
    have LQ_46 := Lib.hid (LQ_38.out.keeps b8)
    clear LQ_38
    clear b8
    have sB := run_string R1_41.out
    go_wp2
    go_ret
    exact ⟨rfl, B_39.out⟩
end Go.Proofs.Ytelilmhnfmojkaa.Codes
