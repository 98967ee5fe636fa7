/- octavoref08: One, Add, Among, Of, Top: what each answers. Conditions: the slices' cells are replicas' spans, stamps. -/
import Derived.Test.YtinglfhndlklaaaClockRef4
namespace Go.Proofs.Ytinglfhndlklaaa.Clocks
open Go.RowKit Go.Proofs.Ytinglfhndlklaaa.Spans
attribute [local go_sem ↓] Go.wp_at_zero Go.wp_at_succ

theorem may05_any (a : Id) (w : World) :
    Calls Try.prog 49 #[.agg #[.int .u32 (a.t : Int), .int .u8 (a.r : Int)]] w fun e w' => e = .returned (.bool (decide (mayI a))) ∧ Below w.heap.size w w' := by
  obtain ⟨t, r, _, _⟩ := a
  simp only
  have q : (decide (1 ≤ (t : Int)) = false ∧ ¬ mayI ⟨t, r, by assumption, by assumption⟩) ∨ (decide (1 ≤ (t : Int)) = true ∧ decide ((t : Int) ≤ 1073741824) = false ∧ ¬ mayI ⟨t, r, by assumption, by assumption⟩) ∨
      (decide (1 ≤ (t : Int)) = true ∧ decide ((t : Int) ≤ 1073741824) = true ∧ decide ((r : Int) < 8) = false ∧ ¬ mayI ⟨t, r, by assumption, by assumption⟩) ∨
      (decide (1 ≤ (t : Int)) = true ∧ decide ((t : Int) ≤ 1073741824) = true ∧ decide ((r : Int) < 8) = true ∧ mayI ⟨t, r, by assumption, by assumption⟩) := by
    unfold mayI
    simp only
    by_cases h1 : 1 ≤ t
    · by_cases h2 : t ≤ 1073741824
      · by_cases h3 : r < 8
        · exact .inr (.inr (.inr ⟨decide_eq_true (by omega), decide_eq_true (by omega), decide_eq_true (by omega), by omega⟩))
        · exact .inr (.inr (.inl ⟨decide_eq_true (by omega), decide_eq_true (by omega), decide_eq_false (by omega), by omega⟩))
      · exact .inr (.inl ⟨decide_eq_true (by omega), decide_eq_false (by omega), by omega⟩)
    · exact .inl ⟨decide_eq_false (by omega), by omega⟩
  have q' : (1 ≤ t) ∨ t = 0 := by omega
  rcases q with ⟨q1, h⟩ | ⟨q1, q2, h⟩ | ⟨q1, q2, q3, h⟩ | ⟨q1, q2, q3, h⟩
  all_goals
    first | rw [decide_eq_false h] | rw [decide_eq_true h]
    clear h q'
    go_enter Try.func49, Try.ntmps49
    go_wp2
    go_ret
    exact ⟨rfl, (Below.refl _ _).alloc (Nat.le_refl _) _⟩

theorem one_any (a : Id) (w : World) :
    Calls Try.prog 52 #[.agg #[.int .u32 (a.t : Int), .int .u8 (a.r : Int)]] w fun e w' => ∃ v', e = .returned v' ∧ OwnC w' w.heap.size v' (one a) ∧ Below w.heap.size w w' := by
  have ht := a.ht
  have hr := a.hr
  obtain ⟨X, hX⟩ : ∃ X, X = w.alloc (.cells #[.int .u32 (a.t : Int), .int .u8 (a.r : Int)] 34) := ⟨_, rfl⟩
  have hs : X.heap.size = w.heap.size + 1 := by rw [hX]; simp
  have BX : Below w.heap.size w X := by rw [hX]; exact (Below.refl _ _).alloc (Nat.le_refl _) _
  have O1 := World.ownsRow_lit (base := w.heap.size) (e := 63) (size := 2) X #[.int .u32 (a.t : Int), .int .u32 (a.t : Int)] 1 (by omega) (by decide) rfl
  rw [hs] at O1
  have O2 := own_stays O1 ((Below.refl _ _).alloc (Nat.le_refl _) (.cells #[.int .u8 (a.r : Int), .slice (some ⟨w.heap.size + 1, 0, none⟩) 1 1] 28))
  have O3 := World.ownsRow_lit (base := w.heap.size) (e := 28) (size := 2) (X.alloc (.cells #[.int .u32 (a.t : Int), .int .u32 (a.t : Int)] 63)) #[.int .u8 (a.r : Int), .slice (some ⟨w.heap.size + 1, 0, none⟩) 1 1] 1 (by simp; omega) (by decide) rfl
  rw [World.size_alloc, hs] at O3
  have OW : Hid (OwnC ((X.alloc (.cells #[.int .u32 (a.t : Int), .int .u32 (a.t : Int)] 63)).alloc (.cells #[.int .u8 (a.r : Int), .slice (some ⟨w.heap.size + 1, 0, none⟩) 1 1] 28)) w.heap.size (.slice (some ⟨w.heap.size + 1 + 1, 0, none⟩) 1 1) (one a)) := by
    refine ⟨_, O3, rfl, hr, ?_, trivial⟩
    have e : sps (one a).head!.2 = sps [mk a.t a.t] := rfl
    show World.ownsRow _ _ _ _ _ _ (sps [mk a.t a.t])
    have e2 : sps [mk a.t a.t] = [.int .u32 (a.t : Int), .int .u32 (a.t : Int)] := by simp only [sps, mk_f ht, mk_t ht]
    rw [e2]
    exact O2
  have BB : Hid (Below w.heap.size w ((X.alloc (.cells #[.int .u32 (a.t : Int), .int .u32 (a.t : Int)] 63)).alloc (.cells #[.int .u8 (a.r : Int), .slice (some ⟨w.heap.size + 1, 0, none⟩) 1 1] 28))) := (BX.alloc BX.size _).alloc (by have := BX.size; simp; omega) _
  rw [hX] at OW BB
  clear O1 O2 O3 BX hX hs ht hr
  go_enter Try.func52, Try.ntmps52
  go_wp2
  go_ret
  exact ⟨_, rfl, OW.out, BB.out⟩

set_option maxHeartbeats 1000000 in
theorem refAddC_any {v : Value} {c : List Tm} (a : Id) {w : World} (hv : Tms w v c) (hf : Few c (one a)) :
    Calls Try.prog 23 #[v, .agg #[.int .u32 (a.t : Int), .int .u8 (a.r : Int)]] w (DoneC (addsC c a).1 (addsC c a).2 w) := by
  have HV := Lib.hid hv
  have BX := Lib.hid ((Below.refl w.heap.size w).alloc (Nat.le_refl _) (.cells #[.int .u32 (a.t : Int), .int .u8 (a.r : Int)] 34))
  have PX : Hid (((w.alloc (.cells #[.int .u32 (a.t : Int), .int .u8 (a.r : Int)] 34)).heap[w.heap.size]? = some (.cells #[.int .u32 (a.t : Int), .int .u8 (a.r : Int)] 34))) := heap_alloc_new w _
  obtain ⟨L, x, hd⟩ : ∃ L x, addsC c a = (L, x) := ⟨_, _, rfl⟩
  rw [hd]
  have M1 := Lib.hid (refMayC_any (hv.keeps BX.out))
  have MI := Lib.hid (fun W => may05_any a W)
  obtain ⟨pa, hpa⟩ : ∃ p, mayC c = p := ⟨_, rfl⟩
  obtain ⟨pi, hpi⟩ : ∃ p, decide (mayI a) = p := ⟨_, rfl⟩
  rw [hpa] at M1
  rw [hpi] at MI
  have OA := Lib.hid (fun W => one_any a W)
  have box : ∀ W : World, Below (w.heap.size + 1) (w.alloc (.cells #[.int .u32 (a.t : Int), .int .u8 (a.r : Int)] 34)) W → W.cell? ⟨w.heap.size, 0, none⟩ = some (.int .u32 (a.t : Int)) ∧ W.cell? ⟨w.heap.size, 1, none⟩ = some (.int .u8 (a.r : Int)) := fun W hW => by
    have h := (hW.block w.heap.size (by omega)).trans PX.out
    exact ⟨cell_of_row _ w.heap.size 0 _ _ _ h, cell_of_row _ w.heap.size 1 _ _ _ h⟩
  have Box := Lib.hid box
  have hsz : (w.alloc (.cells #[.int .u32 (a.t : Int), .int .u8 (a.r : Int)] 34)).heap.size = w.heap.size + 1 := by simp
  cases pa
  · obtain ⟨rfl, rfl⟩ : L = [] ∧ x = 8 := by
      unfold addsC at hd
      rw [if_neg (by rw [hpa]; simp)] at hd
      exact ⟨(Prod.mk.inj hd).1.symm, (Prod.mk.inj hd).2.symm⟩
    clear hv hf hd hpa hpi box MI
    go_enter Try.func23, Try.ntmps23
    go_wp2_with fail
    refine M1.out.mono ?_
    rintro e w1 ⟨rfl, b1⟩
    have B1 := Lib.hid (bt BX.out b1)
    clear b1
    go_wp2
    go_ret2
    exact ⟨_, rfl, OwnC.nil _ _, B1.out⟩
  cases pi
  · obtain ⟨rfl, rfl⟩ : L = [] ∧ x = 8 := by
      unfold addsC at hd
      rw [if_neg (fun h => of_decide_eq_false hpi h.2)] at hd
      exact ⟨(Prod.mk.inj hd).1.symm, (Prod.mk.inj hd).2.symm⟩
    clear hv hf hd hpa hpi box
    go_enter Try.func23, Try.ntmps23
    go_wp2_with fail
    refine M1.out.mono ?_
    rintro e w1 ⟨rfl, b1⟩
    have B1 := Lib.hid (bt BX.out b1)
    rw [hsz] at b1
    obtain ⟨c0, c1⟩ := Box.out _ b1
    clear b1
    go_wp2_with fail
    refine (MI.out _).mono ?_
    rintro e w2 ⟨rfl, b2⟩
    have B2 := Lib.hid (bt B1.out b2)
    clear b2
    go_wp2
    go_ret2
    exact ⟨_, rfl, OwnC.nil _ _, B2.out⟩
  have hmi : mayI a := of_decide_eq_true hpi
  obtain ⟨rfl, rfl⟩ : L = bothC c (one a) ∧ x = 0 := by
    unfold addsC at hd
    rw [if_pos ⟨hpa, hmi⟩] at hd
    exact ⟨(Prod.mk.inj hd).1.symm, (Prod.mk.inj hd).2.symm⟩
  have hc := (mayC_iff c).1 hpa
  have BO : Hid (∀ (W : World) (u : Value), Below w.heap.size w W → Tms W u (one a) → Calls Try.prog 51 #[v, u] W fun e w' => ∃ v', e = .returned (.tuple #[v', .bool true]) ∧ OwnC w' W.heap.size v' (bothC c (one a)) ∧ Below W.heap.size W w') := fun W u hW hu => refBothC_any (HV.out.keeps hW) hu hc (one_ok hmi) hf
  obtain ⟨J, hJ⟩ : ∃ J, J = bothC c (one a) := ⟨_, rfl⟩
  obtain ⟨O, hO⟩ : ∃ O, O = one a := ⟨_, rfl⟩
  rw [← hJ] at BO ⊢
  rw [← hO] at BO OA
  clear hv hf hd hpa hpi box hJ hc hmi hO
  simp only
  go_enter Try.func23, Try.ntmps23
  go_wp2_with fail
  refine M1.out.mono ?_
  rintro e w1 ⟨rfl, b1⟩
  have B1 := Lib.hid (bt BX.out b1)
  rw [hsz] at b1
  have N1 := Lib.hid b1
  obtain ⟨c0, c1⟩ := Box.out _ b1
  have hs1 : w.heap.size + 1 ≤ w1.heap.size := by have := b1.size; rw [hsz] at this; exact this
  clear b1
  go_wp2_with fail
  refine (MI.out _).mono ?_
  rintro e w2 ⟨rfl, b2⟩
  have B2 := Lib.hid (bt B1.out b2)
  have hb2 := N1.out.trans (b2.mono hs1)
  clear c0 c1
  obtain ⟨c0, c1⟩ := Box.out _ hb2
  clear b2 hb2
  go_wp2_with fail
  refine (OA.out _).mono ?_
  rintro e w3 ⟨v3, rfl, o3, b3⟩
  have B3 := Lib.hid (bt B2.out b3)
  have BC := Lib.hid (BO.out _ _ B3.out o3.tms)
  obtain ⟨a3, c3, rfl⟩ := o3.tms.shape
  clear o3 b3 c0 c1
  go_wp2_with fail
  refine BC.out.mono ?_
  rintro e w4 ⟨v4, rfl, o4, b4⟩
  have O4 := Lib.hid (OwnC.base o4 B3.out.size)
  have B4 := Lib.hid (bt B3.out b4)
  have TO := Lib.hid (toldC_any o4)
  clear o4 b4
  go_wp2_with fail
  refine TO.out.mono ?_
  rintro e w5 ⟨rfl, rfl⟩
  go_wp2
  go_ret2
  exact ⟨_, rfl, O4.out, B4.out⟩
end Go.Proofs.Ytinglfhndlklaaa.Clocks
