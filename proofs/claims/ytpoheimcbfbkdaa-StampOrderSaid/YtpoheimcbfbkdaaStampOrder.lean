/- StampOrder answers true, and changes nothing that was there. Conditions: the numbers fit their kinds. -/
import Derived.Test.YtpoheimcbfbkdaaStampLaws
namespace Go.Proofs.Ytpoheimcbfbkdaa.Stamp
open Go.RowKit Flo
attribute [local go_sem ↓] Go.wp_at_zero Go.wp_at_succ

set_option maxHeartbeats 4000000 in
theorem order_walk (a b c : Id) (w : World) : Calls Try.prog 5 #[.agg #[.int .u32 (a.t : Int), .int .u8 (a.r : Int)], .agg #[.int .u32 (b.t : Int), .int .u8 (b.r : Int)], .agg #[.int .u32 (c.t : Int), .int .u8 (c.r : Int)]] w fun e w' => e = .returned (.bool true) ∧ Below w.heap.size w w' := by
  obtain ⟨t, r, ht, hr⟩ := a
  obtain ⟨u, s, hu, hs⟩ := b
  obtain ⟨v, q, hv, hq⟩ := c
  simp only
  obtain ⟨ab, hab⟩ : ∃ x, less t r u s = x := ⟨_, rfl⟩
  obtain ⟨ba, hba⟩ : ∃ x, less u s t r = x := ⟨_, rfl⟩
  obtain ⟨bc, hbc⟩ : ∃ x, less u s v q = x := ⟨_, rfl⟩
  obtain ⟨ac, hac⟩ : ∃ x, less t r v q = x := ⟨_, rfl⟩
  have LAB := Lib.hid (less_lit t r u s ab hab ht hr hu hs)
  have LBA := Lib.hid (less_lit u s t r ba hba hu hs ht hr)
  have LBC := Lib.hid (less_lit u s v q bc hbc hu hs hv hq)
  have LAC := Lib.hid (less_lit t r v q ac hac ht hr hv hq)
  have hcase : (ab = true ∧ ba = false ∧ (bc = false ∨ bc = true ∧ ac = true) ∧ (¬ t = u ∨ t = u ∧ ¬ r = s)) ∨ (ab = false ∧ ba = true ∧ (¬ t = u ∨ t = u ∧ ¬ r = s)) ∨ (ab = false ∧ ba = false ∧ t = u ∧ r = s) := by
    subst hab hba hbc hac
    by_cases h1 : t < u ∨ t = u ∧ r < s
    · left
      refine ⟨less_iff.2 h1, less_no.2 (by omega), ?_, by omega⟩
      by_cases h2 : u < v ∨ u = v ∧ s < q
      · exact .inr ⟨less_iff.2 h2, less_iff.2 (by omega)⟩
      · exact .inl (less_no.2 h2)
    · right
      by_cases h2 : t = u ∧ r = s
      · exact .inr ⟨less_no.2 h1, less_no.2 (by omega), h2⟩
      · exact .inl ⟨less_no.2 h1, less_iff.2 (by omega), by omega⟩
  clear hab hba hbc hac ht hr hu hs hv hq
  have P0 : Hid (Pair (((w.alloc (.cells #[.int .u32 (t : Int), .int .u8 (r : Int)] 24)).alloc (.cells #[.int .u32 (u : Int), .int .u8 (s : Int)] 24)).alloc (.cells #[.int .u32 (v : Int), .int .u8 (q : Int)] 24)) w.heap.size (.int .u32 (t : Int)) (.int .u8 (r : Int)) ∧
      Pair (((w.alloc (.cells #[.int .u32 (t : Int), .int .u8 (r : Int)] 24)).alloc (.cells #[.int .u32 (u : Int), .int .u8 (s : Int)] 24)).alloc (.cells #[.int .u32 (v : Int), .int .u8 (q : Int)] 24)) (w.heap.size + 1) (.int .u32 (u : Int)) (.int .u8 (s : Int)) ∧
      Pair (((w.alloc (.cells #[.int .u32 (t : Int), .int .u8 (r : Int)] 24)).alloc (.cells #[.int .u32 (u : Int), .int .u8 (s : Int)] 24)).alloc (.cells #[.int .u32 (v : Int), .int .u8 (q : Int)] 24)) (w.heap.size + 1 + 1) (.int .u32 (v : Int)) (.int .u8 (q : Int)) ∧
      Below w.heap.size w (((w.alloc (.cells #[.int .u32 (t : Int), .int .u8 (r : Int)] 24)).alloc (.cells #[.int .u32 (u : Int), .int .u8 (s : Int)] 24)).alloc (.cells #[.int .u32 (v : Int), .int .u8 (q : Int)] 24))) := by
    refine ⟨((pair_new _ _ _ _).alloc _).alloc _, ?_, ?_, (((Below.refl _ _).alloc (Nat.le_refl _) _).alloc (by simp) _).alloc (by simp; omega) _⟩
    · have := (pair_new (w.alloc (.cells #[.int .u32 (t : Int), .int .u8 (r : Int)] 24)) (.int .u32 (u : Int)) (.int .u8 (s : Int)) 24).alloc (.cells #[.int .u32 (v : Int), .int .u8 (q : Int)] 24)
      simpa using this
    · have := pair_new ((w.alloc (.cells #[.int .u32 (t : Int), .int .u8 (r : Int)] 24)).alloc (.cells #[.int .u32 (u : Int), .int .u8 (s : Int)] 24)) (.int .u32 (v : Int)) (.int .u8 (q : Int)) 24
      simpa using this
  rcases hcase with ⟨rfl, rfl, rfl | ⟨rfl, rfl⟩, h1 | ⟨rfl, h1⟩⟩ | ⟨rfl, rfl, h1 | ⟨rfl, h1⟩⟩ | ⟨rfl, rfl, rfl, rfl⟩
  all_goals
    go_enter Try.func5, Try.ntmps5
    go_wp2_with fail
    refine (LAB.out _).mono ?_
    rintro e w1 ⟨rfl, b1⟩
    obtain ⟨p1, p2, p3, p4⟩ := P0.out
    have q1 := p1.keeps b1
    have q2 := p2.keeps b1
    have q3 := p3.keeps b1
    have b1' := p4.trans (b1.mono p4.size)
    clear p1 p2 p3 p4 P0 b1
    have Q1 := Lib.hid q1
    have Q2 := Lib.hid q2
    have Q3 := Lib.hid q3
    obtain ⟨_, x1, x2⟩ := q1
    obtain ⟨_, x3, x4⟩ := q2
    clear q3
    go_wp2_with fail
    refine (LBA.out _).mono ?_
    rintro e w2 ⟨rfl, b2⟩
    have b2' := Lib.hid (b1'.trans (b2.mono b1'.size))
    clear x1 x2 x3 x4
    have q1 := Q1.out.keeps b2
    have q2 := Q2.out.keeps b2
    have q3 := Q3.out.keeps b2
    clear Q1 Q2 Q3 b1' b2
    have Q1 := Lib.hid q1
    have Q2 := Lib.hid q2
    have Q3 := Lib.hid q3
    obtain ⟨_, x1, x2⟩ := q1
    obtain ⟨_, x3, x4⟩ := q2
    clear q3
    go_wp2_with fail
    refine (alive_any _).mono ?_
    rintro e w3 ⟨rfl, b3⟩
    have B3 := Lib.hid (b2'.out.trans (b3.mono b2'.out.size))
    clear x1 x2 x3 x4 b2'
    have q1 := Q1.out.keeps b3
    have q2 := Q2.out.keeps b3
    have q3 := Q3.out.keeps b3
    clear Q1 Q2 Q3 b3
    have Q1 := Lib.hid q1
    have Q3 := Lib.hid q3
    obtain ⟨_, x1, x2⟩ := q1
    obtain ⟨_, x3, x4⟩ := q2
    obtain ⟨_, x5, x6⟩ := q3
    go_wp2_with (first | (go_at_call 13; (with_reducible refine (LBC.out _).mono ?_); rintro e w4 ⟨rfl, b4⟩; have B4 := Lib.hid (B3.out.trans (b4.mono B3.out.size)); obtain ⟨_, y1, y2⟩ := Q1.out.keeps b4; obtain ⟨_, y5, y6⟩ := Q3.out.keeps b4; clear b4) | (go_at_call 13; (with_reducible refine (LAC.out _).mono ?_); rintro e w5 ⟨rfl, b5⟩))
    go_ret
    first | exact ⟨rfl, B3.out⟩ | exact ⟨rfl, B4.out⟩ | exact ⟨rfl, B4.out.trans (b5.mono B4.out.size)⟩
end Go.Proofs.Ytpoheimcbfbkdaa.Stamp
