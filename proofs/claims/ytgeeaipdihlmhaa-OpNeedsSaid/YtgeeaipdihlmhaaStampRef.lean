/- octavoref05: what May, Check, Less, Top and Next answer. Conditions: the slice's cells are stamps. -/
import Derived.Test.YtgeeaipdihlmhaaStampNextF
namespace Go.Proofs.Ytgeeaipdihlmhaa.Stamp
open Go.RowKit Flo

theorem refMay_any (t r : Nat) (w : World) :
    Calls Try.prog 46 #[.agg #[.int .u32 (t : Int), .int .u8 (r : Int)]] w fun e w' => e = .returned (.bool (may t r)) ∧ Below w.heap.size w w' := by
  have q : (decide (1 ≤ (t : Int)) = false ∧ may t r = false) ∨ (decide (1 ≤ (t : Int)) = true ∧ decide ((t : Int) ≤ 1073741824) = false ∧ may t r = false) ∨
      (decide (1 ≤ (t : Int)) = true ∧ decide ((t : Int) ≤ 1073741824) = true ∧ decide ((r : Int) < 8) = false ∧ may t r = false) ∨
      (decide (1 ≤ (t : Int)) = true ∧ decide ((t : Int) ≤ 1073741824) = true ∧ decide ((r : Int) < 8) = true ∧ may t r = true) := by
    by_cases h1 : 1 ≤ t
    · by_cases h2 : t ≤ 1073741824
      · by_cases h3 : r < 8
        · exact .inr (.inr (.inr ⟨decide_eq_true (by omega), decide_eq_true (by omega), decide_eq_true (by omega), by rw [may_iff]; omega⟩))
        · exact .inr (.inr (.inl ⟨decide_eq_true (by omega), decide_eq_true (by omega), decide_eq_false (by omega), by rw [may_no]; omega⟩))
      · exact .inr (.inl ⟨decide_eq_true (by omega), decide_eq_false (by omega), by rw [may_no]; omega⟩)
    · exact .inl ⟨decide_eq_false (by omega), by rw [may_no]; omega⟩
  have q' : (1 ≤ t) ∨ t = 0 := by omega
  rcases q with ⟨q1, h⟩ | ⟨q1, q2, h⟩ | ⟨q1, q2, q3, h⟩ | ⟨q1, q2, q3, h⟩
  all_goals
    rw [h]
    clear h q'
    go_enter Try.func46, Try.ntmps46
    go_wp2
    go_ret
    exact ⟨rfl, (Below.refl _ _).alloc (Nat.le_refl _) _⟩


end Go.Proofs.Ytgeeaipdihlmhaa.Stamp
