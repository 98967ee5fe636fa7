/- octavoref05: what May, Check, Less, Top and Next answer. Conditions: the slice's cells are stamps. -/
import Derived.Test.YtfhmleigceakjaaStampNextF
namespace Go.Proofs.Ytfhmleigceakjaa.Stamp
open Go.RowKit Flo

theorem refMay_any (t r : Nat) (w : World) :
    Calls Try.prog 44 #[.agg #[.int .u32 (t : Int), .int .u8 (r : Int)]] w fun e w' => e = .returned (.bool (may t r)) ∧ Below w.heap.size w w' := by
  have q : (decide (1 ≤ (t : Int)) = false ∧ may t r = false) ∨ (decide (1 ≤ (t : Int)) = true ∧ decide ((t : Int) ≤ 1073741824) = false ∧ may t r = false) ∨
      (decide (1 ≤ (t : Int)) = true ∧ decide ((t : Int) ≤ 1073741824) = true ∧ decide ((r : Int) < 8) = false ∧ may t r = false) ∨
      (decide (1 ≤ (t : Int)) = true ∧ decide ((t : Int) ≤ 1073741824) = true ∧ decide ((r : Int) < 8) = true ∧ may t r = true) := by
    by_cases h1 : 1 ≤ t
    · by_cases h2 : t ≤ 1073741824
      · by_cases h3 : r < 8
        · exact .inr (.inr (.inr ⟨decide_eq_true (by omega), decide_eq_true (by omega), decide_eq_true (by omega), by rw [may_iff]; omega⟩))
        · exact .inr (.inr (.inl ⟨decide_eq_true (by omega), decide_eq_true (by omega), decide_eq_false (by omega), by rw [may_no]; omega⟩))
      · exact .inr (.inl ⟨decide_eq_true (by omega), decide_eq_false (by omega), by rw [may_no]; omega⟩)
    · exact .inl ⟨decide_eq_false (by omega), by rw [may_no]; omega⟩
  have q' : (1 ≤ t) ∨ t = 0 := by omega
  rcases q with ⟨q1, h⟩ | ⟨q1, q2, h⟩ | ⟨q1, q2, q3, h⟩ | ⟨q1, q2, q3, h⟩
  all_goals
    rw [h]
    clear h q'
    go_enter Try.func44, Try.ntmps44
    go_wp2
    go_ret
    exact ⟨rfl, (Below.refl _ _).alloc (Nat.le_refl _) _⟩


theorem refLess_any (t r u s : Nat) (w : World) :
    Calls Try.prog 54 #[.agg #[.int .u32 (t : Int), .int .u8 (r : Int)], .agg #[.int .u32 (u : Int), .int .u8 (s : Int)]] w fun e w' => e = .returned (.bool (less t r u s)) ∧ Below w.heap.size w w' := by
  obtain ⟨q, hq⟩ : ∃ q, q = less t r u s := ⟨_, rfl⟩
  have hl : (decide ((t : Int) < (u : Int)) = true ∧ decide (t < u) = true ∧ true = q) ∨ (decide ((t : Int) < (u : Int)) = false ∧ decide (t < u) = false ∧ ((t : Int) == (u : Int)) = true ∧ decide (t = u) = true ∧ decide (r < s) = q) ∨
      (decide ((t : Int) < (u : Int)) = false ∧ decide (t < u) = false ∧ ((t : Int) == (u : Int)) = false ∧ decide (t = u) = false ∧ false = q) := by
    rw [hq]
    by_cases h1 : t < u
    · exact .inl ⟨decide_eq_true (by omega), decide_eq_true h1, by rw [eq_comm, less_iff]; omega⟩
    · by_cases h2 : t = u
      · refine .inr (.inl ⟨decide_eq_false (by omega), decide_eq_false h1, by simp [h2], decide_eq_true h2, ?_⟩)
        unfold less; congr 1; simp; omega
      · exact .inr (.inr ⟨decide_eq_false (by omega), decide_eq_false h1, by simp; omega, decide_eq_false h2, by rw [eq_comm, less_no]; omega⟩)
  rw [← hq]
  clear hq
  rcases hl with ⟨k1, k2, rfl⟩ | ⟨k1, k2, k3, k4, k5⟩ | ⟨k1, k2, k3, k4, rfl⟩
  all_goals
    go_enter Try.func54, Try.ntmps54
    go_wp2
    go_ret
    exact ⟨by first | rfl | rw [← k5], ((Below.refl _ _).alloc (Nat.le_refl _) _).alloc (by simp) _⟩

end Go.Proofs.Ytfhmleigceakjaa.Stamp
