/- Whether a number is a code point: point.Check, and the document's Is. Conditions: none. -/
import Derived.Test.YtgeeaipdihlmhaaProg
import Derived.IntWalk
import Derived.LoopTactic
namespace Go.Proofs.Ytgeeaipdihlmhaa.Pt
open Go.RowKit

/-- A code point. -/
def IsPt (n : Int) : Prop := 0 ≤ n ∧ n ≤ 1114111 ∧ (n < 55296 ∨ 57343 < n)
instance (n : Int) : Decidable (IsPt n) := by unfold IsPt; infer_instance

theorem isPt_iff (n : Int) : IsPt n ↔ 0 ≤ n ∧ n ≤ 1114111 ∧ (n < 55296 ∨ 57343 < n) := Iff.rfl
def ck (n : Int) : Int := if IsPt n then 0 else 40
theorem check_any (n : Int) (w : World) : Calls Try.prog 36 #[.int .i64 n] w fun e w' => e = .returned (.int .i64 (ck n)) ∧ w = w' := by
  by_cases h1 : n < 0
  · have hc : ck n = 40 := by unfold ck; rw [if_neg (by rw [isPt_iff]; omega)]
    have q1 : decide (n < 0) = true := by simpa using h1
    rw [hc]
    clear hc
    go_enter Try.func36, Try.ntmps36
    go_wp2
    go_ret
    exact ⟨rfl, rfl⟩
  · have q1 : decide (n < 0) = false := by simpa using h1
    by_cases h2 : 1114111 < n
    · have hc : ck n = 40 := by unfold ck; rw [if_neg (by rw [isPt_iff]; omega)]
      have q2 : decide (1114111 < n) = true := by simpa using h2
      rw [hc]
      clear hc
      go_enter Try.func36, Try.ntmps36
      go_wp2
      go_ret
      exact ⟨rfl, rfl⟩
    · have q2 : decide (1114111 < n) = false := by simpa using h2
      by_cases h3 : 55296 ≤ n
      · have q3 : decide (55296 ≤ n) = true := by simpa using h3
        by_cases h4 : n ≤ 57343
        · have hc : ck n = 40 := by unfold ck; rw [if_neg (by rw [isPt_iff]; omega)]
          have q4 : decide (n ≤ 57343) = true := by simpa using h4
          rw [hc]
          clear hc
          go_enter Try.func36, Try.ntmps36
          go_wp2
          go_ret
          exact ⟨rfl, rfl⟩
        · have hc : ck n = 0 := by unfold ck; rw [if_pos (by rw [isPt_iff]; omega)]
          have q4 : decide (n ≤ 57343) = false := by simpa using h4
          rw [hc]
          clear hc
          go_enter Try.func36, Try.ntmps36
          go_wp2
          go_ret
          exact ⟨rfl, rfl⟩
      · have hc : ck n = 0 := by unfold ck; rw [if_pos (by rw [isPt_iff]; omega)]
        have q3 : decide (55296 ≤ n) = false := by simpa using h3
        rw [hc]
        clear hc
        go_enter Try.func36, Try.ntmps36
        go_wp2
        go_ret
        exact ⟨rfl, rfl⟩

theorem refIs_yes (n : Int) (h : IsPt n) (w : World) : Calls Try.prog 50 #[.int .i64 n] w fun e w' => e = .returned (.bool true) ∧ w = w' := by
  obtain ⟨h1, h2, h3⟩ := h
  have q1 : decide (0 ≤ n) = true := by simpa using h1
  have q2 : decide (n ≤ 1114111) = true := by simpa using h2
  by_cases h4 : n < 55296
  · have q3 : decide (n < 55296) = true := by simpa using h4
    go_enter Try.func50, Try.ntmps50
    go_wp2
    go_ret
    exact ⟨rfl, rfl⟩
  · have q3 : decide (n < 55296) = false := by simpa using h4
    have q4 : decide (57343 < n) = true := by simp; omega
    go_enter Try.func50, Try.ntmps50
    go_wp2
    go_ret
    exact ⟨rfl, rfl⟩
theorem refIs_no (n : Int) (h : ¬ IsPt n) (w : World) : Calls Try.prog 50 #[.int .i64 n] w fun e w' => e = .returned (.bool false) ∧ w = w' := by
  rw [isPt_iff] at h
  by_cases h1 : 0 ≤ n
  · have q1 : decide (0 ≤ n) = true := by simpa using h1
    by_cases h2 : n ≤ 1114111
    · have q2 : decide (n ≤ 1114111) = true := by simpa using h2
      have q3 : decide (n < 55296) = false := by simp; omega
      have q4 : decide (57343 < n) = false := by simp; omega
      clear h
      go_enter Try.func50, Try.ntmps50
      go_wp2
      go_ret
      exact ⟨rfl, rfl⟩
    · have q2 : decide (n ≤ 1114111) = false := by simpa using h2
      clear h
      go_enter Try.func50, Try.ntmps50
      go_wp2
      go_ret
      exact ⟨rfl, rfl⟩
  · have q1 : decide (0 ≤ n) = false := by simpa using h1
    clear h
    go_enter Try.func50, Try.ntmps50
    go_wp2
    go_ret
    exact ⟨rfl, rfl⟩

def isB (n : Int) : Bool := decide (IsPt n)
theorem refIs_any (n : Int) (w : World) : Calls Try.prog 50 #[.int .i64 n] w fun e w' => e = .returned (.bool (isB n)) ∧ w = w' := by
  by_cases h : IsPt n
  · rw [show isB n = true from decide_eq_true h]; exact refIs_yes n h w
  · rw [show isB n = false from decide_eq_false h]; exact refIs_no n h w
end Go.Proofs.Ytgeeaipdihlmhaa.Pt
