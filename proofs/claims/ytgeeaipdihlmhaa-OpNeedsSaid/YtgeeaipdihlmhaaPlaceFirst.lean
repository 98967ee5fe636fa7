/- octavoref06.First, Compare, Begins: what each answers. Conditions: the slices' cells are runs; First: they may stand one behind the other, at most 100 of them. -/
import Derived.Test.YtgeeaipdihlmhaaPlaceHeld
namespace Go.Proofs.Ytgeeaipdihlmhaa.Place
open Go.RowKit Stamp
attribute [local go_sem ↓] Go.wp_at_zero Go.wp_at_succ

theorem Any.len {p : List Run} (h : Any p) : p.length ≤ 64 := by
  rcases h with rfl | h
  · simp
  · exact h.2.1
def cmp (p q : List Run) : Int := if anyB p = true ∧ anyB q = true then hold (all p) (all q) else 0
def beg (p q : List Run) : Bool := anyB p && (anyB q && first (all p) (all q))
end Go.Proofs.Ytgeeaipdihlmhaa.Place
