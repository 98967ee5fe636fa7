/- Slices of elements of any width: what a slice value holds, cell by cell; append onto a row of the call's own. Conditions: none. Stamps: which may be, which is less, the next one. Conditions: none. Rows of the call's own whose elements may hold slices that were there ahead of it; append of one. Conditions: none. -/
import Derived.Test.YtgjbnbojjgbmcaaGreatChecked
import Derived.WalkKit
import Derived.WalkSpells
import Derived.WalkLawsBesides
import Derived.Laws.BytesArg
import Derived.Lib.Hide
import Derived.Deep.LoopGhost
import Derived.Laws.AppendOwnNone
import Derived.Laws.OwnMore
import Derived.WideShapes
import Derived.Maps.AppendAt
import Derived.Test.YtgjbnbojjgbmcaaGreatPk01
import Derived.Test.YtgjbnbojjgbmcaaGreatPk15
import Derived.Test.YtgjbnbojjgbmcaaGreatPk04

namespace Go.Proofs.YtgjbnbojjgbmcaaGreat
open Go.RowKit Go.WideShapes
theorem Ints.keeps {w w' : World} {v : Value} {l : List Int} (h : Ints w v l) (hb : Below w.heap.size w w') : Ints w' v l := Sees.keeps h hb
theorem Ints.own {w : World} {base : Nat} {e : TypeId} {v : Value} {n : Nat} {l : List Int} (h : w.ownsRow base e 1 v n (is l)) : Ints w v l := by
  have h1 := h.1
  rw [is_len, Nat.mul_one] at h1
  subst h1
  exact Sees.own h
end Go.Proofs.YtgjbnbojjgbmcaaGreat

namespace Go.Proofs.YtgjbnbojjgbmcaaGreat.Stamp
theorem less_no {t r u s : Nat} : less t r u s = false ↔ ¬ (t < u ∨ t = u ∧ r < s) := by simp only [less, decide_eq_false_iff_not]
end Go.Proofs.YtgjbnbojjgbmcaaGreat.Stamp

namespace Go.Proofs.YtgjbnbojjgbmcaaGreat
open Go.RowKit Go.WideShapes
theorem Shr.nil {α : Type} (E : Enc α) (te : TypeId) (w0 w : World) : Shr E te w0 w (.slice none 0 0) [] := ⟨[], World.ownsRow_nil _ _ _ _, rfl⟩
end Go.Proofs.YtgjbnbojjgbmcaaGreat
