/- octavoref09: Check, Many, Stands, Needs: what each answers. Conditions: the places' cells are runs. -/
import Derived.Deep.DrawnRows
import Derived.Deep.RegionHeld3
import Derived.Test.YtocjkegkgnbboaaPk06
import Derived.Test.YtocjkegkgnbboaaPk04

namespace Go.Proofs.Ytocjkegkgnbboaa.Ops
open Go.RowKit Stamp Go.Proofs.Ytocjkegkgnbboaa.Place
attribute [local go_sem ↓] Go.wp_at_zero Go.wp_at_succ

end Go.Proofs.Ytocjkegkgnbboaa.Ops

/- The laws' helpers of layer 9: by, three, needs, bad, alive. Conditions: none. -/
namespace Go.Proofs.Ytocjkegkgnbboaa.Ops
open Go.RowKit Stamp Go.Proofs.Ytocjkegkgnbboaa.Place
attribute [local go_sem ↓] Go.wp_at_zero Go.wp_at_succ

/-- What blocks of five cells hold, over calls that write nothing that was there. -/
def Five (w : World) (g : Nat) (c0 c1 c2 c3 c4 : Value) : Prop := g < w.heap.size ∧ w.cell? ⟨g, 0, none⟩ = some c0 ∧ w.cell? ⟨g, 1, none⟩ = some c1 ∧ w.cell? ⟨g, 2, none⟩ = some c2 ∧ w.cell? ⟨g, 3, none⟩ = some c3 ∧ w.cell? ⟨g, 4, none⟩ = some c4
theorem Five.keeps {w w' : World} {g : Nat} {c0 c1 c2 c3 c4 : Value} (p : Five w g c0 c1 c2 c3 c4) (hb : Below w.heap.size w w') : Five w' g c0 c1 c2 c3 c4 :=
  ⟨Nat.lt_of_lt_of_le p.1 hb.size, (hb.cell (p := ⟨g, 0, none⟩) p.1).trans p.2.1, (hb.cell (p := ⟨g, 1, none⟩) p.1).trans p.2.2.1, (hb.cell (p := ⟨g, 2, none⟩) p.1).trans p.2.2.2.1, (hb.cell (p := ⟨g, 3, none⟩) p.1).trans p.2.2.2.2.1, (hb.cell (p := ⟨g, 4, none⟩) p.1).trans p.2.2.2.2.2⟩
theorem five_new (w : World) (c0 c1 c2 c3 c4 : Value) (e : TypeId) : Five (w.alloc (.cells #[c0, c1, c2, c3, c4] e)) w.heap.size c0 c1 c2 c3 c4 :=
  ⟨by simp, cell_of_row _ w.heap.size 0 _ e _ (heap_alloc_new w _), cell_of_row _ w.heap.size 1 _ e _ (heap_alloc_new w _), cell_of_row _ w.heap.size 2 _ e _ (heap_alloc_new w _), cell_of_row _ w.heap.size 3 _ e _ (heap_alloc_new w _), cell_of_row _ w.heap.size 4 _ e _ (heap_alloc_new w _)⟩
end Go.Proofs.Ytocjkegkgnbboaa.Ops
