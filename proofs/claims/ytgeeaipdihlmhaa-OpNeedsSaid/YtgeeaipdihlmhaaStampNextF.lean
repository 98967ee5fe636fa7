/- octavo/stamp.Next: what it answers. Conditions: the slice's cells are stamps. -/
import Derived.Test.YtgeeaipdihlmhaaStamp
namespace Go.Proofs.Ytgeeaipdihlmhaa.Stamp
open Go.RowKit Flo

/-- A block of two cells, behind calls that write nothing that was there. -/
theorem two_cells {w w2 : World} {c0 c1 : Value} {e : TypeId} (h : Below (w.alloc (.cells #[c0, c1] e)).heap.size (w.alloc (.cells #[c0, c1] e)) w2) :
    w2.cell? ⟨w.heap.size, 0, none⟩ = some c0 ∧ w2.cell? ⟨w.heap.size, 1, none⟩ = some c1 ∧ w2.frozen? ⟨w.heap.size, 0, none⟩ = false ∧ w2.frozen? ⟨w.heap.size, 1, none⟩ = false := by
  have hh : w2.heap[w.heap.size]? = some (.cells #[c0, c1] e (0, 0)) := (h.block w.heap.size (by simp)).trans (heap_alloc_new w _)
  refine ⟨cell_of_row _ w.heap.size 0 #[c0, c1] e _ hh, cell_of_row _ w.heap.size 1 #[c0, c1] e _ hh, ?_, ?_⟩
  · simp [World.frozen?, hh]
  · simp [World.frozen?, hh]

theorem step3 {w1 w2 w3 : World} {o : Obj} (h : Below w1.heap.size w1 w2) (h3 : Below (w2.alloc o).heap.size (w2.alloc o) w3) : Below w1.heap.size w1 w3 :=
  (h.alloc h.size o).trans (h3.mono (by have := h.size; simp; omega))
theorem below_of3 {w w3 : World} {o : Obj} (h : Below (w.alloc o).heap.size (w.alloc o) w3) : Below w.heap.size w w3 :=
  ((Below.refl _ _).alloc (Nat.le_refl _) o).trans (h.mono (by simp))

theorem set2 {w w3 : World} {o : Obj} {c0 c1 : Value} (h : Below (w.alloc o).heap.size (w.alloc o) w3) : Below w.heap.size w ((w3.setCell ⟨w.heap.size, 0, none⟩ c0).setCell ⟨w.heap.size, 1, none⟩ c1) :=
  ((below_of3 h).setCell (p := ⟨w.heap.size, 0, none⟩) (Nat.le_refl _) _).setCell (p := ⟨w.heap.size, 1, none⟩) (Nat.le_refl _) _

end Go.Proofs.Ytgeeaipdihlmhaa.Stamp
