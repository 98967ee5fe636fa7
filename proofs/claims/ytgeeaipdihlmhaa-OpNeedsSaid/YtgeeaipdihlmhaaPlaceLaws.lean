/- The laws' helpers of layer 6: run, of, alive, may; places written out. Conditions: none. -/
import Derived.Test.YtgeeaipdihlmhaaPlaceCmp
import Derived.Test.YtgeeaipdihlmhaaPlacePut
namespace Go.Proofs.Ytgeeaipdihlmhaa.Place
open Go.RowKit Stamp
attribute [local go_sem ↓] Go.wp_at_zero Go.wp_at_succ

/-- A run written out. -/
def lr (t r m : Nat) (h : t < 4294967296 ∧ r < 256 ∧ m < 10000) : Run := ⟨t, r, m, h.1, h.2.1, by omega⟩
theorem runs_lit (W : World) (l : List Run) (cs : Array Value) (n g : Nat) (h : runs l = cs.toList) (hn : n = l.length) (hl : n ≤ 1000) (hg : W.heap.size = g) : Runs (W.alloc (.cells cs 24)) (.slice (some ⟨g, 0, none⟩) n n) l := by
  subst hg
  have := runs_new W l n hn (by omega) 24 (0, 0)
  rwa [h] at this
theorem Runs.alloc {W : World} {v : Value} {l : List Run} (h : Runs W v l) (o : Obj) : Runs (W.alloc o) v l := h.keeps ((Below.refl _ _).alloc (Nat.le_refl _) o)

/-- What the calls answer at places that are written out. -/
theorem under_lit {l : List Run} {t r : Nat} (T R : Int) (hT : (t : Int) = T) (hR : (r : Int) = R) {ht : t < 4294967296} {hr : r < 256} {l' : List Run} {c : Int} (h : und l ⟨t, r, ht, hr⟩ = (l', c)) (W : World) (v : Value) (hv : Runs W v l) :
    Calls Try.prog 23 #[v, .agg #[.int .u32 T, .int .u8 R]] W (Undone l' c W) := by
  subst hT hR
  have := pUnder_any (a := ⟨t, r, ht, hr⟩) hv
  rwa [h] at this
theorem beg_lit {p q : List Run} {c : Bool} (h : beg p q = c) (W : World) (a b : Value) (ha : Runs W a p) (hb : Runs W b q) :
    Calls Try.prog 24 #[a, b] W fun e w' => e = .returned (.bool c) ∧ Below W.heap.size W w' := by
  rw [← h]; exact pBegins_any ha hb
theorem rsame_lit {p q : List Run} {c : Bool} (h : decide (p = q) = c) (W : World) (a b : Value) (ha : Runs W a p) (hb : Runs W b q) :
    Calls Try.prog 39 #[a, b] W fun e w' => e = .returned (.bool c) ∧ Below W.heap.size W w' := by
  rw [← h]; exact refSame_any ha hb

end Go.Proofs.Ytgeeaipdihlmhaa.Place
