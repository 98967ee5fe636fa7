/- octavoref06.cut, Held, First: what each answers. Conditions: the slices' cells are runs that may stand one behind the other. -/
import Derived.Test.YtgeeaipdihlmhaaPlaceMay
import Derived.Test.YtgeeaipdihlmhaaStampMath
namespace Go.Proofs.Ytgeeaipdihlmhaa.Place
open Go.RowKit Stamp
attribute [local go_sem ↓] Go.wp_at_zero Go.wp_at_succ

theorem own_blk3 {X : World} {base g : Nat} {e : TypeId} {c0 c1 c2 : Value} (hb : base ≤ g) (h : X.heap[g]? = some (.cells #[c0, c1, c2] e)) : X.ownsRow base e 3 (.slice (some ⟨g, 0, none⟩) 1 1) 1 [c0, c1, c2] :=
  ⟨rfl, .inr ⟨g, 1, #[c0, c1, c2], rfl, hb, h, Nat.le_refl _, by decide, rfl, rfl⟩⟩
theorem keep3 {wl w1 w2 : World} {b o1 o2 o3 : Nat} {c1 c2 c3 : Value} (q : b < wl.heap.size ∧ wl.cell? ⟨b, o1, none⟩ = some c1 ∧ wl.cell? ⟨b, o2, none⟩ = some c2 ∧ wl.cell? ⟨b, o3, none⟩ = some c3) (h : Below w1.heap.size w1 w2) (hb : Below wl.heap.size wl w1) :
    Below wl.heap.size wl w2 ∧ w2.cell? ⟨b, o1, none⟩ = some c1 ∧ w2.cell? ⟨b, o2, none⟩ = some c2 ∧ w2.cell? ⟨b, o3, none⟩ = some c3 :=
  have a := bt hb h
  ⟨a, (a.cell (p := ⟨b, o1, none⟩) q.1).trans q.2.1, (a.cell (p := ⟨b, o2, none⟩) q.1).trans q.2.2.1, (a.cell (p := ⟨b, o3, none⟩) q.1).trans q.2.2.2⟩

/-- What is behind the first run. -/
theorem Runs.rest {w : World} {b off n cap : Nat} {x : Run} {q : List Run} (h : Runs w (.slice (some ⟨b, off, none⟩) n cap) (x :: q)) : Runs w (.slice (some (if cap = 1 then ⟨b, off, none⟩ else ⟨b, off + 3, none⟩)) (n - 1) (cap - 1)) q := by
  have hcap := Sees.cap h
  by_cases hc : cap = 1
  · rw [if_pos hc]
    have hq : q = [] := by
      cases q with
      | nil => rfl
      | cons y q => simp at hcap; omega
    subst hq
    refine ⟨rfl, some ⟨b, off, none⟩, cap - 1, by simp at hcap; simp [hcap.1], by simp, by omega, by simp, .inl rfl⟩
  · rw [if_neg hc]
    have := Go.Proofs.Ytgeeaipdihlmhaa.Runs.tail h (k := 1) (by simp)
    simpa using this

/-- A run's cells, in the midst of a block. -/
def Pos3 (w : World) (b off t r : Nat) (m : Int) : Prop := b < w.heap.size ∧ w.cell? ⟨b, off, none⟩ = some (.int .u32 (t : Int)) ∧ w.cell? ⟨b, off + 1, none⟩ = some (.int .u8 (r : Int)) ∧ w.cell? ⟨b, off + 2, none⟩ = some (.int .i64 m)

end Go.Proofs.Ytgeeaipdihlmhaa.Place
