/- octavoref06.Held: what it answers. Conditions: the slices' cells are runs; they may stand one behind the other, at most 100 of them. -/
import Derived.Test.YtgeeaipdihlmhaaPlaceCut
import Derived.Test.YtgeeaipdihlmhaaStampRef
namespace Go.Proofs.Ytgeeaipdihlmhaa.Place
open Go.RowKit Stamp
attribute [local go_sem ↓] Go.wp_at_zero Go.wp_at_succ

/-- How many stamps, as a natural number; and read out of the cells. -/
def nl : List Run → Nat
  | [] => 0
  | x :: p => x.m.toNat + nl p
def tot (w : World) (b off : Nat) : Nat → Nat
  | 0 => 0
  | k + 1 => tot w b off k + (match w.cell? ⟨b, off + k * 3 + 2, none⟩ with | some (.int _ m) => m.toNat | _ => 0)
def totV (w : World) : Value → Nat
  | .slice (some a) n _ => tot w a.block a.off n
  | _ => 0
theorem nl_append : ∀ p q : List Run, nl (p ++ q) = nl p + nl q
  | [], q => by simp [nl]
  | x :: p, q => by simp [nl, nl_append p q]; omega
theorem totV_runs {w : World} {v : Value} {l : List Run} (h : Runs w v l) : totV w v = nl l := by
  obtain ⟨ao, cap, rfl⟩ := h.shape
  cases ao with
  | none =>
    have hc := Sees.cap h
    have : l = [] := List.length_eq_zero_iff.1 (by have := hc.2.2.2 rfl; omega)
    subst this
    rfl
  | some a =>
    by_cases hl : l = []
    · subst hl; rfl
    · have hpos : 0 < l.length := by cases l with | nil => exact absurd rfl hl | cons x p => simp
      obtain ⟨b, off, he, _, _⟩ := h.at 0 hpos
      cases he
      have key : ∀ k, k ≤ l.length → tot w b off k = nl (l.take k) := by
        intro k
        induction k with
        | zero => intro _; rfl
        | succ k ih =>
          intro hk
          obtain ⟨b', off', he, _, _, _, h2⟩ := h.at k (by omega)
          cases he
          rw [tot, ih (by omega), h2, List.take_succ_eq_append_getElem (by omega), nl_append]
          simp [nl, List.getD, List.getElem?_eq_getElem (show k < l.length by omega)]
      show tot w b off l.length = nl l
      rw [key _ (Nat.le_refl _), List.take_length]
theorem nl_cut {x : Run} {p : List Run} {n : Nat} (h : One x) (hn : (n : Int) ≤ x.m) : nl (cut x p n) + n = nl (x :: p) := by
  obtain ⟨k, hk, h1, h2, h3, h4⟩ := h.nat
  unfold cut
  by_cases he : x.m = (n : Int)
  · rw [if_pos he, nl]; omega
  · rw [if_neg he, nl, nl, mkRun_m (by omega)]; omega
theorem cut_len {x : Run} {p : List Run} {n : Nat} : (cut x p n).length ≤ p.length + 1 := by
  unfold cut; split <;> simp

/-- What stands at the head of the loop of two places held against each other. -/
def Two (w : World) (h0 : Int) (f0 : Bool) (a b : Value) (wr : World) : Prop :=
  ∃ p q : List Run, Runs wr a p ∧ Runs wr b q ∧ Chain p ∧ Chain q ∧ p.length ≤ 100 ∧ q.length ≤ 100 ∧ hold (all p) (all q) = h0 ∧ first (all p) (all q) = f0 ∧ Below w.heap.size w wr

theorem keepA3 {wl w2 : World} {b off t r : Nat} {m : Int} (q : Pos3 wl b off t r m) (h : Below wl.heap.size wl w2) :
    Below wl.heap.size wl w2 ∧ w2.cell? ⟨b, off, none⟩ = some (.int .u32 (t : Int)) ∧ w2.cell? ⟨b, off + 1, none⟩ = some (.int .u8 (r : Int)) :=
  ⟨h, (h.cell (p := ⟨b, off, none⟩) q.1).trans q.2.1, (h.cell (p := ⟨b, off + 1, none⟩) q.1).trans q.2.2.1⟩
theorem keepM {wl w2 : World} {b1 o1 t1 r1 b2 o2 t2 r2 : Nat} {m1 m2 : Int} (q : Pos3 wl b1 o1 t1 r1 m1) (q2 : Pos3 wl b2 o2 t2 r2 m2) (h : Below wl.heap.size wl w2) :
    Below wl.heap.size wl w2 ∧ w2.cell? ⟨b1, o1 + 2, none⟩ = some (.int .i64 m1) ∧ w2.cell? ⟨b2, o2 + 2, none⟩ = some (.int .i64 m2) :=
  ⟨h, (h.cell (p := ⟨b1, o1 + 2, none⟩) q.1).trans q.2.2.2, (h.cell (p := ⟨b2, o2 + 2, none⟩) q2.1).trans q2.2.2.2⟩

end Go.Proofs.Ytgeeaipdihlmhaa.Place
