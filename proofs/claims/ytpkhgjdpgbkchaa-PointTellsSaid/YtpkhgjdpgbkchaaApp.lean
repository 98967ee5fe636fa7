/- append on slices of bytes: a row of the call's own, and a source that reads as bytes. Conditions: none. -/
import Derived.Test.YtpkhgjdpgbkchaaBytes
import Derived.Deep.LoopGhost
import Derived.Laws.AppendOwnNone
import Derived.WideShapes
namespace Go.Proofs.Ytpkhgjdpgbkchaa
open Go.RowKit Go.WideShapes

theorem u8_info : (Try.prog.info? 5).map (fun i => (i.zero, i.size, i.bytes)) = some (some (.int .u8 0), 1, 1) := by kernel_rfl

/-- A new row of bytes. -/
theorem reads_new (w : World) (xs : List UInt8) (h : xs.length ≤ 1000) (fr : Nat × Nat) : Reads (w.alloc (.cells (bs xs).toArray 5 fr)) (.slice (some ⟨w.heap.size, 0, none⟩) xs.length xs.length) xs := by
  refine ⟨by omega, _, _, rfl, Nat.le_refl _, by omega, by simp, .inr ⟨w.heap.size, 0, rfl, by simp, fun j hj => ?_⟩⟩
  rw [cell_of_row _ w.heap.size (0 + j) (bs xs).toArray 5 fr (heap_alloc_new w _), Nat.zero_add, List.getElem?_toArray]
  exact bs_get xs j hj

theorem Reads.shape {w : World} {v : Value} {xs : List UInt8} (h : Reads w v xs) : ∃ ao cap, v = .slice ao xs.length cap := by
  obtain ⟨_, ao, cap, h, _⟩ := h; exact ⟨ao, cap, h⟩
theorem Reads.cap {w : World} {ao : Option Addr} {n cap : Nat} {xs : List UInt8} (h : Reads w (.slice ao n cap) xs) : n = xs.length ∧ xs.length ≤ cap ∧ (ao = none → cap = 0) := by
  obtain ⟨_, ao', cap', he, h2, _, h4, _⟩ := h
  obtain ⟨rfl, rfl, rfl⟩ := Value.slice.inj he
  exact ⟨rfl, h2, h4⟩
/-- The cells of what reads as bytes. -/
theorem Reads.cells {w : World} {a : Addr} {n cap : Nat} {xs : List UInt8} (h : Reads w (.slice (some a) n cap) xs) : ∀ (j : Nat) (u : Value), (bs xs)[j]? = some u → w.cell? (a.add j) = some u := by
  intro j u hj
  have hlt : j < xs.length := by have := (List.getElem?_eq_some_iff.1 hj).1; rwa [bs_len] at this
  obtain ⟨_, ao, cp, he, _, _, _, hc | ⟨b, off, hb, _, hc⟩⟩ := h
  · subst hc; simp at hlt
  · simp only [Value.slice.injEq] at he
    obtain ⟨h1, _⟩ := he
    rw [hb] at h1
    cases h1
    rw [add_plain, hc j hlt]
    rw [bs_get xs j hlt] at hj
    exact hj
theorem Reads.at {w : World} {ao : Option Addr} {n cap : Nat} {xs : List UInt8} (h : Reads w (.slice ao n cap) xs) (k : Nat) (hk : k < xs.length) :
    ∃ b off, ao = some ⟨b, off, none⟩ ∧ b < w.heap.size ∧ w.cell? ⟨b, off + k, none⟩ = some (.int .u8 ((xs.getD k 0).toNat : Int)) := by
  obtain ⟨_, ao', cap', he, _, _, _, h5⟩ := h
  obtain ⟨rfl, -, rfl⟩ := Value.slice.inj he
  rcases h5 with hx | ⟨b, off, rfl, hb, hc⟩
  · subst hx; simp at hk
  · exact ⟨b, off, rfl, hb, hc k hk⟩
theorem Reads.keeps {w w' : World} {v : Value} {xs : List UInt8} (h : Reads w v xs) (hb : Below w.heap.size w w') : Reads w' v xs := h.below hb (fun hx => h.lies hx)
/-- Nothing of the call's own yet. -/
theorem own_new (w : World) (base : Nat) (hb : base ≤ w.heap.size) : (w.alloc (.cells #[] 5)).ownsRow base 5 1 (.slice (some ⟨w.heap.size, 0, none⟩) 0 0) ([] : List UInt8).length (bs []) :=
  World.ownsRow_made w #[] 0 hb (by decide) rfl

theorem wpList_append_bytes {w : World} {ops : Array Oper} {rest : List Oper} {o : Oper} {a : Act} {Q : Exit → Act → World → Prop} (hgd : o.guard = none) (s x : Operand)
    (ho : o.op = .call { callee := .builtin .append, args := #[s, x], argTypes := #[28, 28] })
    (base : Nat) (v : Value) (L : List UInt8) (hs : a.eval s = v) (hown : w.ownsRow base 5 1 v L.length (bs L))
    (u : Value) (xs : List UInt8) (hx : a.eval x = u) (hr : Reads w u xs) (h47 : L.length + xs.length ≤ 140737488355328) (hbase : base ≤ w.heap.size)
    (h : ∀ v' w', w'.ownsRow base 5 1 v' (L ++ xs).length (bs (L ++ xs)) → Below base w w' → wpList Try.prog ops Q rest (a.put o.dst v') w') : wpList Try.prog ops Q (o :: rest) a w := by
  obtain ⟨i0, hi, hz0, hz1, hz2⟩ := info_parts u8_info
  obtain ⟨ao, cap, rfl⟩ := hr.shape
  cases ao with
  | none =>
    obtain ⟨_, h2, h3⟩ := hr.cap
    have hc0 := h3 rfl
    subst hc0
    obtain rfl : xs = [] := List.length_eq_zero_iff.1 (by omega)
    refine wpList_append_own_none hgd s x 28 ho base 5 i0 1 Try.underlying28 hi v L.length (bs L) hs hown hx (h v w ?_ (Below.refl _ _))
    rw [List.append_nil]; exact hown
  | some a2 =>
    refine wpList_append_own _ hgd s x 28 ho base 5 i0 (.int .u8 0) 1 1 Try.underlying28 hi hz0 hz1 hz2 rfl (by decide) v L.length (bs L) hs hown a2 xs.length cap (bs xs) hx (by rw [bs_len, Nat.mul_one]) hr.cells (bs_oneCell xs) (by unfold maxLen; omega) (by omega) hbase ?_
    intro v' w' h1 h2 _
    refine h v' w' ?_ ((Below.refl _ _).grown h2 hbase (fun j hj => (hown.lt j hj).1))
    rw [bs_append, List.length_append]; exact h1
end Go.Proofs.Ytpkhgjdpgbkchaa
