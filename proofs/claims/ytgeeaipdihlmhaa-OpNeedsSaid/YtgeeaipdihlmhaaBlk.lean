/- Blocks known whole, in whatever world behind: for regions that draw their order and make memory. Conditions: none. -/
import Derived.Test.YtgeeaipdihlmhaaIds
import Derived.Maps.AppendAt
namespace Go.Proofs.Ytgeeaipdihlmhaa
open Go.RowKit Go.WideShapes

theorem hold {α β : Prop} (f : α → β) (h : α) : β := f h
theorem blk_drew {X : World} {g : Nat} {o : Obj} (h : X.heap[g]? = some o) : X.drew.heap[g]? = some o := h
theorem blk_old {X : World} {g : Nat} {o o' : Obj} (h : X.heap[g]? = some o) : (X.alloc o').heap[g]? = some o := by
  have hlt : g < X.heap.size := (Array.getElem?_eq_some_iff.1 h).1
  exact (((Below.refl X.heap.size X).alloc (Nat.le_refl _) o').block g hlt).trans h
theorem blk_new {X : World} {g : Nat} {o : Obj} (h : X.heap.size = g) : (X.alloc o).heap[g]? = some o := by
  subst h; exact heap_alloc_new X o
theorem blk_grown {X W : World} {row : Option Nat} {g : Nat} {o : Obj} (hg : X.grownBy W row) (hne : row ≠ some g) (h : X.heap[g]? = some o) : W.heap[g]? = some o :=
  (hg.block g (Array.getElem?_eq_some_iff.1 h).1 (fun e => hne e.symm)).trans h
theorem blk_below {X W : World} {g : Nat} {o : Obj} (hb : Below X.heap.size X W) (h : X.heap[g]? = some o) : W.heap[g]? = some o :=
  (hb.block g (Array.getElem?_eq_some_iff.1 h).1).trans h
/-- What a row of the call's own may lie in behind an append: not where another block was. -/
theorem row_ne {X : World} {v v' : Value} {g : Nat} {o : Obj} (l : v'.ownBlock = v.ownBlock ∨ v'.ownBlock = some X.heap.size) (hne : v.ownBlock ≠ some g) (h : X.heap[g]? = some o) : v'.ownBlock ≠ some g := by
  have hlt : g < X.heap.size := (Array.getElem?_eq_some_iff.1 h).1
  rcases l with l | l
  · rw [l]; exact hne
  · rw [l]; intro e; cases e; omega
theorem row_ne_new {X : World} {base : Nat} {e : TypeId} {v : Value} {sz n g : Nat} {cs : List Value} (h : X.ownsRow base e sz v n cs) (hg : X.heap.size ≤ g) : v.ownBlock ≠ some g := fun he => by
  have := (h.lt g he).2
  omega
theorem own_blk {X : World} {base g sz : Nat} {e : TypeId} (hb : base ≤ g) (h : X.heap[g]? = some (.cells #[] e)) : X.ownsRow base e sz (.slice (some ⟨g, 0, none⟩) 0 0) 0 [] :=
  ⟨by simp, .inr ⟨g, 0, #[], rfl, hb, h, by simp, by simp, by simp, by simp⟩⟩
theorem sees_blk {X : World} {g : Nat} {a : Id} {e : TypeId} (h : X.heap[g]? = some (.cells #[.int .u32 (a.t : Int), .int .u8 (a.r : Int)] e)) : Sees X (.slice (some ⟨g, 0, none⟩) 1 1) 2 1 (ids [a]) := by
  refine ⟨rfl, _, _, rfl, Nat.le_refl _, by decide, by simp, .inr ⟨g, 0, rfl, (Array.getElem?_eq_some_iff.1 h).1, fun j u hj => ?_⟩⟩
  rw [cell_of_row X g (0 + j) _ e _ h, Nat.zero_add]
  simpa [ids] using hj
theorem cells_blk {X : World} {g : Nat} {c0 c1 : Value} {e : TypeId} (h : X.heap[g]? = some (.cells #[c0, c1] e)) :
    X.cell? ⟨g, 0, none⟩ = some c0 ∧ X.cell? ⟨g, 1, none⟩ = some c1 ∧ X.frozen? ⟨g, 0, none⟩ = false ∧ X.frozen? ⟨g, 1, none⟩ = false :=
  ⟨cell_of_row _ g 0 #[c0, c1] e _ h, cell_of_row _ g 1 #[c0, c1] e _ h, by simp [World.frozen?, h], by simp [World.frozen?, h]⟩
theorem pair_blk {X : World} {g : Nat} {c0 c1 : Value} {e : TypeId} (h : X.heap[g]? = some (.cells #[c0, c1] e)) : Pair X g c0 c1 :=
  ⟨(Array.getElem?_eq_some_iff.1 h).1, (cells_blk h).1, (cells_blk h).2.1⟩
theorem set_blk {X : World} {g : Nat} {c0 c1 d0 d1 : Value} {e : TypeId} (h : X.heap[g]? = some (.cells #[c0, c1] e)) : ((X.setCell ⟨g, 0, none⟩ d0).setCell ⟨g, 1, none⟩ d1).heap[g]? = some (.cells #[d0, d1] e) := by
  have h0 := heap_setCell_same X g 0 _ _ d0 h
  have h1 := heap_setCell_same _ g 1 _ _ d1 h0
  exact h1
theorem set_below {B g : Nat} {W X : World} {d0 d1 : Value} (hg : B ≤ g) (h : Below B W X) : Below B W ((X.setCell ⟨g, 0, none⟩ d0).setCell ⟨g, 1, none⟩ d1) :=
  (h.setCell (p := ⟨g, 0, none⟩) hg _).setCell (p := ⟨g, 1, none⟩) hg _

theorem below_next {B : Nat} {W X Y : World} (h : Below B W X) (hs : B ≤ X.heap.size) (b : Below X.heap.size X Y) : Below B W Y := h.trans (b.mono hs)

/-- A slot that an operation left unset decides no guard. -/
theorem yielded_undef : Go.yielded.match_1 (fun _ => Option Bool) (some undef) (fun b => some b) (fun _ => none) = none := rfl

/-- Append at a step of a region that draws: and where the new row lies. -/
theorem step_append_at {w : World} {ops : Array Oper} {o : Oper} {a : Act} {K : Act → World → Prop} {Q : Exit → Act → World → Prop} {E : Prop} (hgd : o.guard = none) (s x : Operand) (t e : TypeId)
    (ho : o.op = .call { callee := .builtin .append, args := #[s, x], argTypes := #[t, t] }) (ht : Try.prog.underlying t = some (.slice e))
    {z : Value} {sz bytes : Nat} (hi : (Try.prog.info? e).map (fun i => (i.zero, i.size, i.bytes)) = some (some z, sz, bytes)) (hzs : z.cells.size = sz) (hsz : 0 < sz)
    (base : Nat) (v : Value) (n : Nat) (L : List Value) (hs : a.eval s = v) (hown : w.ownsRow base e sz v n L)
    (u : Value) (m : Nat) (xs : List Value) (hx : a.eval x = u) (hr : Sees w u sz m xs) (h1 : ∀ u ∈ xs, u.oneCell' = true) (h47 : (n + m) * bytes ≤ 140737488355328) (h63 : n + m ≤ 140737488355328) (hbase : base ≤ w.heap.size)
    (h : ∀ v' w', w'.ownsRow base e sz v' (n + m) (L ++ xs) → w.grownBy w' v.ownBlock → Below base w w' → (v'.ownBlock = v.ownBlock ∨ v'.ownBlock = some w.heap.size) → K (a.put o.dst v') w') :
    if Region.wanted o (yielded ops a.tmps) = true then Oper.wp Try.prog o a w K Q else E := by
  have hw : Region.wanted o (yielded ops a.tmps) = true := by simp [Region.wanted, hgd]
  rw [if_pos hw]
  obtain ⟨i0, hi, hz0, hz1, hz2⟩ := info_parts hi
  obtain ⟨ao, cap, rfl⟩ := hr.shape
  cases ao with
  | none =>
    obtain ⟨_, h2, _, h3⟩ := hr.cap
    have hc0 := h3 rfl
    subst hc0
    obtain rfl : m = 0 := by omega
    obtain rfl : xs = [] := List.length_eq_zero_iff.1 (by rw [hr.len]; omega)
    have hrun := run_append_owned_none (P := Try.prog) (w := w) base t o.type e i0 sz ht hi v n L hown
    unfold Oper.wp
    simp only [execOp, ho, resolve, invoke, builtin, Sem.run_bind, Sem.run_pure, Result.andThen_ok, List.map_toArray, List.map_cons, List.map_nil, hs, hx, hrun]
    refine h v w ?_ (World.grownBy.refl w _) (Below.refl _ _) (.inl rfl)
    rw [List.append_nil]; exact hown
  | some a2 =>
    obtain ⟨v', w', hrun, h2, h3, _, h5⟩ := run_append_own_at (P := Try.prog) w base t o.type e i0 z sz bytes ht hi hz0 hz1 hz2 hzs hsz v n L hown a2 m cap xs hr.len hr.cells h1 (by unfold maxLen; omega) h47 hbase
    unfold Oper.wp
    simp only [execOp, ho, resolve, invoke, builtin, Sem.run_bind, Sem.run_pure, Result.andThen_ok, List.map_toArray, List.map_cons, List.map_nil, hs, hx, hrun]
    exact h v' w' h2 h3 ((Below.refl _ _).grown h3 hbase (fun j hj => (hown.lt j hj).1)) h5
end Go.Proofs.Ytgeeaipdihlmhaa
