/- Slices of elements of any width: what a slice value holds, cell by cell; append onto a row of the call's own. Conditions: none. -/
import Derived.Test.YtgeeaipdihlmhaaBytes
import Derived.Deep.LoopGhost
import Derived.Laws.AppendOwnNone
import Derived.Laws.OwnMore
import Derived.WideShapes
namespace Go.Proofs.Ytgeeaipdihlmhaa
open Go.RowKit Go.WideShapes

/-- In the world w the slice value v has n elements of sz cells each, and these are cs. -/
def Sees (w : World) (v : Value) (sz n : Nat) (cs : List Value) : Prop :=
  cs.length = n * sz ∧ ∃ ao cap, v = .slice ao n cap ∧ n ≤ cap ∧ cap ≤ 9223372036854775807 ∧ (ao = none → cap = 0) ∧
    (cs = [] ∨ ∃ b off, ao = some ⟨b, off, none⟩ ∧ b < w.heap.size ∧ ∀ j u, cs[j]? = some u → w.cell? ⟨b, off + j, none⟩ = some u)

theorem Sees.nil (w : World) (sz : Nat) : Sees w (.slice none 0 0) sz 0 [] := ⟨by simp, none, 0, rfl, by simp, by simp, fun _ => rfl, .inl rfl⟩
theorem Sees.shape {w : World} {v : Value} {sz n : Nat} {cs : List Value} (h : Sees w v sz n cs) : ∃ ao cap, v = .slice ao n cap := by
  obtain ⟨_, ao, cap, h, _⟩ := h; exact ⟨ao, cap, h⟩
theorem Sees.cap {w : World} {ao : Option Addr} {m n cap sz : Nat} {cs : List Value} (h : Sees w (.slice ao m cap) sz n cs) : m = n ∧ n ≤ cap ∧ cap ≤ 9223372036854775807 ∧ (ao = none → cap = 0) := by
  obtain ⟨_, ao', cap', he, h2, h3, h4, _⟩ := h
  obtain ⟨rfl, rfl, rfl⟩ := Value.slice.inj he
  exact ⟨rfl, h2, h3, h4⟩
theorem Sees.len {w : World} {v : Value} {sz n : Nat} {cs : List Value} (h : Sees w v sz n cs) : cs.length = n * sz := h.1
theorem Sees.max {w : World} {v : Value} {sz n : Nat} {cs : List Value} (h : Sees w v sz n cs) : n ≤ 9223372036854775807 := by
  obtain ⟨_, ao', cap', _, h2, h3, _⟩ := h; omega

/-- What lies below a number of blocks stays as it was, where these blocks stay. -/
theorem Sees.stays {w w' : World} {v : Value} {sz n : Nat} {cs : List Value} (h : Sees w v sz n cs) (hs : w.heap.size ≤ w'.heap.size)
    (hc : ∀ b o, b < w.heap.size → v.ownBlock = some b → w'.cell? ⟨b, o, none⟩ = w.cell? ⟨b, o, none⟩) : Sees w' v sz n cs := by
  obtain ⟨h1, ao, cap, rfl, h2, h3, h4, h5⟩ := h
  refine ⟨h1, ao, cap, rfl, h2, h3, h4, ?_⟩
  rcases h5 with h5 | ⟨b, off, rfl, hlt, h5⟩
  · exact .inl h5
  · exact .inr ⟨b, off, rfl, by omega, fun j u hj => (hc b _ hlt rfl).trans (h5 j u hj)⟩
theorem Sees.keeps {w w' : World} {v : Value} {sz n : Nat} {cs : List Value} (h : Sees w v sz n cs) (hb : Below w.heap.size w w') : Sees w' v sz n cs :=
  h.stays hb.size fun b o hlt _ => hb.cell (p := ⟨b, o, none⟩) hlt
theorem Sees.grown {w w' : World} {v : Value} {sz n : Nat} {cs : List Value} (h : Sees w v sz n cs) {row : Option Nat} (hg : w.grownBy w' row) (hne : v.ownBlock = none ∨ v.ownBlock ≠ row) (hs : w.heap.size ≤ w'.heap.size) : Sees w' v sz n cs :=
  h.stays hs fun b o hlt hv => World.cell?_of_block (hg.block b hlt (fun e => by rcases hne with h0 | h0; rw [h0] at hv; cases hv; exact h0 (hv.trans e)))
theorem Sees.drew {w : World} {v : Value} {sz n : Nat} {cs : List Value} (h : Sees w v sz n cs) (k : Nat) : Sees (w.drewN k) v sz n cs := h

/-- The cell of an element. -/
theorem Sees.at {w : World} {ao : Option Addr} {m cap sz n : Nat} {cs : List Value} (h : Sees w (.slice ao m cap) sz n cs) (j : Nat) (hj : j < cs.length) :
    ∃ b off, ao = some ⟨b, off, none⟩ ∧ b < w.heap.size ∧ ∀ i, i < cs.length → w.cell? ⟨b, off + i, none⟩ = cs[i]? := by
  obtain ⟨_, ao', cap', he, _, _, _, h5⟩ := h
  obtain ⟨rfl, -, rfl⟩ := Value.slice.inj he
  rcases h5 with hx | ⟨b, off, rfl, hb, hc⟩
  · subst hx; simp at hj
  · exact ⟨b, off, rfl, hb, fun i hi => (hc i _ (List.getElem?_eq_getElem hi)).trans (List.getElem?_eq_getElem hi).symm⟩
theorem Sees.cells {w : World} {a : Addr} {m cap sz n : Nat} {cs : List Value} (h : Sees w (.slice (some a) m cap) sz n cs) : ∀ (j : Nat) (u : Value), cs[j]? = some u → w.cell? (a.add j) = some u := by
  intro j u hj
  have hlt : j < cs.length := (List.getElem?_eq_some_iff.1 hj).1
  obtain ⟨b, off, h1, _, hc⟩ := h.at j hlt
  cases h1
  rw [add_plain, hc j hlt, hj]

/-- A row of the call's own. -/
theorem Sees.own {w : World} {base : Nat} {e : TypeId} {v : Value} {sz n : Nat} {cs : List Value} (h : w.ownsRow base e sz v n cs) : Sees w v sz n cs := by
  have hk := h
  obtain ⟨hl, hcase⟩ := h
  rcases hcase with ⟨rfl, rfl⟩ | ⟨g, cap, cur, rfl, hg, hh, hn, hcap, hsz, htake⟩
  · obtain rfl : cs = [] := List.length_eq_zero_iff.1 (by omega)
    exact Sees.nil w sz
  · unfold maxLen at hcap
    refine ⟨hl, some ⟨g, 0, none⟩, cap, rfl, hn, hcap, by simp, .inr ⟨g, 0, rfl, (Array.getElem?_eq_some_iff.1 hh).1, fun j u hj => ?_⟩⟩
    have hlt : j < cs.length := (List.getElem?_eq_some_iff.1 hj).1
    rw [Nat.zero_add, hk.cellAt j (by omega), hj]
/-- A new row. -/
theorem sees_new (w : World) (cs : List Value) (sz n : Nat) (h : cs.length = n * sz) (hn : n ≤ 1000000) (e : TypeId) (fr : Nat × Nat) : Sees (w.alloc (.cells cs.toArray e fr)) (.slice (some ⟨w.heap.size, 0, none⟩) n n) sz n cs := by
  refine ⟨h, _, _, rfl, Nat.le_refl _, by omega, by simp, .inr ⟨w.heap.size, 0, rfl, by simp, fun j u hj => ?_⟩⟩
  rw [cell_of_row _ w.heap.size (0 + j) cs.toArray e fr (heap_alloc_new w _), Nat.zero_add, List.getElem?_toArray]
  exact hj
/-- Nothing of the call's own yet. -/
theorem own_none (w : World) (base : Nat) (hb : base ≤ w.heap.size) (e : TypeId) (sz : Nat) : (w.alloc (.cells #[] e)).ownsRow base e sz (.slice (some ⟨w.heap.size, 0, none⟩) 0 0) 0 [] :=
  World.ownsRow_made w #[] 0 hb (by decide) (by simp)
/-- Two rows of one owner in one world: the cells of blocks of other kinds are no row's. -/
theorem own_ne {w : World} {base : Nat} {e : TypeId} {v : Value} {sz n : Nat} {cs : List Value} (h : w.ownsRow base e sz v n cs) {k : Nat} {o : Obj} (hk : w.heap[k]? = some o) (ho : ∀ c, o ≠ .cells c e (0, 0)) : v.ownBlock ≠ some k := by
  rcases h.2 with ⟨rfl, _⟩ | ⟨g, cap, cur, rfl, _, hg, _⟩
  · simp [Value.ownBlock]
  · intro hv
    simp only [Value.ownBlock, Option.some.injEq] at hv
    subst hv
    rw [hg] at hk
    exact ho _ (Option.some.inj hk).symm
/-- A row of the call's own behind another call that writes nothing that was there. -/
theorem own_stays {w w' : World} {base : Nat} {e : TypeId} {v : Value} {sz n : Nat} {cs : List Value} (h : w.ownsRow base e sz v n cs) (hb : Below w.heap.size w w') : w'.ownsRow base e sz v n cs := by
  refine ⟨h.1, ?_⟩
  rcases h.2 with h0 | ⟨g, cap, cur, rfl, h1, hg, h2⟩
  · exact .inl h0
  · exact .inr ⟨g, cap, cur, rfl, h1, (hb.block g (Array.getElem?_eq_some_iff.1 hg).1).trans hg, h2⟩
theorem below_draw {B : Nat} {a w : World} (h : Below B a w) (n : Nat) : Below B a (w.drewN n) := h.trans ⟨rfl, rfl, rfl, Nat.le_refl _, fun _ _ => rfl⟩
theorem grown_size {w w' : World} {row : Option Nat} (h : w.grownBy w' row) : w.heap.size ≤ w'.heap.size := h.size

theorem wpList_append_sees {w : World} {ops : Array Oper} {rest : List Oper} {o : Oper} {a : Act} {Q : Exit → Act → World → Prop} (hgd : o.guard = none) (s x : Operand) (t e : TypeId)
    (ho : o.op = .call { callee := .builtin .append, args := #[s, x], argTypes := #[t, t] }) (ht : Try.prog.underlying t = some (.slice e))
    {z : Value} {sz bytes : Nat} (hi : (Try.prog.info? e).map (fun i => (i.zero, i.size, i.bytes)) = some (some z, sz, bytes)) (hzs : z.cells.size = sz) (hsz : 0 < sz)
    (base : Nat) (v : Value) (n : Nat) (L : List Value) (hs : a.eval s = v) (hown : w.ownsRow base e sz v n L)
    (u : Value) (m : Nat) (xs : List Value) (hx : a.eval x = u) (hr : Sees w u sz m xs) (h1 : ∀ u ∈ xs, u.oneCell' = true) (h47 : (n + m) * bytes ≤ 140737488355328) (h63 : n + m ≤ 140737488355328) (hbase : base ≤ w.heap.size)
    (h : ∀ v' w', w'.ownsRow base e sz v' (n + m) (L ++ xs) → w.grownBy w' v.ownBlock → Below base w w' → wpList Try.prog ops Q rest (a.put o.dst v') w') : wpList Try.prog ops Q (o :: rest) a w := by
  obtain ⟨i0, hi, hz0, hz1, hz2⟩ := info_parts hi
  obtain ⟨ao, cap, rfl⟩ := hr.shape
  cases ao with
  | none =>
    obtain ⟨_, h2, _, h3⟩ := hr.cap
    have hc0 := h3 rfl
    subst hc0
    obtain rfl : m = 0 := by omega
    obtain rfl : xs = [] := List.length_eq_zero_iff.1 (by rw [hr.len]; omega)
    refine wpList_append_own_none hgd s x t ho base e i0 sz ht hi v n L hs hown hx (h v w ?_ (World.grownBy.refl w _) (Below.refl _ _))
    rw [List.append_nil]; exact hown
  | some a2 =>
    refine wpList_append_own _ hgd s x t ho base e i0 z sz bytes ht hi hz0 hz1 hz2 hzs hsz v n L hs hown a2 m cap xs hx hr.len hr.cells h1 (by unfold maxLen; omega) h47 hbase ?_
    intro v' w' h1 h2 _
    exact h v' w' h1 h2 ((Below.refl _ _).grown h2 hbase (fun j hj => (hown.lt j hj).1))

/-- The same at the operation, and at a step of a region that draws. -/
theorem wp_append_sees {w : World} {o : Oper} {a : Act} {K : Act → World → Prop} {Q : Exit → Act → World → Prop} (s x : Operand) (t e : TypeId)
    (ho : o.op = .call { callee := .builtin .append, args := #[s, x], argTypes := #[t, t] }) (ht : Try.prog.underlying t = some (.slice e))
    {z : Value} {sz bytes : Nat} (hi : (Try.prog.info? e).map (fun i => (i.zero, i.size, i.bytes)) = some (some z, sz, bytes)) (hzs : z.cells.size = sz) (hsz : 0 < sz)
    (base : Nat) (v : Value) (n : Nat) (L : List Value) (hs : a.eval s = v) (hown : w.ownsRow base e sz v n L)
    (u : Value) (m : Nat) (xs : List Value) (hx : a.eval x = u) (hr : Sees w u sz m xs) (h1 : ∀ u ∈ xs, u.oneCell' = true) (h47 : (n + m) * bytes ≤ 140737488355328) (h63 : n + m ≤ 140737488355328) (hbase : base ≤ w.heap.size)
    (h : ∀ v' w', w'.ownsRow base e sz v' (n + m) (L ++ xs) → w.grownBy w' v.ownBlock → Below base w w' → K (a.put o.dst v') w') : o.wp Try.prog a w K Q := by
  obtain ⟨i0, hi, hz0, hz1, hz2⟩ := info_parts hi
  obtain ⟨ao, cap, rfl⟩ := hr.shape
  cases ao with
  | none =>
    obtain ⟨_, h2, _, h3⟩ := hr.cap
    have hc0 := h3 rfl
    subst hc0
    obtain rfl : m = 0 := by omega
    obtain rfl : xs = [] := List.length_eq_zero_iff.1 (by rw [hr.len]; omega)
    have hrun := run_append_owned_none (P := Try.prog) (w := w) base t o.type e i0 sz ht hi v n L hown
    unfold Oper.wp
    simp only [execOp, ho, resolve, invoke, builtin, Sem.run_bind, Sem.run_pure, Result.andThen_ok, List.map_toArray, List.map_cons, List.map_nil, hs, hx, hrun]
    refine h v w ?_ (World.grownBy.refl w _) (Below.refl _ _)
    rw [List.append_nil]; exact hown
  | some a2 =>
    obtain ⟨v', w', hrun, h2, h3, _⟩ := run_append_own (P := Try.prog) w base t o.type e i0 z sz bytes ht hi hz0 hz1 hz2 hzs hsz v n L hown a2 m cap xs hr.len hr.cells h1 (by unfold maxLen; omega) h47 hbase
    unfold Oper.wp
    simp only [execOp, ho, resolve, invoke, builtin, Sem.run_bind, Sem.run_pure, Result.andThen_ok, List.map_toArray, List.map_cons, List.map_nil, hs, hx, hrun]
    exact h v' w' h2 h3 ((Below.refl _ _).grown h3 hbase (fun j hj => (hown.lt j hj).1))
theorem step_append_sees {w : World} {ops : Array Oper} {o : Oper} {a : Act} {K : Act → World → Prop} {Q : Exit → Act → World → Prop} {E : Prop} (hgd : o.guard = none) (s x : Operand) (t e : TypeId)
    (ho : o.op = .call { callee := .builtin .append, args := #[s, x], argTypes := #[t, t] }) (ht : Try.prog.underlying t = some (.slice e))
    {z : Value} {sz bytes : Nat} (hi : (Try.prog.info? e).map (fun i => (i.zero, i.size, i.bytes)) = some (some z, sz, bytes)) (hzs : z.cells.size = sz) (hsz : 0 < sz)
    (base : Nat) (v : Value) (n : Nat) (L : List Value) (hs : a.eval s = v) (hown : w.ownsRow base e sz v n L)
    (u : Value) (m : Nat) (xs : List Value) (hx : a.eval x = u) (hr : Sees w u sz m xs) (h1 : ∀ u ∈ xs, u.oneCell' = true) (h47 : (n + m) * bytes ≤ 140737488355328) (h63 : n + m ≤ 140737488355328) (hbase : base ≤ w.heap.size)
    (h : ∀ v' w', w'.ownsRow base e sz v' (n + m) (L ++ xs) → w.grownBy w' v.ownBlock → Below base w w' → K (a.put o.dst v') w') :
    if Region.wanted o (yielded ops a.tmps) = true then Oper.wp Try.prog o a w K Q else E := by
  have hw : Region.wanted o (yielded ops a.tmps) = true := by simp [Region.wanted, hgd]
  rw [if_pos hw]
  exact wp_append_sees s x t e ho ht hi hzs hsz base v n L hs hown u m xs hx hr h1 h47 h63 hbase h

/-! ### Slices of numbers -/

/-- Numbers as cells. -/
def is (l : List Int) : List Value := l.map fun x => .int .i64 x
theorem is_len (l : List Int) : (is l).length = l.length := by simp [is]
theorem is_append (l m : List Int) : is (l ++ m) = is l ++ is m := by simp [is]
theorem is_get (l : List Int) (j : Nat) (h : j < l.length) : (is l)[j]? = some (.int .i64 (l.getD j 0)) := by
  simp [is, List.getD, List.getElem?_eq_getElem h]
theorem is_oneCell (l : List Int) : ∀ u ∈ is l, u.oneCell' = true := by
  intro u hu
  simp only [is, List.mem_map] at hu
  obtain ⟨x, _, rfl⟩ := hu
  rfl
/-- A slice of numbers. -/
def Ints (w : World) (v : Value) (l : List Int) : Prop := Sees w v 1 l.length (is l)
theorem Ints.keeps {w w' : World} {v : Value} {l : List Int} (h : Ints w v l) (hb : Below w.heap.size w w') : Ints w' v l := Sees.keeps h hb
theorem Ints.nil (w : World) : Ints w (.slice none 0 0) [] := Sees.nil w 1
theorem Ints.shape {w : World} {v : Value} {l : List Int} (h : Ints w v l) : ∃ ao cap, v = .slice ao l.length cap := Sees.shape h
theorem Ints.at {w : World} {ao : Option Addr} {m cap : Nat} {l : List Int} (h : Ints w (.slice ao m cap) l) (k : Nat) (hk : k < l.length) :
    ∃ b off, ao = some ⟨b, off, none⟩ ∧ b < w.heap.size ∧ w.cell? ⟨b, off + k, none⟩ = some (.int .i64 (l.getD k 0)) := by
  obtain ⟨b, off, h1, h2, h3⟩ := Sees.at h k (by rwa [is_len])
  exact ⟨b, off, h1, h2, (h3 k (by rwa [is_len])).trans (is_get l k hk)⟩
theorem Ints.own {w : World} {base : Nat} {e : TypeId} {v : Value} {n : Nat} {l : List Int} (h : w.ownsRow base e 1 v n (is l)) : Ints w v l := by
  have h1 := h.1
  rw [is_len, Nat.mul_one] at h1
  subst h1
  exact Sees.own h
end Go.Proofs.Ytgeeaipdihlmhaa
