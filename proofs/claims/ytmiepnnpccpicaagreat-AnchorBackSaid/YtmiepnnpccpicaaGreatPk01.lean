/- Slices of bytes: what a slice value reads as, in a world; rows that a call has made. Conditions: none. A slice of bytes that came in: what it reads as. Conditions: none. Slices of elements of any width: what a slice value holds, cell by cell; append onto a row of the call's own. Conditions: none. Stamps, and slices of them: what a slice value holds. Conditions: none. A stamp, a slice of stamps that came in: what it holds. Conditions: none. Runs of stamps (places), and slices of them: what a slice value holds. Conditions: none. A slice of runs that came in: what it holds. Conditions: none. Stamps: which may be, which is less, the next one. Conditions: none. Places: which may be, their stamps, how two are held against each other, in plain words. Conditions: none. Places: runs that are cut, one way of writing, a stamp behind, rising. Conditions: none. Blocks known whole, in whatever world b -/
import Derived.Test.YtmiepnnpccpicaaGreatChecked
import Derived.WalkKit
import Derived.WalkSpells
import Derived.WalkLawsBesides
import Derived.Laws.BytesArg
import Derived.Lib.Hide
import Derived.Test.YtmiepnnpccpicaaGreatRows
import Derived.ProofKit
import Derived.SizedLaws
import Derived.Deep.LoopGhost
import Derived.Laws.AppendOwnNone
import Derived.Laws.OwnMore
import Derived.WideShapes
import Derived.Lib.SmallJoins
import Derived.Maps.AppendAt
import Derived.RegionTactic
import Derived.Deep.RegionHeld3
import Derived.Deep.DrawnRows
import Derived.Deep.QuietTactic
import Derived.BigQuiet


namespace Go.Proofs.YtmiepnnpccpicaaGreat
open Go.RowKit
theorem bt {a b c : World} (h1 : Below a.heap.size a b) (h2 : Below b.heap.size b c) : Below a.heap.size a c := h1.trans (h2.mono h1.size)
end Go.Proofs.YtmiepnnpccpicaaGreat

namespace Go.Proofs.YtmiepnnpccpicaaGreat
open Go.ChangeShapes Go.WideShapes Go.ChangeAt Go.RowKit
theorem kit_own : ownKnob Tryz.prog.godebug = none := by kernel_rfl
theorem kit_laidOut : laidOutB Tryz.prog = true := by kernel_rfl
end Go.Proofs.YtmiepnnpccpicaaGreat

namespace Go.Proofs.YtmiepnnpccpicaaGreat
open Go.RowKit Go.WideShapes
/-- In the world w the slice value v has n elements of sz cells each, and these are cs. -/
def Sees (w : World) (v : Value) (sz n : Nat) (cs : List Value) : Prop :=
  cs.length = n * sz ∧ ∃ ao cap, v = .slice ao n cap ∧ n ≤ cap ∧ cap ≤ 9223372036854775807 ∧ (ao = none → cap = 0) ∧
    (cs = [] ∨ ∃ b off, ao = some ⟨b, off, none⟩ ∧ b < w.heap.size ∧ ∀ j u, cs[j]? = some u → w.cell? ⟨b, off + j, none⟩ = some u)
theorem Sees.nil (w : World) (sz : Nat) : Sees w (.slice none 0 0) sz 0 [] := ⟨by simp, none, 0, rfl, by simp, by simp, fun _ => rfl, .inl rfl⟩
theorem Sees.shape {w : World} {v : Value} {sz n : Nat} {cs : List Value} (h : Sees w v sz n cs) : ∃ ao cap, v = .slice ao n cap := by
  obtain ⟨_, ao, cap, h, _⟩ := h; exact ⟨ao, cap, h⟩
theorem Sees.cap {w : World} {ao : Option Addr} {m n cap sz : Nat} {cs : List Value} (h : Sees w (.slice ao m cap) sz n cs) : m = n ∧ n ≤ cap ∧ cap ≤ 9223372036854775807 ∧ (ao = none → cap = 0) := by
  obtain ⟨_, ao', cap', he, h2, h3, h4, _⟩ := h
  obtain ⟨rfl, rfl, rfl⟩ := Value.slice.inj he
  exact ⟨rfl, h2, h3, h4⟩
theorem Sees.len {w : World} {v : Value} {sz n : Nat} {cs : List Value} (h : Sees w v sz n cs) : cs.length = n * sz := h.1
theorem Sees.max {w : World} {v : Value} {sz n : Nat} {cs : List Value} (h : Sees w v sz n cs) : n ≤ 9223372036854775807 := by
  obtain ⟨_, ao', cap', _, h2, h3, _⟩ := h; omega
/-- What lies below a number of blocks stays as it was, where these blocks stay. -/
theorem Sees.stays {w w' : World} {v : Value} {sz n : Nat} {cs : List Value} (h : Sees w v sz n cs) (hs : w.heap.size ≤ w'.heap.size)
    (hc : ∀ b o, b < w.heap.size → v.ownBlock = some b → w'.cell? ⟨b, o, none⟩ = w.cell? ⟨b, o, none⟩) : Sees w' v sz n cs := by
  obtain ⟨h1, ao, cap, rfl, h2, h3, h4, h5⟩ := h
  refine ⟨h1, ao, cap, rfl, h2, h3, h4, ?_⟩
  rcases h5 with h5 | ⟨b, off, rfl, hlt, h5⟩
  · exact .inl h5
  · exact .inr ⟨b, off, rfl, by omega, fun j u hj => (hc b _ hlt rfl).trans (h5 j u hj)⟩
theorem Sees.keeps {w w' : World} {v : Value} {sz n : Nat} {cs : List Value} (h : Sees w v sz n cs) (hb : Below w.heap.size w w') : Sees w' v sz n cs :=
  h.stays hb.size fun b o hlt _ => hb.cell (p := ⟨b, o, none⟩) hlt
/-- The cell of an element. -/
theorem Sees.at {w : World} {ao : Option Addr} {m cap sz n : Nat} {cs : List Value} (h : Sees w (.slice ao m cap) sz n cs) (j : Nat) (hj : j < cs.length) :
    ∃ b off, ao = some ⟨b, off, none⟩ ∧ b < w.heap.size ∧ ∀ i, i < cs.length → w.cell? ⟨b, off + i, none⟩ = cs[i]? := by
  obtain ⟨_, ao', cap', he, _, _, _, h5⟩ := h
  obtain ⟨rfl, -, rfl⟩ := Value.slice.inj he
  rcases h5 with hx | ⟨b, off, rfl, hb, hc⟩
  · subst hx; simp at hj
  · exact ⟨b, off, rfl, hb, fun i hi => (hc i _ (List.getElem?_eq_getElem hi)).trans (List.getElem?_eq_getElem hi).symm⟩
theorem Sees.cells {w : World} {a : Addr} {m cap sz n : Nat} {cs : List Value} (h : Sees w (.slice (some a) m cap) sz n cs) : ∀ (j : Nat) (u : Value), cs[j]? = some u → w.cell? (a.add j) = some u := by
  intro j u hj
  have hlt : j < cs.length := (List.getElem?_eq_some_iff.1 hj).1
  obtain ⟨b, off, h1, _, hc⟩ := h.at j hlt
  cases h1
  rw [add_plain, hc j hlt, hj]
/-- A row of the call's own. -/
theorem Sees.own {w : World} {base : Nat} {e : TypeId} {v : Value} {sz n : Nat} {cs : List Value} (h : w.ownsRow base e sz v n cs) : Sees w v sz n cs := by
  have hk := h
  obtain ⟨hl, hcase⟩ := h
  rcases hcase with ⟨rfl, rfl⟩ | ⟨g, cap, cur, rfl, hg, hh, hn, hcap, hsz, htake⟩
  · obtain rfl : cs = [] := List.length_eq_zero_iff.1 (by omega)
    exact Sees.nil w sz
  · unfold maxLen at hcap
    refine ⟨hl, some ⟨g, 0, none⟩, cap, rfl, hn, hcap, by simp, .inr ⟨g, 0, rfl, (Array.getElem?_eq_some_iff.1 hh).1, fun j u hj => ?_⟩⟩
    have hlt : j < cs.length := (List.getElem?_eq_some_iff.1 hj).1
    rw [Nat.zero_add, hk.cellAt j (by omega), hj]
/-- A new row. -/
theorem sees_new (w : World) (cs : List Value) (sz n : Nat) (h : cs.length = n * sz) (hn : n ≤ 1000000) (e : TypeId) (fr : Nat × Nat) : Sees (w.alloc (.cells cs.toArray e fr)) (.slice (some ⟨w.heap.size, 0, none⟩) n n) sz n cs := by
  refine ⟨h, _, _, rfl, Nat.le_refl _, by omega, by simp, .inr ⟨w.heap.size, 0, rfl, by simp, fun j u hj => ?_⟩⟩
  rw [cell_of_row _ w.heap.size (0 + j) cs.toArray e fr (heap_alloc_new w _), Nat.zero_add, List.getElem?_toArray]
  exact hj
/-- Two rows of one owner in one world: the cells of blocks of other kinds are no row's. -/
theorem own_ne {w : World} {base : Nat} {e : TypeId} {v : Value} {sz n : Nat} {cs : List Value} (h : w.ownsRow base e sz v n cs) {k : Nat} {o : Obj} (hk : w.heap[k]? = some o) (ho : ∀ c, o ≠ .cells c e (0, 0)) : v.ownBlock ≠ some k := by
  rcases h.2 with ⟨rfl, _⟩ | ⟨g, cap, cur, rfl, _, hg, _⟩
  · simp [Value.ownBlock]
  · intro hv
    simp only [Value.ownBlock, Option.some.injEq] at hv
    subst hv
    rw [hg] at hk
    exact ho _ (Option.some.inj hk).symm
/-- A row of the call's own behind another call that writes nothing that was there. -/
theorem own_stays {w w' : World} {base : Nat} {e : TypeId} {v : Value} {sz n : Nat} {cs : List Value} (h : w.ownsRow base e sz v n cs) (hb : Below w.heap.size w w') : w'.ownsRow base e sz v n cs := by
  refine ⟨h.1, ?_⟩
  rcases h.2 with h0 | ⟨g, cap, cur, rfl, h1, hg, h2⟩
  · exact .inl h0
  · exact .inr ⟨g, cap, cur, rfl, h1, (hb.block g (Array.getElem?_eq_some_iff.1 hg).1).trans hg, h2⟩
theorem below_draw {B : Nat} {a w : World} (h : Below B a w) (n : Nat) : Below B a (w.drewN n) := h.trans ⟨rfl, rfl, rfl, Nat.le_refl _, fun _ _ => rfl⟩
theorem wpList_append_sees {w : World} {ops : Array Oper} {rest : List Oper} {o : Oper} {a : Act} {Q : Exit → Act → World → Prop} (hgd : o.guard = none) (s x : Operand) (t e : TypeId)
    (ho : o.op = .call { callee := .builtin .append, args := #[s, x], argTypes := #[t, t] }) (ht : Tryz.prog.underlying t = some (.slice e))
    {z : Value} {sz bytes : Nat} (hi : (Tryz.prog.info? e).map (fun i => (i.zero, i.size, i.bytes)) = some (some z, sz, bytes)) (hzs : z.cells.size = sz) (hsz : 0 < sz)
    (base : Nat) (v : Value) (n : Nat) (L : List Value) (hs : a.eval s = v) (hown : w.ownsRow base e sz v n L)
    (u : Value) (m : Nat) (xs : List Value) (hx : a.eval x = u) (hr : Sees w u sz m xs) (h1 : ∀ u ∈ xs, u.oneCell' = true) (h47 : (n + m) * bytes ≤ 140737488355328) (h63 : n + m ≤ 140737488355328) (hbase : base ≤ w.heap.size)
    (h : ∀ v' w', w'.ownsRow base e sz v' (n + m) (L ++ xs) → w.grownBy w' v.ownBlock → Below base w w' → wpList Tryz.prog ops Q rest (a.put o.dst v') w') : wpList Tryz.prog ops Q (o :: rest) a w := by
  obtain ⟨i0, hi, hz0, hz1, hz2⟩ := info_parts hi
  obtain ⟨ao, cap, rfl⟩ := hr.shape
  cases ao with
  | none =>
    obtain ⟨_, h2, _, h3⟩ := hr.cap
    have hc0 := h3 rfl
    subst hc0
    obtain rfl : m = 0 := by omega
    obtain rfl : xs = [] := List.length_eq_zero_iff.1 (by rw [hr.len]; omega)
    refine wpList_append_own_none hgd s x t ho base e i0 sz ht hi v n L hs hown hx (h v w ?_ (World.grownBy.refl w _) (Below.refl _ _))
    rw [List.append_nil]; exact hown
  | some a2 =>
    refine wpList_append_own _ hgd s x t ho base e i0 z sz bytes ht hi hz0 hz1 hz2 hzs hsz v n L hs hown a2 m cap xs hx hr.len hr.cells h1 (by unfold maxLen; omega) h47 hbase ?_
    intro v' w' h1 h2 _
    exact h v' w' h1 h2 ((Below.refl _ _).grown h2 hbase (fun j hj => (hown.lt j hj).1))
end Go.Proofs.YtmiepnnpccpicaaGreat

namespace Go.Proofs.YtmiepnnpccpicaaGreat
open Go.RowKit Go.WideShapes
/-- A stamp: a time, a replica. -/
structure Id where
  t : Nat
  r : Nat
  ht : t < 4294967296
  hr : r < 256
theorem Id.ext' {a b : Id} (h1 : a.t = b.t) (h2 : a.r = b.r) : a = b := by
  obtain ⟨t, r, _, _⟩ := a; obtain ⟨u, s, _, _⟩ := b
  simp only at h1 h2
  subst h1 h2
  rfl
theorem Id.eq_iff {a b : Id} : a = b ↔ a.t = b.t ∧ a.r = b.r := ⟨fun h => by rw [h]; exact ⟨rfl, rfl⟩, fun h => Id.ext' h.1 h.2⟩
instance : DecidableEq Id := fun a b => if h : a.t = b.t ∧ a.r = b.r then isTrue (Id.eq_iff.2 h) else isFalse (fun e => h (Id.eq_iff.1 e))
/-- The zero stamp. -/
def zid : Id := ⟨0, 0, by decide, by decide⟩
/-- A stamp as a value. -/
def idv (a : Id) : Value := .agg #[.int .u32 (a.t : Int), .int .u8 (a.r : Int)]
/-- A block whose first two cells are these. -/
def Pair (w : World) (h : Nat) (c0 c1 : Value) : Prop := h < w.heap.size ∧ w.cell? ⟨h, 0, none⟩ = some c0 ∧ w.cell? ⟨h, 1, none⟩ = some c1
theorem Pair.keeps {w w' : World} {h : Nat} {c0 c1 : Value} (p : Pair w h c0 c1) (hb : Below w.heap.size w w') : Pair w' h c0 c1 :=
  ⟨Nat.lt_of_lt_of_le p.1 hb.size, (hb.cell (p := ⟨h, 0, none⟩) p.1).trans p.2.1, (hb.cell (p := ⟨h, 1, none⟩) p.1).trans p.2.2⟩
theorem pair_new (w : World) (c0 c1 : Value) (e : TypeId) : Pair (w.alloc (.cells #[c0, c1] e)) w.heap.size c0 c1 :=
  ⟨by simp, cell_of_row _ w.heap.size 0 #[c0, c1] e _ (heap_alloc_new w _), cell_of_row _ w.heap.size 1 #[c0, c1] e _ (heap_alloc_new w _)⟩
theorem Pair.alloc {w : World} {h : Nat} {c0 c1 : Value} (p : Pair w h c0 c1) (o : Obj) : Pair (w.alloc o) h c0 c1 := p.keeps ((Below.refl _ _).alloc (Nat.le_refl _) o)
theorem drew1 (w : World) : Below w.heap.size w w.drew := (Below.refl _ _).drew
end Go.Proofs.YtmiepnnpccpicaaGreat

namespace Go.Proofs.YtmiepnnpccpicaaGreat
open Go.Joins Go.ChangeShapes Go.WideShapes Go.ChangeAt Go.RowKit Go.Deep
set_option maxRecDepth 100000 in
theorem kit_cellsId : Tryz.prog.cellsOf 25 = 2 := by kernel_rfl
set_option maxRecDepth 100000 in
theorem wf_u32 {a : Int} (h : (Lit.int .u32 a).wf = true) : ∃ n : Nat, a = (n : Int) ∧ n < 4294967296 := by
  have hb : 0 ≤ a ∧ a ≤ 4294967295 := by simpa [Lit.wf, IntKind.min, IntKind.max, IntKind.signed, IntKind.bits] using h
  exact ⟨a.toNat, by omega, by omega⟩
set_option maxRecDepth 100000 in
theorem wf_u8 {a : Int} (h : (Lit.int .u8 a).wf = true) : ∃ n : Nat, a = (n : Int) ∧ n < 256 := by
  have hb : 0 ≤ a ∧ a ≤ 255 := by simpa [Lit.wf, IntKind.min, IntKind.max, IntKind.signed, IntKind.bits] using h
  exact ⟨a.toNat, by omega, by omega⟩
set_option maxRecDepth 100000 in
theorem id_of {H : Type} {enc : TypeId × Value → H} {W : World} {v : Value} {d : DataW H} {p : List MemPlace} {base : Nat}
    (hv : Value.okWide Tryz.prog W .any base 25 v) (h : DataW.Trod enc Tryz.prog W 0 (fun _ => true) true 25 v d p) :
    ∃ a : Id, v = .agg #[.int .u32 (a.t : Int), .int .u8 (a.r : Int)] := by
  obtain ⟨c0, c1, y0, y1, m, rfl, -, -, hy0, hy1⟩ := open_agg2 Tryz.underlying25 (by kernel_rfl) kit_cellsId hv h
  obtain ⟨a, e0, -, wa⟩ := DataW.trod_int Tryz.underlying23 hy0
  obtain ⟨b, e1, -, wb⟩ := DataW.trod_int Tryz.underlying5 hy1
  simp at e0 e1
  subst e0 e1
  obtain ⟨n, rfl, hn⟩ := wf_u32 wa
  obtain ⟨q, rfl, hq⟩ := wf_u8 wb
  exact ⟨⟨n, q, hn, hq⟩, rfl⟩
end Go.Proofs.YtmiepnnpccpicaaGreat

namespace Go.Proofs.YtmiepnnpccpicaaGreat
open Go.RowKit Go.WideShapes
/-- A run: a time, a replica, how many. -/
structure Run where
  t : Nat
  r : Nat
  m : Int
  ht : t < 4294967296
  hr : r < 256
  hm : -9223372036854775808 ≤ m ∧ m ≤ 9223372036854775807
theorem Run.ext' {a b : Run} (h1 : a.t = b.t) (h2 : a.r = b.r) (h3 : a.m = b.m) : a = b := by
  obtain ⟨t, r, m, _, _, _⟩ := a; obtain ⟨u, s, n, _, _, _⟩ := b
  simp only at h1 h2 h3
  subst h1 h2 h3
  rfl
theorem Run.eq_iff {a b : Run} : a = b ↔ a.t = b.t ∧ a.r = b.r ∧ a.m = b.m := ⟨fun h => by rw [h]; exact ⟨rfl, rfl, rfl⟩, fun h => Run.ext' h.1 h.2.1 h.2.2⟩
instance : DecidableEq Run := fun a b => if h : a.t = b.t ∧ a.r = b.r ∧ a.m = b.m then isTrue (Run.eq_iff.2 h) else isFalse (fun e => h (Run.eq_iff.1 e))
def zrun : Run := ⟨0, 0, 0, by decide, by decide, by decide⟩
/-- Runs as cells. -/
def runs : List Run → List Value
  | [] => []
  | a :: l => .int .u32 (a.t : Int) :: .int .u8 (a.r : Int) :: .int .i64 a.m :: runs l
theorem runs_len : ∀ l : List Run, (runs l).length = l.length * 3
  | [] => rfl
  | a :: l => by simp [runs, runs_len l]; omega
theorem runs_append : ∀ l m : List Run, runs (l ++ m) = runs l ++ runs m
  | [], m => rfl
  | a :: l, m => by simp [runs, runs_append l m]
theorem runs_get : ∀ (l : List Run) (j : Nat), j < l.length → (runs l)[j * 3]? = some (.int .u32 ((l.getD j zrun).t : Int)) ∧ (runs l)[j * 3 + 1]? = some (.int .u8 ((l.getD j zrun).r : Int)) ∧ (runs l)[j * 3 + 2]? = some (.int .i64 (l.getD j zrun).m)
  | [], j, h => by simp at h
  | a :: l, 0, _ => by simp [runs]
  | a :: l, j + 1, h => by
    have := runs_get l j (by simpa using h)
    rw [show (j + 1) * 3 = j * 3 + 1 + 1 + 1 by omega]
    simpa [runs] using this
theorem runs_oneCell : ∀ l : List Run, ∀ u ∈ runs l, u.oneCell' = true
  | [], u, h => by simp [runs] at h
  | a :: l, u, h => by
    simp only [runs, List.mem_cons] at h
    rcases h with rfl | rfl | rfl | h
    · rfl
    · rfl
    · rfl
    · exact runs_oneCell l u h
/-- The cells from a run on. -/
theorem runs_drop : ∀ (l : List Run) (k : Nat), runs (l.drop k) = (runs l).drop (k * 3)
  | l, 0 => by simp
  | [], k + 1 => by simp [runs]
  | a :: l, k + 1 => by
    rw [List.drop_succ_cons, runs_drop l k, show (k + 1) * 3 = k * 3 + 1 + 1 + 1 by omega]
    simp [runs]
/-- A slice of runs. -/
def Runs (w : World) (v : Value) (l : List Run) : Prop := Sees w v 3 l.length (runs l)
theorem Runs.keeps {w w' : World} {v : Value} {l : List Run} (h : Runs w v l) (hb : Below w.heap.size w w') : Runs w' v l := Sees.keeps h hb
theorem Runs.shape {w : World} {v : Value} {l : List Run} (h : Runs w v l) : ∃ ao cap, v = .slice ao l.length cap := Sees.shape h
theorem Runs.at {w : World} {ao : Option Addr} {m cap : Nat} {l : List Run} (h : Runs w (.slice ao m cap) l) (k : Nat) (hk : k < l.length) :
    ∃ b off, ao = some ⟨b, off, none⟩ ∧ b < w.heap.size ∧ w.cell? ⟨b, off + k * 3, none⟩ = some (.int .u32 ((l.getD k zrun).t : Int)) ∧ w.cell? ⟨b, off + k * 3 + 1, none⟩ = some (.int .u8 ((l.getD k zrun).r : Int)) ∧ w.cell? ⟨b, off + k * 3 + 2, none⟩ = some (.int .i64 (l.getD k zrun).m) := by
  obtain ⟨b, off, h1, h2, h3⟩ := Sees.at h (k * 3) (by rw [runs_len]; omega)
  have e := runs_get l k hk
  exact ⟨b, off, h1, h2, (h3 (k * 3) (by rw [runs_len]; omega)).trans e.1, (h3 (k * 3 + 1) (by rw [runs_len]; omega)).trans e.2.1, (h3 (k * 3 + 2) (by rw [runs_len]; omega)).trans e.2.2⟩
theorem Runs.own {w : World} {base : Nat} {e : TypeId} {v : Value} {n : Nat} {l : List Run} (h : w.ownsRow base e 3 v n (runs l)) : Runs w v l := by
  have h1 := h.1
  rw [runs_len] at h1
  obtain rfl : l.length = n := by omega
  exact Sees.own h
/-- What is behind the first runs. -/
theorem Runs.tail {w : World} {b off n cap k : Nat} {l : List Run} (h : Runs w (.slice (some ⟨b, off, none⟩) n cap) l) (hk : k ≤ l.length) : Runs w (.slice (some ⟨b, off + k * 3, none⟩) (n - k) (cap - k)) (l.drop k) := by
  obtain ⟨h1, ao, cap', he, h2, h3, h4, h5⟩ := h
  simp only [Value.slice.injEq] at he
  obtain ⟨rfl, rfl, rfl⟩ := he
  refine ⟨by rw [runs_len], some ⟨b, off + k * 3, none⟩, cap - k, by rw [List.length_drop], by rw [List.length_drop]; omega, by omega, by simp, ?_⟩
  rw [runs_drop]
  rcases h5 with h5 | ⟨b', off', he, hb, hc⟩
  · left; rw [h5]; simp
  · right
    simp only [Option.some.injEq, Addr.mk.injEq] at he
    obtain ⟨rfl, rfl, _⟩ := he
    refine ⟨b, off + k * 3, rfl, hb, fun j u hj => ?_⟩
    rw [List.getElem?_drop] at hj
    rw [show off + k * 3 + j = off + (k * 3 + j) by omega]
    exact hc _ _ hj
/-- A block whose first three cells are these. -/
def Tri (w : World) (h : Nat) (c0 c1 c2 : Value) : Prop := h < w.heap.size ∧ w.cell? ⟨h, 0, none⟩ = some c0 ∧ w.cell? ⟨h, 1, none⟩ = some c1 ∧ w.cell? ⟨h, 2, none⟩ = some c2
theorem Tri.keeps {w w' : World} {h : Nat} {c0 c1 c2 : Value} (p : Tri w h c0 c1 c2) (hb : Below w.heap.size w w') : Tri w' h c0 c1 c2 :=
  ⟨Nat.lt_of_lt_of_le p.1 hb.size, (hb.cell (p := ⟨h, 0, none⟩) p.1).trans p.2.1, (hb.cell (p := ⟨h, 1, none⟩) p.1).trans p.2.2.1, (hb.cell (p := ⟨h, 2, none⟩) p.1).trans p.2.2.2⟩
theorem tri_new (w : World) (c0 c1 c2 : Value) (e : TypeId) : Tri (w.alloc (.cells #[c0, c1, c2] e)) w.heap.size c0 c1 c2 :=
  ⟨by simp, cell_of_row _ w.heap.size 0 #[c0, c1, c2] e _ (heap_alloc_new w _), cell_of_row _ w.heap.size 1 #[c0, c1, c2] e _ (heap_alloc_new w _), cell_of_row _ w.heap.size 2 #[c0, c1, c2] e _ (heap_alloc_new w _)⟩
theorem run_info : (Tryz.prog.info? 40).map (fun i => (i.zero, i.size, i.bytes)) = some (some (.agg #[.int .u32 0, .int .u8 0, .int .i64 0]), 3, 16) := by kernel_rfl
end Go.Proofs.YtmiepnnpccpicaaGreat

namespace Go.Proofs.YtmiepnnpccpicaaGreat
open Go.Joins Go.ChangeShapes Go.WideShapes Go.ChangeAt Go.RowKit Go.Deep
set_option maxRecDepth 100000 in
theorem kit_cellsRun : Tryz.prog.cellsOf 40 = 3 := by kernel_rfl
end Go.Proofs.YtmiepnnpccpicaaGreat

namespace Go.Proofs.YtmiepnnpccpicaaGreat.Stamp
/-- May it be? -/
def may (t r : Nat) : Bool := decide (1 ≤ t ∧ t ≤ 1073741824 ∧ r < 8)
theorem may_iff {t r : Nat} : may t r = true ↔ 1 ≤ t ∧ t ≤ 1073741824 ∧ r < 8 := by simp [may]
theorem may_no {t r : Nat} : may t r = false ↔ ¬ (1 ≤ t ∧ t ≤ 1073741824 ∧ r < 8) := by simp only [may, decide_eq_false_iff_not]
def chk (t r : Nat) : Int := if may t r = true then 0 else 8
/-- Is one less? -/
def less (t r u s : Nat) : Bool := decide (t < u ∨ t = u ∧ r < s)
theorem less_iff {t r u s : Nat} : less t r u s = true ↔ t < u ∨ t = u ∧ r < s := by simp [less]
/-- The zero stamp, or one that may be. -/
def fine (a : Id) : Prop := a = zid ∨ may a.t a.r = true
instance (a : Id) : Decidable (fine a) := inferInstanceAs (Decidable (_ ∨ _))
def Fine (l : List Id) : Prop := ∀ a ∈ l, fine a
instance (l : List Id) : Decidable (Fine l) := inferInstanceAs (Decidable (∀ a ∈ l, fine a))
end Go.Proofs.YtmiepnnpccpicaaGreat.Stamp

namespace Go.Proofs.YtmiepnnpccpicaaGreat.Place
open Stamp
/-- A stamp of two numbers, whatever they are. -/
def mk (t r : Nat) : Id := ⟨t % 4294967296, r % 256, Nat.mod_lt _ (by decide), Nat.mod_lt _ (by decide)⟩
theorem mk_t {t r : Nat} (h : t < 4294967296) : (mk t r).t = t := Nat.mod_eq_of_lt h
theorem mk_r {t r : Nat} (h : r < 256) : (mk t r).r = r := Nat.mod_eq_of_lt h
/-- The stamps of a run: n of them from t on. -/
def up (t r : Nat) : Nat → List Id
  | 0 => []
  | n + 1 => mk t r :: up (t + 1) r n
/-- A place's stamps. -/
def all : List Run → List Id
  | [] => []
  | x :: p => up x.t x.r x.m.toNat ++ all p
theorem up_len : ∀ (t r n : Nat), (up t r n).length = n
  | _, _, 0 => rfl
  | t, r, n + 1 => by simp [up, up_len (t + 1) r n]
theorem up_add : ∀ (t r m n : Nat), up t r (m + n) = up t r m ++ up (t + m) r n
  | t, r, 0, n => by simp [up]
  | t, r, m + 1, n => by
    rw [show m + 1 + n = (m + n) + 1 by omega]
    simp only [up, List.cons_append]
    rw [up_add (t + 1) r m n, show t + 1 + m = t + (m + 1) by omega]
theorem all_append : ∀ p q : List Run, all (p ++ q) = all p ++ all q
  | [], q => rfl
  | x :: p, q => by simp [all, all_append p q]
/-- May a run be, by itself? Its last time is t + m - 1. -/
def One (x : Run) : Prop := 1 ≤ x.t ∧ x.t ≤ 1073741824 ∧ x.r < 8 ∧ 1 ≤ x.m ∧ x.m ≤ 4096 ∧ (x.t : Int) + x.m - 1 ≤ 1073741824
instance (x : Run) : Decidable (One x) := inferInstanceAs (Decidable (_ ∧ _))
def fin (x : Run) : Int := (x.t : Int) + x.m - 1
/-- May one stand right behind another one? -/
def Next (x y : Run) : Prop := fin x < (y.t : Int) ∧ (y.r = x.r → fin x + 1 < (y.t : Int))
instance (x y : Run) : Decidable (Next x y) := inferInstanceAs (Decidable (_ ∧ _))
/-- How many stamps. -/
def long : List Run → Int
  | [] => 0
  | x :: p => x.m + long p
/-- Runs that may be, one behind the other. -/
def Chain : List Run → Prop
  | [] => True
  | [x] => One x
  | x :: y :: p => One x ∧ Next x y ∧ Chain (y :: p)
theorem Chain.head {x : Run} {p : List Run} (h : Chain (x :: p)) : One x := by
  cases p with
  | nil => exact h
  | cons y p => exact h.1
theorem Chain.tail {x : Run} {p : List Run} (h : Chain (x :: p)) : Chain p := by
  cases p with
  | nil => trivial
  | cons y p => exact h.2.2
def May (p : List Run) : Prop := 1 ≤ p.length ∧ p.length ≤ 64 ∧ Chain p ∧ long p ≤ 4096
def Any (p : List Run) : Prop := p = [] ∨ May p
theorem Any.chain {p : List Run} (h : Any p) : Chain p := by
  rcases h with rfl | h
  · trivial
  · exact h.2.2.1
/-- Stamps held against each other. -/
def hold : List Id → List Id → Int
  | [], [] => 0
  | _ :: _, [] => 1
  | [], _ :: _ => -1
  | a :: l, b :: m => if a = b then hold l m else if less b.t b.r a.t a.r = true then -1 else 1
/-- Is one a beginning of another one? -/
def first : List Id → List Id → Bool
  | [], _ => true
  | _ :: _, [] => false
  | a :: l, b :: m => decide (a = b) && first l m
theorem less_total {a b : Id} (h : a ≠ b) : less b.t b.r a.t a.r = true ↔ ¬ less a.t a.r b.t b.r = true := by
  rw [less_iff, less_iff]
  have : ¬ (a.t = b.t ∧ a.r = b.r) := fun h2 => h (Id.ext' h2.1 h2.2)
  omega
theorem hold_eq : ∀ l m : List Id, hold l m = 0 ↔ l = m
  | [], [] => by simp [hold]
  | a :: l, [] => by simp [hold]
  | [], b :: m => by simp [hold]
  | a :: l, b :: m => by
    by_cases h : a = b
    · subst h; simp [hold, hold_eq l m]
    · by_cases h2 : less b.t b.r a.t a.r = true <;> simp [hold, h, h2]
theorem hold_range : ∀ l m : List Id, hold l m = -1 ∨ hold l m = 0 ∨ hold l m = 1
  | [], [] => by simp [hold]
  | a :: l, [] => by simp [hold]
  | [], b :: m => by simp [hold]
  | a :: l, b :: m => by
    by_cases h : a = b
    · subst h; simpa [hold] using hold_range l m
    · by_cases h2 : less b.t b.r a.t a.r = true <;> simp [hold, h, h2]
theorem hold_neg : ∀ l m : List Id, hold m l = - hold l m
  | [], [] => by simp [hold]
  | a :: l, [] => by simp [hold]
  | [], b :: m => by simp [hold]
  | a :: l, b :: m => by
    by_cases h : a = b
    · subst h; simpa [hold] using hold_neg l m
    · have h' : ¬ b = a := fun e => h e.symm
      have ht := less_total h
      by_cases h2 : less b.t b.r a.t a.r = true
      · have h3 := ht.1 h2
        simp [hold, h, h', h2, h3]
      · have h3 : less a.t a.r b.t b.r = true := by
          by_cases h3 : less a.t a.r b.t b.r = true
          · exact h3
          · exact absurd (ht.2 h3) h2
        simp [hold, h, h', h2, h3]
theorem less_trans {a b c : Id} (h1 : less b.t b.r a.t a.r = true) (h2 : less c.t c.r b.t b.r = true) : less c.t c.r a.t a.r = true := by
  rw [less_iff] at *; omega
theorem less_irrefl (a : Id) : ¬ less a.t a.r a.t a.r = true := by rw [less_iff]; omega
theorem hold_cons_neg {a b : Id} {l m : List Id} : hold (a :: l) (b :: m) = -1 ↔ (a = b ∧ hold l m = -1) ∨ less b.t b.r a.t a.r = true := by
  by_cases h : a = b
  · subst h
    have := less_irrefl a
    simp [hold, this]
  · by_cases h2 : less b.t b.r a.t a.r = true <;> simp [hold, h, h2]
theorem hold_trans : ∀ l m n : List Id, hold l m = -1 → hold m n = -1 → hold l n = -1
  | [], m, [], h1, h2 => by cases m <;> simp [hold] at h1 h2
  | [], m, c :: n, h1, h2 => by simp [hold]
  | a :: l, [], n, h1, h2 => by simp [hold] at h1
  | a :: l, b :: m, [], h1, h2 => by simp [hold] at h2
  | a :: l, b :: m, c :: n, h1, h2 => by
    rw [hold_cons_neg] at *
    rcases h1 with ⟨rfl, h1⟩ | h1 <;> rcases h2 with ⟨rfl, h2⟩ | h2
    · exact .inl ⟨rfl, hold_trans l m n h1 h2⟩
    · exact .inr h2
    · exact .inr h1
    · exact .inr (less_trans h1 h2)
theorem hold_app : ∀ p l m : List Id, hold (p ++ l) (p ++ m) = hold l m
  | [], l, m => rfl
  | a :: p, l, m => by simp [hold, hold_app p l m]
theorem first_app : ∀ p l m : List Id, first (p ++ l) (p ++ m) = first l m
  | [], l, m => rfl
  | a :: p, l, m => by simp [first, first_app p l m]
end Go.Proofs.YtmiepnnpccpicaaGreat.Place

namespace Go.Proofs.YtmiepnnpccpicaaGreat.Place
open Stamp
theorem One.nat {x : Run} (h : One x) : ∃ n : Nat, x.m = (n : Int) ∧ 1 ≤ n ∧ n ≤ 4096 ∧ x.m.toNat = n ∧ x.t + n ≤ 1073741825 := by
  obtain ⟨h1, h2, h3, h4, h5, h6⟩ := h
  exact ⟨x.m.toNat, by omega, by omega, by omega, rfl, by omega⟩
/-- A run made of numbers, whatever they are. -/
def mkRun (t r : Nat) (m : Int) : Run := ⟨t % 4294967296, r % 256, if -9223372036854775808 ≤ m ∧ m ≤ 9223372036854775807 then m else 0, Nat.mod_lt _ (by decide), Nat.mod_lt _ (by decide), by split <;> omega⟩
theorem mkRun_t {t r : Nat} {m : Int} (h : t < 4294967296) : (mkRun t r m).t = t := Nat.mod_eq_of_lt h
theorem mkRun_r {t r : Nat} {m : Int} (h : r < 256) : (mkRun t r m).r = r := Nat.mod_eq_of_lt h
theorem mkRun_m {t r : Nat} {m : Int} (h : -9223372036854775808 ≤ m ∧ m ≤ 9223372036854775807) : (mkRun t r m).m = m := if_pos h
/-- Runs without their first n stamps, of which the first run has so many, and more, or just as many. -/
def cut (x : Run) (p : List Run) (n : Nat) : List Run := if x.m = (n : Int) then p else mkRun (x.t + n) x.r (x.m - n) :: p
theorem all_cut {x : Run} {p : List Run} {n : Nat} (h : One x) (hn : (n : Int) ≤ x.m) : all (x :: p) = up x.t x.r n ++ all (cut x p n) := by
  obtain ⟨k, hk, h1, h2, h3, h4⟩ := h.nat
  have hxt := x.hr
  unfold cut
  by_cases he : x.m = (n : Int)
  · rw [if_pos he, all, h3, show k = n by omega]
  · rw [if_neg he, all, all, mkRun_t (by omega), mkRun_r hxt, mkRun_m (by omega), h3, ← List.append_assoc, show (x.m - (n : Int)).toNat = k - n by omega, ← up_add, show n + (k - n) = k by omega]
theorem One.cut {x : Run} {n : Nat} (h : One x) (hn : (n : Int) < x.m) : One (mkRun (x.t + n) x.r (x.m - n)) ∧ fin (mkRun (x.t + n) x.r (x.m - n)) = fin x := by
  obtain ⟨h1, h2, h3, h4, h5, h6⟩ := h
  have hxt := x.hr
  unfold One fin
  rw [mkRun_t (by omega), mkRun_r hxt, mkRun_m (by omega)]
  omega
theorem Chain.cut {x : Run} {p : List Run} {n : Nat} (h : Chain (x :: p)) (hn : (n : Int) ≤ x.m) : Chain (cut x p n) := by
  unfold Place.cut
  by_cases he : x.m = (n : Int)
  · rw [if_pos he]; exact h.tail
  · rw [if_neg he]
    have hc := h.head.cut (n := n) (by omega)
    cases p with
    | nil => exact hc.1
    | cons y p =>
      refine ⟨hc.1, ?_, h.2.2⟩
      have h2 := h.2.1
      unfold Next at h2 ⊢
      rw [hc.2, mkRun_r x.hr]
      exact h2
theorem all_cons {x : Run} {p : List Run} (h : One x) : ∃ l, all (x :: p) = ⟨x.t, x.r, x.ht, x.hr⟩ :: l := by
  obtain ⟨k, hk, h1, h2, h3, h4⟩ := h.nat
  obtain ⟨j, rfl⟩ : ∃ j, k = j + 1 := ⟨k - 1, by omega⟩
  refine ⟨up (x.t + 1) x.r j ++ all p, ?_⟩
  rw [all, h3, up]
  have : mk x.t x.r = ⟨x.t, x.r, x.ht, x.hr⟩ := Id.ext' (mk_t x.ht) (mk_r x.hr)
  rw [this]; rfl
theorem all_nil {p : List Run} (h : Chain p) : all p = [] ↔ p = [] := by
  cases p with
  | nil => simp [all]
  | cons x p =>
    obtain ⟨l, hl⟩ := all_cons (p := p) h.head
    simp [hl]
theorem hold_cut {x y : Run} {p q : List Run} (h1 : One x) (h2 : One y) (ht : x.t = y.t) (hr : x.r = y.r) {n : Nat} (hn : (n : Int) ≤ x.m) (hn2 : (n : Int) ≤ y.m) :
    hold (all (x :: p)) (all (y :: q)) = hold (all (cut x p n)) (all (cut y q n)) := by
  rw [all_cut h1 hn, all_cut h2 hn2, ht, hr, hold_app]
theorem first_cut {x y : Run} {p q : List Run} (h1 : One x) (h2 : One y) (ht : x.t = y.t) (hr : x.r = y.r) {n : Nat} (hn : (n : Int) ≤ x.m) (hn2 : (n : Int) ≤ y.m) :
    first (all (x :: p)) (all (y :: q)) = first (all (cut x p n)) (all (cut y q n)) := by
  rw [all_cut h1 hn, all_cut h2 hn2, ht, hr, first_app]
theorem hold_part {x y : Run} {p q : List Run} (h1 : One x) (h2 : One y) (h : ¬ (x.t = y.t ∧ x.r = y.r)) : hold (all (x :: p)) (all (y :: q)) = if less y.t y.r x.t x.r = true then -1 else 1 := by
  obtain ⟨l, hl⟩ := all_cons (p := p) h1
  obtain ⟨m, hm⟩ := all_cons (p := q) h2
  rw [hl, hm, hold, if_neg (by rw [Id.eq_iff]; exact h)]
theorem first_part {x y : Run} {p q : List Run} (h1 : One x) (h2 : One y) (h : ¬ (x.t = y.t ∧ x.r = y.r)) : first (all (x :: p)) (all (y :: q)) = false := by
  obtain ⟨l, hl⟩ := all_cons (p := p) h1
  obtain ⟨m, hm⟩ := all_cons (p := q) h2
  rw [hl, hm, first, decide_eq_false (by rw [Id.eq_iff]; exact h), Bool.false_and]
theorem hold_right {x : Run} {p : List Run} (h : One x) : hold (all (x :: p)) [] = 1 := by
  obtain ⟨l, hl⟩ := all_cons (p := p) h
  rw [hl]; rfl
theorem hold_left {x : Run} {p : List Run} (h : One x) : hold [] (all (x :: p)) = -1 := by
  obtain ⟨l, hl⟩ := all_cons (p := p) h
  rw [hl]; rfl
theorem first_right {x : Run} {p : List Run} (h : One x) : first (all (x :: p)) [] = false := by
  obtain ⟨l, hl⟩ := all_cons (p := p) h
  rw [hl]; rfl
/-- How many stamps, as a number. -/
theorem long_len : ∀ {p : List Run}, Chain p → ((all p).length : Int) = long p
  | [], _ => rfl
  | x :: p, h => by
    obtain ⟨k, hk, h1, h2, h3, h4⟩ := h.head.nat
    have := long_len h.tail
    rw [all, List.length_append, up_len, h3, long]
    omega
/-- Places are written in one way alone. -/
theorem all_inj : ∀ {p q : List Run}, Chain p → Chain q → all p = all q → p = q
  | [], q, _, h2, h => ((all_nil h2).1 h.symm).symm
  | x :: p, [], h1, _, h => (all_nil h1).1 h
  | x :: p, y :: q, h1, h2, h => by
    obtain ⟨l, hl⟩ := all_cons (p := p) h1.head
    obtain ⟨m, hm⟩ := all_cons (p := q) h2.head
    have hxy : x.t = y.t ∧ x.r = y.r := by
      rw [hl, hm] at h
      exact Id.eq_iff.1 (List.cons.inj h).1
    obtain ⟨j, hj, j1, j2, j3, j4⟩ := h1.head.nat
    obtain ⟨k, hk, k1, k2, k3, k4⟩ := h2.head.nat
    -- a run that is longer than the other one would go on where the other place must leave
    have key : ∀ {x y : Run} {p q : List Run}, Chain (x :: p) → Chain (y :: q) → all (x :: p) = all (y :: q) → x.t = y.t → x.r = y.r → ¬ x.m < y.m := by
      intro x y p q h1 h2 h ht hr hlt
      obtain ⟨j, hj, j1, j2, j3, j4⟩ := h1.head.nat
      rw [all_cut h1.head (n := j) (by omega), all_cut h2.head (n := j) (by omega), ht, hr] at h
      have h := List.append_cancel_left h
      unfold cut at h
      rw [if_pos hj, if_neg (by omega)] at h
      have hc := h2.head.cut (n := j) (by omega)
      obtain ⟨m, hm⟩ := all_cons (p := q) hc.1
      cases p with
      | nil => rw [hm] at h; simp [all] at h
      | cons z p =>
        obtain ⟨l, hl⟩ := all_cons (p := p) h1.tail.head
        rw [hl, hm] at h
        have hz := Id.eq_iff.1 (List.cons.inj h).1
        simp only at hz
        rw [mkRun_t (by have := h2.head.nat; omega), mkRun_r y.hr] at hz
        have hn := h1.2.1
        unfold Next fin at hn
        have := hn.2 (by omega)
        omega
    have hm : x.m = y.m := by
      have a := key h1 h2 h hxy.1 hxy.2
      have b := key h2 h1 h.symm hxy.1.symm hxy.2.symm
      omega
    have e : x = y := Run.ext' hxy.1 hxy.2 hm
    subst e
    rw [all, all] at h
    rw [all_inj h1.tail h2.tail (List.append_cancel_left h)]
theorem hold_same {p q : List Run} (h1 : Chain p) (h2 : Chain q) : hold (all p) (all q) = 0 ↔ p = q := by
  rw [hold_eq]
  exact ⟨all_inj h1 h2, fun h => by rw [h]⟩
theorem chain_append : ∀ {p q : List Run}, Chain p → Chain q → (∀ x y, p.getLast? = some x → q.head? = some y → Next x y) → Chain (p ++ q)
  | [], q, _, h, _ => h
  | [x], [], h, _, _ => h
  | [x], y :: q, h1, h2, h => ⟨h1, h x y rfl rfl, h2⟩
  | x :: y :: p, q, h1, h2, h => ⟨h1.1, h1.2.1, chain_append h1.2.2 h2 (fun a b ha hb => h a b (by simpa using ha) hb)⟩
end Go.Proofs.YtmiepnnpccpicaaGreat.Place

namespace Go.Proofs.YtmiepnnpccpicaaGreat
open Go.RowKit Go.WideShapes
theorem hold {α β : Prop} (f : α → β) (h : α) : β := f h
theorem blk_drew {X : World} {g : Nat} {o : Obj} (h : X.heap[g]? = some o) : X.drew.heap[g]? = some o := h
theorem blk_old {X : World} {g : Nat} {o o' : Obj} (h : X.heap[g]? = some o) : (X.alloc o').heap[g]? = some o := by
  have hlt : g < X.heap.size := (Array.getElem?_eq_some_iff.1 h).1
  exact (((Below.refl X.heap.size X).alloc (Nat.le_refl _) o').block g hlt).trans h
theorem blk_new {X : World} {g : Nat} {o : Obj} (h : X.heap.size = g) : (X.alloc o).heap[g]? = some o := by
  subst h; exact heap_alloc_new X o
theorem blk_grown {X W : World} {row : Option Nat} {g : Nat} {o : Obj} (hg : X.grownBy W row) (hne : row ≠ some g) (h : X.heap[g]? = some o) : W.heap[g]? = some o :=
  (hg.block g (Array.getElem?_eq_some_iff.1 h).1 (fun e => hne e.symm)).trans h
theorem blk_below {X W : World} {g : Nat} {o : Obj} (hb : Below X.heap.size X W) (h : X.heap[g]? = some o) : W.heap[g]? = some o :=
  (hb.block g (Array.getElem?_eq_some_iff.1 h).1).trans h
theorem cells_blk {X : World} {g : Nat} {c0 c1 : Value} {e : TypeId} (h : X.heap[g]? = some (.cells #[c0, c1] e)) :
    X.cell? ⟨g, 0, none⟩ = some c0 ∧ X.cell? ⟨g, 1, none⟩ = some c1 ∧ X.frozen? ⟨g, 0, none⟩ = false ∧ X.frozen? ⟨g, 1, none⟩ = false :=
  ⟨cell_of_row _ g 0 #[c0, c1] e _ h, cell_of_row _ g 1 #[c0, c1] e _ h, by simp [World.frozen?, h], by simp [World.frozen?, h]⟩
theorem set_blk {X : World} {g : Nat} {c0 c1 d0 d1 : Value} {e : TypeId} (h : X.heap[g]? = some (.cells #[c0, c1] e)) : ((X.setCell ⟨g, 0, none⟩ d0).setCell ⟨g, 1, none⟩ d1).heap[g]? = some (.cells #[d0, d1] e) := by
  have h0 := heap_setCell_same X g 0 _ _ d0 h
  have h1 := heap_setCell_same _ g 1 _ _ d1 h0
  exact h1
theorem set_below {B g : Nat} {W X : World} {d0 d1 : Value} (hg : B ≤ g) (h : Below B W X) : Below B W ((X.setCell ⟨g, 0, none⟩ d0).setCell ⟨g, 1, none⟩ d1) :=
  (h.setCell (p := ⟨g, 0, none⟩) hg _).setCell (p := ⟨g, 1, none⟩) hg _
/-- A slot that an operation left unset decides no guard. -/
theorem yielded_undef : Go.yielded.match_1 (fun _ => Option Bool) (some undef) (fun b => some b) (fun _ => none) = none := rfl
end Go.Proofs.YtmiepnnpccpicaaGreat

namespace Go.Proofs.YtmiepnnpccpicaaGreat.Place
open Go.RowKit Stamp
attribute [local go_sem ↓] Go.wp_at_zero Go.wp_at_succ
theorem runs_ne : ∀ {a b : List Run}, a.length = b.length → a ≠ b → ∃ k, k < a.length ∧ a.getD k zrun ≠ b.getD k zrun
  | [], [], _, h => absurd rfl h
  | x :: a, y :: b, hl, h => by
    by_cases hxy : x = y
    · subst hxy
      obtain ⟨k, h1, h2⟩ := runs_ne (a := a) (b := b) (by simpa using hl) (fun e => h (by rw [e]))
      exact ⟨k + 1, by simpa using h1, by simpa using h2⟩
    · exact ⟨0, by simp, by simpa using hxy⟩
  | [], _ :: _, hl, _ => by simp at hl
  | _ :: _, [], hl, _ => by simp at hl
end Go.Proofs.YtmiepnnpccpicaaGreat.Place

namespace Go.Proofs.YtmiepnnpccpicaaGreat.Place
open Go.RowKit Stamp
attribute [local go_sem ↓] Go.wp_at_zero Go.wp_at_succ
/-- May a run be, by itself, as a Bool. -/
def oneB (t r : Nat) (m : Int) : Bool := decide (1 ≤ t ∧ t ≤ 1073741824 ∧ r < 8 ∧ 1 ≤ m ∧ m ≤ 4096 ∧ (t : Int) + m - 1 ≤ 1073741824)
theorem oneB_iff (x : Run) : oneB x.t x.r x.m = true ↔ One x := by unfold oneB One; rw [decide_eq_true_iff]
theorem long_take (l : List Run) (k : Nat) (h : k < l.length) : long (l.take (k + 1)) = long (l.take k) + (l.getD k zrun).m := by
  have : ∀ (p q : List Run), long (p ++ q) = long p + long q := by
    intro p q
    induction p with
    | nil => simp [long]
    | cons x p ih => simp [long, ih]; omega
  rw [List.take_succ_eq_append_getElem h, this]
  simp [long, List.getD, List.getElem?_eq_getElem h]
end Go.Proofs.YtmiepnnpccpicaaGreat.Place

namespace Go.Proofs.YtmiepnnpccpicaaGreat.Flo
open Ieee
/-- The bits of a whole number. -/
def fl (m : Nat) : Nat := double.nearest false m 0
theorem log2_shift (k s : Nat) (hk : k ≠ 0) : (k * 2 ^ s).log2 = k.log2 + s := by
  have hp : 0 < 2 ^ s := Nat.two_pow_pos s
  have hne : k * 2 ^ s ≠ 0 := Nat.mul_ne_zero hk (by omega)
  rw [Nat.log2_eq_iff hne]
  have h1 := Nat.log2_self_le hk
  have h2 := @Nat.lt_log2_self k
  constructor
  · rw [Nat.pow_add]; exact Nat.mul_le_mul_right _ h1
  · rw [show k.log2 + s + 1 = (k.log2 + 1) + s by omega, Nat.pow_add]
    exact (Nat.mul_lt_mul_right hp).2 h2
theorem cut_whole (way : Toward) (k d : Nat) : way.cut false (k * 2 ^ d) d = k := by
  have key : ∀ g : Nat, 0 < g → k * 2 ^ d = k * g → way.cut false (k * 2 ^ d) d = k → way.cut false (k * 2 ^ d) d = k := fun _ _ _ h => h
  clear key
  by_cases hk : k = 0
  · subst hk
    cases way <;> simp [Toward.cut, Nat.shiftLeft_eq]
  · have hl := log2_shift k d hk
    have hm : min d ((k * 2 ^ d).log2 + 2) = d := by omega
    have hp : 0 < 2 ^ d := Nat.two_pow_pos d
    unfold Toward.cut
    rw [hm]
    simp only [Nat.shiftLeft_eq, Nat.one_mul, Nat.mul_div_cancel _ hp, Nat.mul_mod_left]
    cases way <;> simp
theorem least : double.leastPlace = -1074 := by decide
theorem binade_eq : double.binade = 2 ^ 52 := rfl
theorem infRung_eq : double.infRung = 2047 * 2 ^ 52 := by decide
theorem sign_eq : double.signWeight = 2 ^ 63 := rfl
/-- The rung of a whole number. -/
theorem nearest_eq (k s : Nat) (hk : k ≠ 0) (hb : k < 2 ^ 53) : double.nearest false (k * 2 ^ s) (-(s : Int)) = (k.log2 + 1022) * 2 ^ 52 + k * 2 ^ (52 - k.log2) := by
  have hp : 0 < 2 ^ s := Nat.two_pow_pos s
  have hne : k * 2 ^ s ≠ 0 := Nat.mul_ne_zero hk (by omega)
  have hL : k.log2 < 53 := (Nat.log2_lt hk).2 hb
  have hlast : max (-(s : Int) + ((k.log2 + s : Nat) : Int) - (52 : Nat)) (-1074) = (k.log2 : Int) - 52 := by omega
  have hkept : Toward.even.cut false ((k * 2 ^ s) <<< (-(s : Int) - ((k.log2 : Int) - 52)).toNat) (((k.log2 : Int) - 52) - -(s : Int)).toNat = k * 2 ^ (52 - k.log2) := by
    by_cases hs : s ≤ 52 - k.log2
    · rw [show (-(s : Int) - ((k.log2 : Int) - 52)).toNat = 52 - k.log2 - s by omega, show (((k.log2 : Int) - 52) - -(s : Int)).toNat = 0 by omega]
      have e : (k * 2 ^ s) <<< (52 - k.log2 - s) = k * 2 ^ (52 - k.log2) * 2 ^ 0 := by
        rw [Nat.shiftLeft_eq, Nat.mul_assoc, ← Nat.pow_add, show s + (52 - k.log2 - s) = 52 - k.log2 by omega]; simp
      rw [e]
      exact cut_whole .even _ 0
    · rw [show (-(s : Int) - ((k.log2 : Int) - 52)).toNat = 0 by omega, show (((k.log2 : Int) - 52) - -(s : Int)).toNat = s - (52 - k.log2) by omega]
      have e : (k * 2 ^ s) <<< 0 = k * 2 ^ (52 - k.log2) * 2 ^ (s - (52 - k.log2)) := by
        rw [Nat.shiftLeft_zero, Nat.mul_assoc k (2 ^ (52 - k.log2)), ← Nat.pow_add, show 52 - k.log2 + (s - (52 - k.log2)) = s by omega]
      rw [e]
      exact cut_whole .even _ _
  unfold Format.nearest
  rw [if_neg hne, log2_shift k s hk]
  simp only [least, show double.fractionBits = 52 from rfl]
  rw [hlast, hkept]
  have h2 : k * 2 ^ (52 - k.log2) < 2 ^ 53 := by
    have h := @Nat.lt_log2_self k
    have : k * 2 ^ (52 - k.log2) < 2 ^ (k.log2 + 1) * 2 ^ (52 - k.log2) := (Nat.mul_lt_mul_right (Nat.two_pow_pos _)).2 h
    rw [← Nat.pow_add, show k.log2 + 1 + (52 - k.log2) = 53 by omega] at this
    exact this
  generalize k * 2 ^ (52 - k.log2) = t at *
  generalize k.log2 = L at *
  rw [binade_eq, infRung_eq, show ((L : Int) - 52 - -1074).toNat = L + 1022 by omega]
  unfold Format.word
  rw [if_neg (by simp)]
  rw [Nat.min_eq_left]
  omega
theorem fl_0 : fl 0 = 0 := by decide
theorem read_rung (f : Format) (x : Nat) (h1 : f.binade ≤ x) (h2 : x < f.infRung) (h3 : x < f.signWeight) :
    f.read x = .number false (f.binade + x % f.binade) (f.leastPlace + ((x / f.binade - 1 : Nat) : Int)) := by
  unfold Format.read
  simp only [Nat.div_eq_of_lt h3, Nat.mod_eq_of_lt h3]
  rw [if_neg (Nat.not_lt.2 h1), if_pos h2]
  rfl
set_option exponentiation.threshold 2000 in
theorem read_fl (k : Nat) (hb : k < 2 ^ 53) : ∃ s : Nat, double.read (fl k) = .number false (k * 2 ^ s) (-(s : Int)) := by
  by_cases hk : k = 0
  · subst hk
    exact ⟨1074, by rw [fl_0, Nat.zero_mul]; decide⟩
  · have hL : k.log2 < 53 := (Nat.log2_lt hk).2 hb
    refine ⟨52 - k.log2, ?_⟩
    have h0 := nearest_eq k 0 hk hb
    simp at h0
    have hlo : 2 ^ 52 ≤ k * 2 ^ (52 - k.log2) := by
      have h := Nat.log2_self_le hk
      have : 2 ^ k.log2 * 2 ^ (52 - k.log2) ≤ k * 2 ^ (52 - k.log2) := Nat.mul_le_mul_right _ h
      rw [← Nat.pow_add, show k.log2 + (52 - k.log2) = 52 by omega] at this
      exact this
    have hhi : k * 2 ^ (52 - k.log2) < 2 ^ 53 := by
      have h := @Nat.lt_log2_self k
      have : k * 2 ^ (52 - k.log2) < 2 ^ (k.log2 + 1) * 2 ^ (52 - k.log2) := (Nat.mul_lt_mul_right (Nat.two_pow_pos _)).2 h
      rw [← Nat.pow_add, show k.log2 + 1 + (52 - k.log2) = 53 by omega] at this
      exact this
    rw [fl, h0]
    generalize k * 2 ^ (52 - k.log2) = t at *
    generalize k.log2 = L at *
    have b1 := binade_eq
    have b2 := infRung_eq
    have b3 := sign_eq
    rw [read_rung double _ (by omega) (by omega) (by omega), least, b1]
    have e3 : ((L + 1022) * 2 ^ 52 + t) % 2 ^ 52 = t - 2 ^ 52 := by omega
    have e4 : ((L + 1022) * 2 ^ 52 + t) / 2 ^ 52 = L + 1023 := by omega
    rw [e3, e4]
    have e5 : 2 ^ 52 + (t - 2 ^ 52) = t := by omega
    have e6 : (-1074 : Int) + ((L + 1023 - 1 : Nat) : Int) = -((52 - L : Nat) : Int) := by omega
    rw [e5, e6]
theorem up_eq (a s t : Nat) (h : s ≤ t) : (a * 2 ^ s) <<< (t - s) = a * 2 ^ t := by
  rw [Nat.shiftLeft_eq, Nat.mul_assoc, ← Nat.pow_add, show s + (t - s) = t by omega]
theorem ofInt_fl (a : Nat) : floatOfInt .f64 (a : Int) = fl a := by
  show double.nearest (decide ((a : Int) < 0)) (a : Int).natAbs 0 = _
  rw [show decide ((a : Int) < 0) = false by simp, Int.natAbs_natCast]
  rfl
end Go.Proofs.YtmiepnnpccpicaaGreat.Flo

namespace Go.Proofs.YtmiepnnpccpicaaGreat.Flo
open Ieee
theorem order_fl (a b : Nat) (ha : a < 2 ^ 53) (hb : b < 2 ^ 53) : FloatKind.f64.format.order (fl a) (fl b) = some (compare a b) := by
  obtain ⟨s, hs⟩ := read_fl a ha
  obtain ⟨t, ht⟩ := read_fl b hb
  show (double.read (fl a)).order (double.read (fl b)) = _
  rw [hs, ht]
  show some (compare (((a * 2 ^ s) <<< (-(s : Int) - min (-(s : Int)) (-(t : Int))).toNat : Nat) : Int) (((b * 2 ^ t) <<< (-(t : Int) - min (-(s : Int)) (-(t : Int))).toNat : Nat) : Int)) = _
  have e1 : (-(s : Int) - min (-(s : Int)) (-(t : Int))).toNat = max s t - s := by omega
  have e2 : (-(t : Int) - min (-(s : Int)) (-(t : Int))).toNat = max s t - t := by omega
  rw [e1, e2, up_eq a s _ (by omega), up_eq b t _ (by omega)]
  have hp : 0 < 2 ^ max s t := Nat.two_pow_pos _
  generalize 2 ^ max s t = g at hp
  congr 1
  have h1 : compare a b = compareOfLessAndEq a b := rfl
  have h2 : compare ((a * g : Nat) : Int) ((b * g : Nat) : Int) = compareOfLessAndEq ((a * g : Nat) : Int) ((b * g : Nat) : Int) := rfl
  rw [h1, h2]
  unfold compareOfLessAndEq
  by_cases hlt : a < b
  · have h : a * g < b * g := (Nat.mul_lt_mul_right hp).2 hlt
    rw [if_pos hlt, if_pos (by omega)]
  · have h : ¬ (a * g < b * g) := fun h => hlt ((Nat.mul_lt_mul_right hp).1 h)
    rw [if_neg hlt, if_neg (by omega)]
    by_cases he : a = b
    · subst he; rw [if_pos rfl, if_pos rfl]
    · have h : ¬ (a * g = b * g) := fun h => he (Nat.eq_of_mul_eq_mul_right hp h)
      rw [if_neg he, if_neg (by omega)]
theorem eq_fl (a b : Nat) (ha : a < 2 ^ 53) (hb : b < 2 ^ 53) : (FloatKind.f64.format.order (fl a) (fl b) == some .eq) = decide (a = b) := by
  rw [order_fl a b ha hb]
  have h1 : compare a b = compareOfLessAndEq a b := rfl
  rw [h1]
  unfold compareOfLessAndEq
  by_cases hlt : a < b
  · rw [if_pos hlt, decide_eq_false (by omega)]; rfl
  · rw [if_neg hlt]
    by_cases he : a = b
    · rw [if_pos he, decide_eq_true he]; rfl
    · rw [if_neg he, decide_eq_false he]; rfl
theorem lt_fl (a b : Nat) (ha : a < 2 ^ 53) (hb : b < 2 ^ 53) : (FloatKind.f64.format.order (fl a) (fl b) == some .lt) = decide (a < b) := by
  rw [order_fl a b ha hb]
  have h1 : compare a b = compareOfLessAndEq a b := rfl
  rw [h1]
  unfold compareOfLessAndEq
  by_cases hlt : a < b
  · rw [if_pos hlt, decide_eq_true hlt]; rfl
  · rw [if_neg hlt, decide_eq_false hlt]
    by_cases he : a = b
    · rw [if_pos he]; rfl
    · rw [if_neg he]; rfl
end Go.Proofs.YtmiepnnpccpicaaGreat.Flo

namespace Go.Proofs.YtmiepnnpccpicaaGreat.Stamp
open Go.RowKit Flo
theorem underWay_any (t r : Nat) (w : World) :
    Calls Tryz.prog 90 #[.agg #[.int .u32 (t : Int), .int .u8 (r : Int)]] w fun e w' => e = .returned (.complex .f64 (fl t) (fl r)) ∧ Below w.heap.size w w' := by
  have f1 : floatOfInt .f64 (t : Int) = fl t := ofInt_fl t
  have f2 : floatOfInt .f64 (r : Int) = fl r := ofInt_fl r
  go_enter Tryz.func90, Tryz.ntmps90
  go_wp2
  go_ret
  exact ⟨rfl, (Below.refl _ _).alloc (Nat.le_refl _) _⟩
theorem check_any (t r : Nat) (w : World) :
    Calls Tryz.prog 72 #[.agg #[.int .u32 (t : Int), .int .u8 (r : Int)]] w fun e w' => e = .returned (.int .i64 (chk t r)) ∧ Below w.heap.size w w' := by
  have q : (decide ((t : Int) < 1) = true ∧ chk t r = 8) ∨ (decide ((t : Int) < 1) = false ∧ decide ((1073741824 : Int) < (t : Int)) = true ∧ chk t r = 8) ∨
      (decide ((t : Int) < 1) = false ∧ decide ((1073741824 : Int) < (t : Int)) = false ∧ decide ((8 : Int) ≤ (r : Int)) = true ∧ chk t r = 8) ∨
      (decide ((t : Int) < 1) = false ∧ decide ((1073741824 : Int) < (t : Int)) = false ∧ decide ((8 : Int) ≤ (r : Int)) = false ∧ chk t r = 0) := by
    unfold chk
    by_cases h1 : t < 1
    · exact .inl ⟨decide_eq_true (by omega), if_neg (by rw [may_iff]; omega)⟩
    · by_cases h2 : 1073741824 < t
      · exact .inr (.inl ⟨decide_eq_false (by omega), decide_eq_true (by omega), if_neg (by rw [may_iff]; omega)⟩)
      · by_cases h3 : 8 ≤ r
        · exact .inr (.inr (.inl ⟨decide_eq_false (by omega), decide_eq_false (by omega), decide_eq_true (by omega), if_neg (by rw [may_iff]; omega)⟩))
        · exact .inr (.inr (.inr ⟨decide_eq_false (by omega), decide_eq_false (by omega), decide_eq_false (by omega), if_pos (by rw [may_iff]; omega)⟩))
  rcases q with ⟨q1, h⟩ | ⟨q1, q2, h⟩ | ⟨q1, q2, q3, h⟩ | ⟨q1, q2, q3, h⟩
  all_goals
    rw [h]
    clear h
    go_enter Tryz.func72, Tryz.ntmps72
    go_wp2
    go_ret
    exact ⟨rfl, (Below.refl _ _).alloc (Nat.le_refl _) _⟩
theorem check_yes (t r : Nat) (h : may t r = true) (w : World) : Calls Tryz.prog 72 #[.agg #[.int .u32 (t : Int), .int .u8 (r : Int)]] w fun e w' => e = .returned (.int .i64 0) ∧ Below w.heap.size w w' := by
  have := check_any t r w
  rwa [chk, if_pos h] at this
theorem check_no (t r : Nat) (h : may t r = false) (w : World) : Calls Tryz.prog 72 #[.agg #[.int .u32 (t : Int), .int .u8 (r : Int)]] w fun e w' => e = .returned (.int .i64 8) ∧ Below w.heap.size w w' := by
  have := check_any t r w
  rwa [chk, if_neg (by rw [h]; simp)] at this
theorem keepS {H : Nat} {w w1 w2 : World} {c0 c1 c2 c3 : Value} (h : Below w1.heap.size w1 w2) (hb : Below H w w1) (hs : H + 2 ≤ w1.heap.size) (h0 : w1.cell? ⟨H, 0, none⟩ = some c0) (h1 : w1.cell? ⟨H, 1, none⟩ = some c1)
    (h2 : w1.cell? ⟨H + 1, 0, none⟩ = some c2) (h3 : w1.cell? ⟨H + 1, 1, none⟩ = some c3) :
    Below H w w2 ∧ H + 2 ≤ w2.heap.size ∧ w2.cell? ⟨H, 0, none⟩ = some c0 ∧ w2.cell? ⟨H, 1, none⟩ = some c1 ∧ w2.cell? ⟨H + 1, 0, none⟩ = some c2 ∧ w2.cell? ⟨H + 1, 1, none⟩ = some c3 :=
  ⟨hb.trans (h.mono (by omega)), Nat.le_trans hs h.size, (h.cell (p := ⟨H, 0, none⟩) (by show H < _; omega)).trans h0, (h.cell (p := ⟨H, 1, none⟩) (by show H < _; omega)).trans h1, (h.cell (p := ⟨H + 1, 0, none⟩) (by show H + 1 < _; omega)).trans h2, (h.cell (p := ⟨H + 1, 1, none⟩) (by show H + 1 < _; omega)).trans h3⟩
theorem keepSd {H : Nat} {w w1 : World} {c0 c1 c2 c3 : Value} (hb : Below H w w1) (hs : H + 2 ≤ w1.heap.size) (h0 : w1.cell? ⟨H, 0, none⟩ = some c0) (h1 : w1.cell? ⟨H, 1, none⟩ = some c1)
    (h2 : w1.cell? ⟨H + 1, 0, none⟩ = some c2) (h3 : w1.cell? ⟨H + 1, 1, none⟩ = some c3) :
    Below H w w1.drew ∧ H + 2 ≤ w1.drew.heap.size ∧ w1.drew.cell? ⟨H, 0, none⟩ = some c0 ∧ w1.drew.cell? ⟨H, 1, none⟩ = some c1 ∧ w1.drew.cell? ⟨H + 1, 0, none⟩ = some c2 ∧ w1.drew.cell? ⟨H + 1, 1, none⟩ = some c3 :=
  ⟨hb.drew, hs, h0, h1, h2, h3⟩
theorem keepS0 (w : World) (c0 c1 c2 c3 : Value) (e : TypeId) :
    Below w.heap.size w ((w.alloc (.cells #[c0, c1] e)).alloc (.cells #[c2, c3] e)) ∧ w.heap.size + 2 ≤ ((w.alloc (.cells #[c0, c1] e)).alloc (.cells #[c2, c3] e)).heap.size ∧ ((w.alloc (.cells #[c0, c1] e)).alloc (.cells #[c2, c3] e)).cell? ⟨w.heap.size, 0, none⟩ = some c0 ∧ ((w.alloc (.cells #[c0, c1] e)).alloc (.cells #[c2, c3] e)).cell? ⟨w.heap.size, 1, none⟩ = some c1 ∧ ((w.alloc (.cells #[c0, c1] e)).alloc (.cells #[c2, c3] e)).cell? ⟨w.heap.size + 1, 0, none⟩ = some c2 ∧ ((w.alloc (.cells #[c0, c1] e)).alloc (.cells #[c2, c3] e)).cell? ⟨w.heap.size + 1, 1, none⟩ = some c3 := by
  have hb : Below (w.alloc (.cells #[c0, c1] e)).heap.size (w.alloc (.cells #[c0, c1] e)) ((w.alloc (.cells #[c0, c1] e)).alloc (.cells #[c2, c3] e)) := (Below.refl _ _).alloc (Nat.le_refl _) _
  refine ⟨((Below.refl _ _).alloc (Nat.le_refl _) _).alloc (by simp) _, by simp, ?_, ?_, ?_, ?_⟩
  · exact (hb.cell (p := ⟨w.heap.size, 0, none⟩) (by simp)).trans (cell_of_row _ w.heap.size 0 #[c0, c1] e _ (heap_alloc_new w _))
  · exact (hb.cell (p := ⟨w.heap.size, 1, none⟩) (by simp)).trans (cell_of_row _ w.heap.size 1 #[c0, c1] e _ (heap_alloc_new w _))
  · simp
  · simp
set_option maxHeartbeats 1000000 in
theorem less_any (t r u s : Nat) (ht : t < 4294967296) (hr : r < 256) (hu : u < 4294967296) (hs : s < 256) (w : World) :
    Calls Tryz.prog 49 #[.agg #[.int .u32 (t : Int), .int .u8 (r : Int)], .agg #[.int .u32 (u : Int), .int .u8 (s : Int)]] w fun e w' => e = .returned (.bool (less t r u s)) ∧ Below w.heap.size w w' := by
  have g1 := eq_fl t u (by omega) (by omega)
  have g2 := lt_fl r s (by omega) (by omega)
  have g3 := lt_fl t u (by omega) (by omega)
  obtain ⟨q, hq⟩ : ∃ q, q = less t r u s := ⟨_, rfl⟩
  have hl : (decide (t = u) = true ∧ decide (r < s) = q) ∨ (decide (t = u) = false ∧ decide (t < u) = q) := by
    rw [hq]
    by_cases h : t = u
    · left; refine ⟨decide_eq_true h, ?_⟩; unfold less; congr 1; simp; omega
    · right; refine ⟨decide_eq_false h, ?_⟩; unfold less; congr 1; simp; omega
  rw [← hq]
  clear hq
  have S0 := keepS0 w (.int .u32 (t : Int)) (.int .u8 (r : Int)) (.int .u32 (u : Int)) (.int .u8 (s : Int)) 25
  have HS0 := Lib.hid S0
  clear S0
  rcases hl with ⟨k1, k2⟩ | ⟨k1, k2⟩
  · rw [k1] at g1
    rw [k2] at g2
    clear k1 k2 g3 ht hr hu hs
    have G1 := Lib.hid g1
    have G2 := Lib.hid g2
    clear g1 g2
    go_enter Tryz.func49, Tryz.ntmps49
    go_wp2
    go_region_held3 (fun w' => Below w.heap.size w w' ∧ w.heap.size + 2 ≤ w'.heap.size ∧ w'.cell? ⟨w.heap.size, 0, none⟩ = some (.int .u32 (t : Int)) ∧ w'.cell? ⟨w.heap.size, 1, none⟩ = some (.int .u8 (r : Int)) ∧ w'.cell? ⟨w.heap.size + 1, 0, none⟩ = some (.int .u32 (u : Int)) ∧ w'.cell? ⟨w.heap.size + 1, 1, none⟩ = some (.int .u8 (s : Int)))
      (first | exact keepSd HS0.out.1 HS0.out.2.1 HS0.out.2.2.1 HS0.out.2.2.2.1 HS0.out.2.2.2.2.1 HS0.out.2.2.2.2.2 | (go_split_ands; refine keepSd ?_ ?_ ?_ ?_ ?_ ?_ <;> assumption) | (go_split_ands; exact keepS (by assumption) (by assumption) (by assumption) (by assumption) (by assumption) (by assumption) (by assumption)))
      ((first | (go_at_call 90; refine (underWay_any _ _ _).mono ?_; rintro e w2 ⟨rfl, b2⟩)))
    have g1 := G1.out
    have g2 := G2.out
    go_wp2
    go_ret
    go_split_ands
    exact ⟨rfl, by assumption⟩
  · rw [k1] at g1
    rw [k2] at g3
    clear k1 k2 g2 ht hr hu hs
    have G1 := Lib.hid g1
    have G2 := Lib.hid g3
    clear g1 g3
    go_enter Tryz.func49, Tryz.ntmps49
    go_wp2
    go_region_held3 (fun w' => Below w.heap.size w w' ∧ w.heap.size + 2 ≤ w'.heap.size ∧ w'.cell? ⟨w.heap.size, 0, none⟩ = some (.int .u32 (t : Int)) ∧ w'.cell? ⟨w.heap.size, 1, none⟩ = some (.int .u8 (r : Int)) ∧ w'.cell? ⟨w.heap.size + 1, 0, none⟩ = some (.int .u32 (u : Int)) ∧ w'.cell? ⟨w.heap.size + 1, 1, none⟩ = some (.int .u8 (s : Int)))
      (first | exact keepSd HS0.out.1 HS0.out.2.1 HS0.out.2.2.1 HS0.out.2.2.2.1 HS0.out.2.2.2.2.1 HS0.out.2.2.2.2.2 | (go_split_ands; refine keepSd ?_ ?_ ?_ ?_ ?_ ?_ <;> assumption) | (go_split_ands; exact keepS (by assumption) (by assumption) (by assumption) (by assumption) (by assumption) (by assumption) (by assumption)))
      ((first | (go_at_call 90; refine (underWay_any _ _ _).mono ?_; rintro e w2 ⟨rfl, b2⟩)))
    have g1 := G1.out
    have g2 := G2.out
    go_wp2
    go_ret
    go_split_ands
    exact ⟨rfl, by assumption⟩
end Go.Proofs.YtmiepnnpccpicaaGreat.Stamp

namespace Go.Proofs.YtmiepnnpccpicaaGreat.Stamp
open Go.RowKit Flo
/-- A block of two cells, behind calls that write nothing that was there. -/
theorem two_cells {w w2 : World} {c0 c1 : Value} {e : TypeId} (h : Below (w.alloc (.cells #[c0, c1] e)).heap.size (w.alloc (.cells #[c0, c1] e)) w2) :
    w2.cell? ⟨w.heap.size, 0, none⟩ = some c0 ∧ w2.cell? ⟨w.heap.size, 1, none⟩ = some c1 ∧ w2.frozen? ⟨w.heap.size, 0, none⟩ = false ∧ w2.frozen? ⟨w.heap.size, 1, none⟩ = false := by
  have hh : w2.heap[w.heap.size]? = some (.cells #[c0, c1] e (0, 0)) := (h.block w.heap.size (by simp)).trans (heap_alloc_new w _)
  refine ⟨cell_of_row _ w.heap.size 0 #[c0, c1] e _ hh, cell_of_row _ w.heap.size 1 #[c0, c1] e _ hh, ?_, ?_⟩
  · simp [World.frozen?, hh]
  · simp [World.frozen?, hh]
theorem below_of3 {w w3 : World} {o : Obj} (h : Below (w.alloc o).heap.size (w.alloc o) w3) : Below w.heap.size w w3 :=
  ((Below.refl _ _).alloc (Nat.le_refl _) o).trans (h.mono (by simp))
theorem set2 {w w3 : World} {o : Obj} {c0 c1 : Value} (h : Below (w.alloc o).heap.size (w.alloc o) w3) : Below w.heap.size w ((w3.setCell ⟨w.heap.size, 0, none⟩ c0).setCell ⟨w.heap.size, 1, none⟩ c1) :=
  ((below_of3 h).setCell (p := ⟨w.heap.size, 0, none⟩) (Nat.le_refl _) _).setCell (p := ⟨w.heap.size, 1, none⟩) (Nat.le_refl _) _
end Go.Proofs.YtmiepnnpccpicaaGreat.Stamp
