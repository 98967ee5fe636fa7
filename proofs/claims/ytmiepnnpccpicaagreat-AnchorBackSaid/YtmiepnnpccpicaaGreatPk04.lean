/- Slices of elements that came in: what they hold, and how long the slices in them can be. Conditions: none. octavo/op and octavoref09: Content, Own, Same, Twin: what each answers. Conditions: the places' cells are runs. Places: a stamp put behind, beginnings, rising stamps, a child's place in the order. Conditions: none. octavo/op.Needs, octavoref09: May, Check, Many, Stands, Needs: what each answers. Conditions: the places' cells are runs. Lists of operations: what a slice value holds, places of the call's own. Conditions: none. Spans of times, in plain words: which may be, their times, one way of writing, one put to them, one taken away, how many. Conditions: none. Clocks taken one by one, whether they may be, as a Bool; the clock of stamps, and the stamps of a clock. Conditions: none. Bags in plain words: which may be, one more in its place, two together, without stamps. Conditions: no -/
import Derived.Test.YtmiepnnpccpicaaGreatChecked
import Derived.WalkKit
import Derived.WalkSpells
import Derived.WalkLawsBesides
import Derived.Laws.BytesArg
import Derived.Lib.Hide
import Derived.Test.YtmiepnnpccpicaaGreatRows
import Derived.ProofKit
import Derived.SizedLaws
import Derived.Deep.LoopGhost
import Derived.Laws.AppendOwnNone
import Derived.Laws.OwnMore
import Derived.WideShapes
import Derived.Lib.SmallJoins
import Derived.Maps.AppendAt
import Derived.RegionTactic
import Derived.Deep.RegionHeld3
import Derived.Deep.DrawnRows
import Derived.Deep.QuietTactic
import Derived.BigQuiet
import Derived.IntWalk
import Derived.Deep.DeepCutAuto
import Derived.ScopeJumps
import Derived.Test.YtmiepnnpccpicaaGreatProg
import Derived.LoopTactic
import Derived.Laws.EntriesVeiled
import Derived.RowKit
import Derived.Test.YtmiepnnpccpicaaGreatPk03
import Derived.Test.YtmiepnnpccpicaaGreatPk01
import Derived.Test.YtmiepnnpccpicaaGreatPk02

namespace Go.Proofs.YtmiepnnpccpicaaGreat
open Go.Joins Go.ChangeShapes Go.WideShapes Go.ChangeAt Go.RowKit Go.Deep Go.Proofs.YtmiepnnpccpicaaGreat.Ops
/-- A datum's slices are each within reach. -/
def Fits {H : Type} (t : TypeId) (d : DataW H) : Prop := ∀ n ∈ DataW.weights Tryz.prog t d, n ≤ reachBytes
theorem weightsAll_in {H : Type} {P : Program} {e : TypeId} {d : DataW H} : ∀ {l : List (DataW H)}, d ∈ l → ∀ n ∈ DataW.weights P e d, n ∈ DataW.weightsAll P e l
  | x :: l, h, n, hn => by
    simp only [DataW.weightsAll, List.mem_append]
    rcases List.mem_cons.1 h with rfl | h
    · exact .inl hn
    · exact .inr (weightsAll_in h n hn)
theorem fits_slice {H : Type} {ts te : TypeId} (hu : Tryz.prog.underlying ts = some (.slice te)) {ds sp : List (DataW H)} (h : Fits ts (.slice ds sp)) :
    (ds.length + sp.length) * Tryz.prog.bytesOf te ≤ reachBytes ∧ ∀ d ∈ ds, Fits te d := by
  unfold Fits at h
  simp only [DataW.weights, hu, List.mem_cons, List.mem_append] at h
  exact ⟨h _ (.inl rfl), fun d hd n hn => h n (.inr (.inl (weightsAll_in hd n hn)))⟩
theorem rows_flat {α : Type} (E : Enc α) {W : World} {g : Nat → List Value} {f : Nat → α} : ∀ (k s : Nat), (∀ i, s ≤ i → i < s + k → E.inn W (g i) (f i)) → E.rows W ((List.range' s k).flatMap g) ((List.range' s k).map f)
  | 0, _, _ => rfl
  | k + 1, s, h => by
    rw [List.range'_succ, List.flatMap_cons, List.map_cons]
    exact ⟨_, _, rfl, h s (Nat.le_refl _) (by omega), rows_flat E k (s + 1) (fun i h1 h2 => h i (by omega) (by omega))⟩
theorem flat_len {sz : Nat} {g : Nat → List Value} : ∀ (k s : Nat), (∀ i, s ≤ i → i < s + k → (g i).length = sz) → ((List.range' s k).flatMap g).length = k * sz
  | 0, _, _ => by simp
  | k + 1, s, h => by
    rw [List.range'_succ, List.flatMap_cons, List.length_append, h s (Nat.le_refl _) (by omega), flat_len k (s + 1) (fun i h1 h2 => h i (by omega) (by omega)), Nat.succ_mul]
    omega
theorem flat_get {sz : Nat} {g : Nat → List Value} : ∀ (k s i j : Nat), i < k → j < sz → (∀ i, s ≤ i → i < s + k → (g i).length = sz) → ((List.range' s k).flatMap g)[i * sz + j]? = (g (s + i))[j]?
  | 0, _, _, _, h, _, _ => by omega
  | k + 1, s, 0, j, _, hj, h => by
    show _ = (g s)[j]?
    rw [List.range'_succ, List.flatMap_cons, Nat.zero_mul, Nat.zero_add, List.getElem?_append_left (by rw [h s (Nat.le_refl _) (by omega)]; exact hj)]
  | k + 1, s, i + 1, j, hi, hj, h => by
    have hs := h s (Nat.le_refl _) (by omega)
    rw [List.range'_succ, List.flatMap_cons, List.getElem?_append_right (by rw [hs, Nat.succ_mul]; omega), hs, show (i + 1) * sz + j - sz = i * sz + j by rw [Nat.succ_mul]; omega,
      flat_get k (s + 1) i j (by omega) hj (fun i h1 h2 => h i (by omega) (by omega)), show s + 1 + i = s + (i + 1) by omega]
set_option maxRecDepth 100000 in
/-- What a slice's reading gives, out of what each element's gives. -/
theorem seq_cells {α : Type} (E : Enc α) {ts te : TypeId} (hu : Tryz.prog.underlying ts = some (.slice te)) (hc : Tryz.prog.cellsOf te = E.sz) {H : Type} {enc : TypeId × Value → H} {W : World} {R : α → Prop}
    (hel : ∀ (fuel : Nat) (cs : List Value) (y : DataW H × List MemPlace), cs.length = E.sz → DataW.trod enc Tryz.prog W 0 (fun _ => true) true fuel te cs = some y → ∃ a, E.inn W cs a ∧ (Fits te y.1 → R a))
    {v : Value} {fuel : Nat} {y : DataW H × List MemPlace} (hf : DataW.trod enc Tryz.prog W 0 (fun _ => true) true fuel ts [v] = some y) :
    ∃ (ao : Option Addr) (cap : Nat) (l : List α), v = .slice ao l.length cap ∧ Seq E W (.slice ao l.length cap) l ∧ (Fits ts y.1 → l.length * Tryz.prog.bytesOf te ≤ reachBytes ∧ ∀ a ∈ l, R a) := by
  have hp := E.pos
  rcases open_slice hu hf with ⟨hcs, hx⟩ | ⟨a, len, cap, m, n, D, Pl, hcs, _, hl, hm, hmm, hx, hi⟩
  · obtain rfl : v = .slice none 0 0 := by simpa using hcs
    exact ⟨none, 0, [], rfl, Seq.nil E W, fun _ => ⟨by simp, by simp⟩⟩
  · obtain rfl : v = .slice (some a) len cap := by simpa using hcs
    simp only [if_true] at hmm
    subst hmm
    unfold maxLen at hm
    by_cases hl0 : len = 0
    · subst hl0
      exact ⟨some a, m, [], rfl, ⟨[], ⟨by simp, some a, m, rfl, by omega, hm, by simp, .inl rfl⟩, rfl⟩, fun _ => ⟨by simp, by simp⟩⟩
    have each : ∀ i, i < m → ∃ c x, c.length = E.sz ∧ (∀ j, j < E.sz → W.cell? ((a.add (i * E.sz)).add j) = c[j]?) ∧ E.inn W c x ∧ (Fits te (D i) → R x) := by
      intro i him
      obtain ⟨cs, h1, h2⟩ := hi i him
      rw [hc] at h1
      obtain ⟨_, hcl, hat⟩ := World.cells?_some h1
      obtain ⟨x, h3, h4⟩ := hel n cs _ hcl h2
      exact ⟨cs, x, hcl, hat, h3, h4⟩
    have hm0 : 0 < m := by omega
    have hsel : ∃ (g : Nat → List Value) (f : Nat → α), ∀ i, i < m → (g i).length = E.sz ∧ (∀ j, j < E.sz → W.cell? ((a.add (i * E.sz)).add j) = (g i)[j]?) ∧ E.inn W (g i) (f i) ∧ (Fits te (D i) → R (f i)) :=
      ⟨fun i => if h : i < m then Classical.choose (each i h) else Classical.choose (each 0 hm0), fun i => if h : i < m then Classical.choose (Classical.choose_spec (each i h)) else Classical.choose (Classical.choose_spec (each 0 hm0)),
        fun i h => by simp only [h, dif_pos]; exact Classical.choose_spec (Classical.choose_spec (each i h))⟩
    obtain ⟨g, f, hgf⟩ := hsel
    have hxl : ((List.range' 0 len).map f).length = len := by simp
    have hgl : ∀ i, 0 ≤ i → i < 0 + len → (g i).length = E.sz := fun i _ h => (hgf i (by omega)).1
    have hcl := flat_len (sz := E.sz) (g := g) len 0 hgl
    refine ⟨some a, m, (List.range' 0 len).map f, by rw [hxl], ⟨(List.range' 0 len).flatMap g, ⟨by rw [hxl, hcl], some a, m, rfl, by omega, hm, by simp, ?_⟩, rows_flat E len 0 (fun i _ h => (hgf i (by omega)).2.2.1)⟩, ?_⟩
    · right
      obtain ⟨c0, x0, hc0, ha0, _, _⟩ := each 0 hm0
      obtain ⟨u0, hu0⟩ : ∃ u, c0[0]? = some u := ⟨c0[0]'(by omega), List.getElem?_eq_getElem (by omega)⟩
      have h00 := (ha0 0 hp).trans hu0
      obtain ⟨b, off, spot⟩ := a
      have hspot : spot = none := by simpa [Addr.add] using World.cell?_spot h00
      subst hspot
      refine ⟨b, off, rfl, World.block_lt_of_cell? W ⟨b, off, none⟩ (by simpa [Addr.add] using h00), fun j u hj => ?_⟩
      have hjl : j < ((List.range' 0 len).flatMap g).length := (List.getElem?_eq_some_iff.1 hj).1
      rw [hcl] at hjl
      have hij : j = (j / E.sz) * E.sz + j % E.sz := by rw [Nat.mul_comm]; exact (Nat.div_add_mod j E.sz).symm
      have hi1 : j / E.sz < len := Nat.div_lt_of_lt_mul (by rw [Nat.mul_comm]; exact hjl)
      have hj1 : j % E.sz < E.sz := Nat.mod_lt _ hp
      rw [hij, flat_get len 0 (j / E.sz) (j % E.sz) hi1 hj1 hgl, Nat.zero_add, ← (hgf (j / E.sz) (by omega)).2.1 _ hj1] at hj
      rw [← hj, add_plain, add_plain, Nat.add_assoc, ← hij]
    · intro hw
      rw [hx] at hw
      obtain ⟨h1, h2⟩ := fits_slice hu hw
      refine ⟨Nat.le_trans (Nat.mul_le_mul_right _ (by simp)) h1, fun x hx => ?_⟩
      obtain ⟨i, hi2, rfl⟩ := List.mem_map.1 hx
      have hil : i < len := by have := List.mem_range'_1.1 hi2; omega
      exact (hgf i (by omega)).2.2.2 (h2 _ (List.mem_map.2 ⟨i, List.mem_range.2 hil, rfl⟩))
def runE : Enc Run where
  sz := 3
  pos := by decide
  inn _ cs x := cs = [.int .u32 (x.t : Int), .int .u8 (x.r : Int), .int .i64 x.m]
  len := by rintro w cs x rfl; rfl
  one := by
    rintro w cs x rfl u hu
    simp only [List.mem_cons, List.not_mem_nil, or_false] at hu
    rcases hu with rfl | rfl | rfl <;> rfl
  keep := by rintro w w' cs x _ h; exact h
theorem runE_rows {w : World} : ∀ {cs : List Value} {l : List Run}, runE.rows w cs l → cs = runs l
  | _, [], h => h
  | _, _ :: _, ⟨c, d, h1, h2, h3⟩ => by
    rw [h1, show c = _ from h2, runE_rows h3]
    rfl
set_option maxRecDepth 100000 in
theorem kit_bytesRun : Tryz.prog.bytesOf 40 = 16 := by kernel_rfl
set_option maxRecDepth 100000 in
theorem kit_bytesOp : Tryz.prog.bytesOf 47 = 48 := by kernel_rfl
set_option maxRecDepth 100000 in
theorem run_cells {H : Type} {enc : TypeId × Value → H} {W : World} {fuel : Nat} {cs : List Value} {y : DataW H × List MemPlace} (hcl : cs.length = 3)
    (ht : DataW.trod enc Tryz.prog W 0 (fun _ => true) true fuel 40 cs = some y) : ∃ x : Run, cs = [.int .u32 (x.t : Int), .int .u8 (x.r : Int), .int .i64 x.m] := by
  obtain ⟨y0, y1, y2, n2, -, hlen, h0, h1, h2⟩ := trod_struct3 Tryz.underlying40 ht
  match cs, hcl with
  | [c0, c1, c2], _ =>
    have h0' : DataW.trod enc Tryz.prog W 0 (fun _ => true) true n2 23 [c0] = some y0 := h0
    have h1' : DataW.trod enc Tryz.prog W 0 (fun _ => true) true n2 5 [c1] = some y1 := h1
    have h2' : DataW.trod enc Tryz.prog W 0 (fun _ => true) true n2 3 [c2] = some y2 := h2
    obtain ⟨z, e0, -, wz⟩ := DataW.trod_int Tryz.underlying23 h0'
    obtain ⟨u, e1, -, wu⟩ := DataW.trod_int Tryz.underlying5 h1'
    obtain ⟨mm, e2, -, wm⟩ := DataW.trod_int Tryz.underlying3 h2'
    simp at e0 e1 e2
    subst e0 e1 e2
    have hmb : -9223372036854775808 ≤ mm ∧ mm ≤ 9223372036854775807 := by simpa [Lit.wf, IntKind.min, IntKind.max, IntKind.signed, IntKind.bits] using wm
    obtain ⟨tn, rfl, hn⟩ := wf_u32 wz
    obtain ⟨q, rfl, hq⟩ := wf_u8 wu
    exact ⟨⟨tn, q, mm, hn, hq, hmb⟩, rfl⟩
set_option maxRecDepth 100000 in
/-- A slice of runs that is read, and how long it can be. -/
theorem runs_fits {H : Type} {enc : TypeId × Value → H} {W : World} {v : Value} {fuel : Nat} {y : DataW H × List MemPlace}
    (hf : DataW.trod enc Tryz.prog W 0 (fun _ => true) true fuel 26 [v] = some y) :
    ∃ (ao : Option Addr) (cap : Nat) (l : List Run), v = .slice ao l.length cap ∧ Runs W (.slice ao l.length cap) l ∧ (Fits 26 y.1 → l.length ≤ 8796093022208) := by
  obtain ⟨ao, cap, l, h1, ⟨cs, h2, h3⟩, h4⟩ := seq_cells (R := fun _ => True) runE Tryz.underlying26 kit_cellsRun (fun fuel cs y hcl ht => by
    obtain ⟨x, hx⟩ := run_cells hcl ht
    exact ⟨x, hx, fun _ => trivial⟩) hf
  rw [runE_rows h3] at h2
  refine ⟨ao, cap, l, h1, h2, fun h => ?_⟩
  have h5 := (h4 h).1
  rw [kit_bytesRun] at h5
  unfold reachBytes at h5
  omega
set_option maxRecDepth 100000 in
theorem op_cells {H : Type} {enc : TypeId × Value → H} {W : World} {fuel : Nat} {cs : List Value} {y : DataW H × List MemPlace} (hcl : cs.length = 5)
    (ht : DataW.trod enc Tryz.prog W 0 (fun _ => true) true fuel 47 cs = some y) : ∃ o : Opn, opE.inn W cs o ∧ (Fits 47 y.1 → o.pl.length ≤ 8796093022208) := by
  obtain ⟨y0, y1, y2, y3, n, hy, -, h0, h1, h2, h3⟩ := trod_struct4 Tryz.underlying47 ht
  match cs, hcl with
  | [c0, c1, c2, c3, c4], _ =>
    have h0' : DataW.trod enc Tryz.prog W 0 (fun _ => true) true n 5 [c0] = some y0 := h0
    have h1' : DataW.trod enc Tryz.prog W 0 (fun _ => true) true n 25 [c1, c2] = some y1 := h1
    have h2' : DataW.trod enc Tryz.prog W 0 (fun _ => true) true n 26 [c3] = some y2 := h2
    have h3' : DataW.trod enc Tryz.prog W 0 (fun _ => true) true n 3 [c4] = some y3 := h3
    obtain ⟨z0, z1, n2, -, -, g0, g1⟩ := trod_struct2 Tryz.underlying25 h1'
    have g0' : DataW.trod enc Tryz.prog W 0 (fun _ => true) true n2 23 [c1] = some z0 := g0
    have g1' : DataW.trod enc Tryz.prog W 0 (fun _ => true) true n2 5 [c2] = some z1 := g1
    obtain ⟨k, e0, -, wk⟩ := DataW.trod_int Tryz.underlying5 h0'
    obtain ⟨t, e1, -, wt⟩ := DataW.trod_int Tryz.underlying23 g0'
    obtain ⟨r, e2, -, wr⟩ := DataW.trod_int Tryz.underlying5 g1'
    obtain ⟨q, e4, -, wq⟩ := DataW.trod_int Tryz.underlying3 h3'
    obtain ⟨ao, cap, l, e3, hl, hb⟩ := runs_fits h2'
    simp at e0 e1 e2 e4
    subst e0 e1 e2 e3 e4
    have hq : -9223372036854775808 ≤ q ∧ q ≤ 9223372036854775807 := by simpa [Lit.wf, IntKind.min, IntKind.max, IntKind.signed, IntKind.bits] using wq
    obtain ⟨k, rfl, hk⟩ := wf_u8 wk
    obtain ⟨t, rfl, ht2⟩ := wf_u32 wt
    obtain ⟨r, rfl, hr⟩ := wf_u8 wr
    refine ⟨⟨k, t, r, l, q, hk, ht2, hr, hq⟩, ⟨_, rfl, hl⟩, fun h => hb (fun n hn => h n ?_)⟩
    rw [hy]
    simp only [DataW.weights, Tryz.underlying47, List.map_cons, DataW.weightsEach, List.mem_append]
    exact .inr (.inr (.inl hn))
set_option maxRecDepth 100000 in
/-- An argument that is a slice of operations. -/
theorem ops_of {H : Type} {enc : TypeId × Value → H} {W : World} {v : Value} {d : DataW H} {p : List MemPlace} {base : Nat}
    (hv : Value.okWide Tryz.prog W .any base 22 v) (h : DataW.Trod enc Tryz.prog W 0 (fun _ => true) true 22 v d p) :
    ∃ (ao : Option Addr) (cap : Nat) (l : List Opn), v = .slice ao l.length cap ∧ OpL W (.slice ao l.length cap) l ∧ (Fits 22 d → l.length ≤ 2932031007402 ∧ ∀ o ∈ l, o.pl.length ≤ 8796093022208) := by
  obtain ⟨a0, len, cap, rfl⟩ := okWide_slice Tryz.underlying22 hv
  obtain ⟨fuel, hf⟩ := h
  rw [show (Value.slice a0 len cap).cells.toList = [Value.slice a0 len cap] by simp [Value.cells]] at hf
  obtain ⟨ao, cap, l, h1, h2, h3⟩ := seq_cells (R := fun o : Opn => o.pl.length ≤ 8796093022208) opE Tryz.underlying22 kit_cellsOp (fun fuel cs y hcl ht => op_cells hcl ht) hf
  refine ⟨ao, cap, l, h1, h2, fun h => ?_⟩
  obtain ⟨h4, h5⟩ := h3 h
  rw [kit_bytesOp] at h4
  unfold reachBytes at h4
  exact ⟨by omega, h5⟩
end Go.Proofs.YtmiepnnpccpicaaGreat

namespace Go.Proofs.YtmiepnnpccpicaaGreat.Ops
open Go.RowKit Stamp Go.Proofs.YtmiepnnpccpicaaGreat.Place
attribute [local go_sem ↓] Go.wp_at_zero Go.wp_at_succ
theorem op_base {w : World} {b b' : Nat} {e : TypeId} {v : Value} {sz n : Nat} {cs : List Value} (h : w.ownsRow b e sz v n cs) (hb : b' ≤ b) : w.ownsRow b' e sz v n cs :=
  ⟨h.1, h.2.imp id fun ⟨g, cap, cur, h1, h2, h3⟩ => ⟨g, cap, cur, h1, by omega, h3⟩⟩
theorem op_set {w : World} {B H o n sz : Nat} {e : TypeId} {v d : Value} {cs : List Value} (h : w.ownsRow B e sz v n cs) (hH : H < B) : (w.setCell ⟨H, o, none⟩ d).ownsRow B e sz v n cs :=
  ownsRow_setCell_below h (a := ⟨H, o, none⟩) hH d
/-- Five cells of a block stored. -/
def put5 (X : World) (g : Nat) (d0 d1 d2 d3 d4 : Value) : World := ((((X.setCell ⟨g, 0, none⟩ d0).setCell ⟨g, 1, none⟩ d1).setCell ⟨g, 2, none⟩ d2).setCell ⟨g, 3, none⟩ d3).setCell ⟨g, 4, none⟩ d4
theorem put5_same {X : World} {g : Nat} {c0 c1 c2 c3 c4 : Value} (d0 d1 d2 d3 d4 : Value) {e : TypeId} (h : X.heap[g]? = some (.cells #[c0, c1, c2, c3, c4] e)) : (put5 X g d0 d1 d2 d3 d4).heap[g]? = some (.cells #[d0, d1, d2, d3, d4] e) := by
  have h0 := heap_setCell_same X g 0 _ _ d0 h
  have h1 := heap_setCell_same _ g 1 _ _ d1 h0
  have h2 := heap_setCell_same _ g 2 _ _ d2 h1
  have h3 := heap_setCell_same _ g 3 _ _ d3 h2
  have h4 := heap_setCell_same _ g 4 _ _ d4 h3
  exact h4
theorem put5_below {B g : Nat} {W X : World} (d0 d1 d2 d3 d4 : Value) (hg : B ≤ g) (h : Below B W X) : Below B W (put5 X g d0 d1 d2 d3 d4) :=
  ((((h.setCell (p := ⟨g, 0, none⟩) hg _).setCell (p := ⟨g, 1, none⟩) hg _).setCell (p := ⟨g, 2, none⟩) hg _).setCell (p := ⟨g, 3, none⟩) hg _).setCell (p := ⟨g, 4, none⟩) hg _
theorem put5_own {X : World} {B g sz n : Nat} {e : TypeId} {v : Value} {cs : List Value} (d0 d1 d2 d3 d4 : Value) (h : X.ownsRow B e sz v n cs) (hg : g < B) : (put5 X g d0 d1 d2 d3 d4).ownsRow B e sz v n cs :=
  op_set (op_set (op_set (op_set (op_set h hg) hg) hg) hg) hg
theorem cells5 {X : World} {g : Nat} {c0 c1 c2 c3 c4 : Value} {e : TypeId} (h : X.heap[g]? = some (.cells #[c0, c1, c2, c3, c4] e)) :
    X.cell? ⟨g, 0, none⟩ = some c0 ∧ X.cell? ⟨g, 1, none⟩ = some c1 ∧ X.cell? ⟨g, 2, none⟩ = some c2 ∧ X.cell? ⟨g, 3, none⟩ = some c3 ∧ X.cell? ⟨g, 4, none⟩ = some c4 :=
  ⟨cell_of_row _ g 0 _ e _ h, cell_of_row _ g 1 _ e _ h, cell_of_row _ g 2 _ e _ h, cell_of_row _ g 3 _ e _ h, cell_of_row _ g 4 _ e _ h⟩
theorem free5 {X : World} {g : Nat} {cs : Array Value} {e : TypeId} (h : X.heap[g]? = some (.cells cs e)) (o : Nat) : X.frozen? ⟨g, o, none⟩ = false := by simp [World.frozen?, h]
def contB (o : Opn) : Bool := decide (o.k = 1) || decide (o.k = 3)
/-- Are all fields the same? -/
def sameB (a b : Opn) : Bool := decide (a.k = b.k ∧ (a.t = b.t ∧ a.r = b.r) ∧ a.pl = b.pl ∧ a.p = b.p)
theorem sameB_iff (a b : Opn) : sameB a b = true ↔ a = b := by
  unfold sameB
  rw [decide_eq_true_iff]
  exact ⟨fun h => Opn.ext' h.1 h.2.1.1 h.2.1.2 h.2.2.1 h.2.2.2, fun h => by rw [h]; exact ⟨rfl, ⟨rfl, rfl⟩, rfl, rfl⟩⟩
theorem oContent_any {v : Value} {o : Opn} (w : World) :
    Calls Tryz.prog 111 #[opv o v] w fun e w' => e = .returned (.bool (contB o)) ∧ Below w.heap.size w w' := by
  obtain ⟨k, t, r, l, p, hk, ht, hr, hp⟩ := o
  unfold opv contB
  simp only
  have B0 : Hid (Below w.heap.size w (w.alloc (.cells #[.int .u8 (k : Int), .int .u32 (t : Int), .int .u8 (r : Int), v, .int .i64 p] 47))) := (Below.refl _ _).alloc (Nat.le_refl _) _
  by_cases h1 : k = 1
  · subst h1
    rw [show (decide (1 = 1) || decide (1 = 3)) = true from rfl]
    go_enter Tryz.func111, Tryz.ntmps111
    go_wp2
    go_ret
    exact ⟨rfl, B0.out⟩
  · have q1 : ((k : Int) == 1) = false := by simp; omega
    by_cases h3 : k = 3
    · subst h3
      rw [show (decide (3 = 1) || decide (3 = 3)) = true from rfl]
      go_enter Tryz.func111, Tryz.ntmps111
      go_wp2
      go_ret
      exact ⟨rfl, B0.out⟩
    · have q3 : ((k : Int) == 3) = false := by simp; omega
      rw [decide_eq_false h1, decide_eq_false h3, Bool.or_false]
      go_enter Tryz.func111, Tryz.ntmps111
      go_wp2
      go_ret
      exact ⟨rfl, B0.out⟩
/-- Is its place its own? -/
def ownB (o : Opn) : Bool := decide (o.k = 1) || decide (o.k = 2)
set_option maxHeartbeats 4000000 in
theorem oTwin_any {v : Value} {o : Opn} {w : World} (hv : Runs w v o.pl) (hl : o.pl.length ≤ 8796093022208) :
    Calls Tryz.prog 42 #[opv o v] w fun e w' => ∃ v', e = .returned (opv o v') ∧ w'.ownsRow w.heap.size 40 3 v' o.pl.length (runs o.pl) ∧ Below w.heap.size w w' := by
  obtain ⟨k, t, r, l, p, hk, ht, hr, hp⟩ := o
  unfold opv
  simp only at hv hl ⊢
  have C : Hid (∀ W : World, Below w.heap.size w W → Calls Tryz.prog 83 #[v] W fun e w' => ∃ v', e = .returned v' ∧ w'.ownsRow W.heap.size 40 3 v' l.length (runs l) ∧ Below W.heap.size W w') := fun W hW => ptwin_any (hv.keeps hW) hl
  have KK : Hid (∀ W : World, Below ((w.alloc (.cells #[.int .u8 (k : Int), .int .u32 (t : Int), .int .u8 (r : Int), v, .int .i64 p] 47)).alloc (.cells #[.int .u8 0, .int .u32 0, .int .u8 0, .slice none 0 0, .int .i64 0] 47)).heap.size ((w.alloc (.cells #[.int .u8 (k : Int), .int .u32 (t : Int), .int .u8 (r : Int), v, .int .i64 p] 47)).alloc (.cells #[.int .u8 0, .int .u32 0, .int .u8 0, .slice none 0 0, .int .i64 0] 47)) W →
      W.heap[w.heap.size]? = some (.cells #[.int .u8 (k : Int), .int .u32 (t : Int), .int .u8 (r : Int), v, .int .i64 p] 47) ∧ W.heap[w.heap.size + 1]? = some (.cells #[.int .u8 0, .int .u32 0, .int .u8 0, .slice none 0 0, .int .i64 0] 47)) := fun W hW =>
    ⟨blk_below hW (blk_old (blk_new rfl)), blk_below hW (blk_new (by simp))⟩
  have B0 : Hid (Below w.heap.size w ((w.alloc (.cells #[.int .u8 (k : Int), .int .u32 (t : Int), .int .u8 (r : Int), v, .int .i64 p] 47)).alloc (.cells #[.int .u8 0, .int .u32 0, .int .u8 0, .slice none 0 0, .int .i64 0] 47))) := ((Below.refl _ _).alloc (Nat.le_refl _) _).alloc (by simp) _
  clear hv hl
  go_enter Tryz.func42, Tryz.ntmps42
  go_wp2_with fail
  refine (C.out _ B0.out).mono ?_
  rintro e w1 ⟨v1, rfl, o1, b1⟩
  obtain ⟨ao, cap, rfl⟩ : ∃ ao cap, v1 = .slice ao l.length cap := Sees.shape (Sees.own o1)
  obtain ⟨k1, k2⟩ := KK.out _ b1
  have B1 := Lib.hid (bt B0.out b1)
  have O1 : Hid (w1.ownsRow (w.heap.size + 2) 40 3 (.slice ao l.length cap) l.length (runs l)) := op_base o1 (by simp)
  have k3 := heap_setCell_same w1 w.heap.size 3 _ _ (.slice ao l.length cap) k1
  have k4 : (w1.setCell ⟨w.heap.size, 3, none⟩ (.slice ao l.length cap)).heap[w.heap.size + 1]? = some (.cells #[.int .u8 0, .int .u32 0, .int .u8 0, .slice none 0 0, .int .i64 0] 47) := by
    rw [heap_setCell_other _ _ _ _ (by simp)]
    exact k2
  have f1 := free5 k1 3
  have HK := Lib.hid k3
  have HK4 := Lib.hid k4
  obtain ⟨c0, c1, c2, c3, c4⟩ := cells5 k1
  obtain ⟨d0, d1, d2, d3, d4⟩ := cells5 k2
  have OS : Hid ((w1.setCell ⟨w.heap.size, 3, none⟩ (.slice ao l.length cap)).ownsRow (w.heap.size + 2) 40 3 (.slice ao l.length cap) l.length (runs l)) := op_set O1.out (by omega)
  have BS : Hid (Below w.heap.size w (w1.setCell ⟨w.heap.size, 3, none⟩ (.slice ao l.length cap))) := B1.out.setCell (p := ⟨w.heap.size, 3, none⟩) (Nat.le_refl _) _
  have f2 : ∀ o, w1.frozen? ⟨w.heap.size + 1, o, none⟩ = false := fun o => free5 k2 o
  clear o1 b1 k1 k2 k3 k4
  go_wp2_with fail
  obtain ⟨W, hW⟩ : ∃ W, W = put5 (w1.setCell ⟨w.heap.size, 3, none⟩ (.slice ao l.length cap)) (w.heap.size + 1) (.int .u8 (k : Int)) (.int .u32 (t : Int)) (.int .u8 (r : Int)) (.slice ao l.length cap) (.int .i64 p) := ⟨_, rfl⟩
  have OW := put5_own (.int .u8 (k : Int)) (.int .u32 (t : Int)) (.int .u8 (r : Int)) (.slice ao l.length cap) (.int .i64 p) OS.out (show w.heap.size + 1 < w.heap.size + 2 by omega)
  have BW := put5_below (.int .u8 (k : Int)) (.int .u32 (t : Int)) (.int .u8 (r : Int)) (.slice ao l.length cap) (.int .i64 p) (show w.heap.size ≤ w.heap.size + 1 by omega) BS.out
  obtain ⟨e0, e1, e2, e3, e4⟩ := cells5 (put5_same (.int .u8 (k : Int)) (.int .u32 (t : Int)) (.int .u8 (r : Int)) (.slice ao l.length cap) (.int .i64 p) HK4.out)
  rw [← hW] at OW BW e0 e1 e2 e3 e4
  unfold put5 at hW
  rw [← hW]
  exact bodyPost_ret (v := .agg #[.int .u8 (k : Int), .int .u32 (t : Int), .int .u8 (r : Int), .slice ao l.length cap, .int .i64 p]) (by simp [results, Tryz.results42, go_sem, e0, e1, e2, e3, e4]) rfl ⟨_, rfl, op_base OW (by omega), BW⟩
end Go.Proofs.YtmiepnnpccpicaaGreat.Ops

namespace Go.Proofs.YtmiepnnpccpicaaGreat.Place
open Go.RowKit Stamp
/-- A place that is not the beginning, as its last run behind the others. -/
theorem split_last {l : List Run} (h : 0 < l.length) : l = l.take (l.length - 1) ++ [l.getD (l.length - 1) zrun] := by
  have h2 : l.take (l.length - 1 + 1) = l := List.take_of_length_le (by omega)
  rw [List.take_succ_eq_append_getElem (by omega)] at h2
  rw [show l.getD (l.length - 1) zrun = l[l.length - 1] by simp [List.getD, List.getElem?_eq_getElem (show l.length - 1 < l.length by omega)]]
  exact h2.symm
theorem up_last (t r : Nat) : ∀ n, 1 ≤ n → (up t r n).getLast? = some (mk (t + n - 1) r) := by
  intro n hn
  obtain ⟨k, rfl⟩ : ∃ k, n = k + 1 := ⟨n - 1, by omega⟩
  rw [up_snoc, List.getLast?_append]
  simp
/-- The last run's last stamp is the last of all. -/
theorem last_all {l : List Run} (hc : Chain l) (h : 0 < l.length) : (all l).getLast? = some (mk ((l.getD (l.length - 1) zrun).t + (l.getD (l.length - 1) zrun).m.toNat - 1) (l.getD (l.length - 1) zrun).r) := by
  have hs := split_last h
  have ho := chain_one hc (k := l.length - 1) (by omega)
  obtain ⟨x, hx⟩ : ∃ x, x = l.getD (l.length - 1) zrun := ⟨_, rfl⟩
  rw [← hx] at hs ho ⊢
  obtain ⟨n, hn, n1, n2, n3, n4⟩ := ho.nat
  rw [hs, all_append, List.getLast?_append]
  have : all [x] = up x.t x.r n := by simp [all, n3]
  rw [this, up_last _ _ _ n1, n3]
  simp
end Go.Proofs.YtmiepnnpccpicaaGreat.Place

namespace Go.Proofs.YtmiepnnpccpicaaGreat.Ops
open Go.RowKit Stamp Go.Proofs.YtmiepnnpccpicaaGreat.Place
attribute [local go_sem ↓] Go.wp_at_zero Go.wp_at_succ
/-- How many of the stamps of its place it doesn't stand on. -/
def offs (o : Opn) : Nat := if ownB o = true then 1 else 0
theorem all_pos {l : List Run} (h : mayB l = true) : 1 ≤ (all l).length ∧ (all l).length ≤ 4096 ∧ ((all l).length : Int) = long l := by
  have hM := (mayB_iff l).1 h
  have h1 := long_len hM.2.2.1
  have h2 := hM.2.2.2
  refine ⟨?_, by omega, h1⟩
  rcases Nat.lt_or_ge 0 (all l).length with h3 | h3
  · exact h3
  · exfalso
    have h4 : all l = [] := List.length_eq_zero_iff.1 (by omega)
    have h5 := (all_nil hM.2.2.1).1 h4
    have := hM.1
    rw [h5] at this
    simp at this
theorem mayO_parts {o : Opn} (h : mayO o = true) : may o.t o.r = true ∧ mayB o.pl = true ∧ kindB o = true := by
  unfold mayO at h
  simp only [Bool.and_eq_true] at h
  exact ⟨h.1, h.2.1, h.2.2⟩
end Go.Proofs.YtmiepnnpccpicaaGreat.Ops

namespace Go.Proofs.YtmiepnnpccpicaaGreat.Codes
open Go.RowKit Go.WideShapes Go.Proofs.YtmiepnnpccpicaaGreat.Place Ops
def zop : Opn := ⟨0, 0, 0, [], 0, by decide, by decide, by decide, by decide⟩
instance : DecidableEq Opn := fun a b => decidable_of_iff (sameB a b = true) (sameB_iff a b)
theorem op_info : (Tryz.prog.info? 47).map (fun i => (i.zero, i.size, i.bytes)) = some (some (.agg #[.int .u8 0, .int .u32 0, .int .u8 0, .slice none 0 0, .int .i64 0]), 5, 48) := by kernel_rfl
/-- Operations in cells, each place of the call's own. -/
def HoldP (w : World) (base : Nat) : List Value → List Opn → Prop
  | cs, [] => cs = []
  | cs, o :: l => ∃ v d, cs = [.int .u8 (o.k : Int), .int .u32 (o.t : Int), .int .u8 (o.r : Int), v, .int .i64 o.p] ++ d ∧ w.ownsRow base 40 3 v o.pl.length (runs o.pl) ∧ HoldP w base d l
theorem HoldP.rows {w : World} {base : Nat} : ∀ {cs : List Value} {l : List Opn}, HoldP w base cs l → opE.rows w cs l
  | _, [], h => h
  | _, _ :: _, ⟨v, d, h1, h2, h3⟩ => ⟨_, d, h1, ⟨v, rfl, Runs.own h2⟩, HoldP.rows h3⟩
theorem HoldP.keeps {w w' : World} {base : Nat} (hb : Below w.heap.size w w') : ∀ {cs : List Value} {l : List Opn}, HoldP w base cs l → HoldP w' base cs l
  | _, [], h => h
  | _, _ :: _, ⟨v, d, h1, h2, h3⟩ => ⟨v, d, h1, own_stays h2 hb, HoldP.keeps hb h3⟩
theorem HoldP.append {w : World} {base : Nat} : ∀ {cs ds : List Value} {l m : List Opn}, HoldP w base cs l → HoldP w base ds m → HoldP w base (cs ++ ds) (l ++ m)
  | cs, _, [], _, h, h2 => by rw [show cs = [] from h]; exact h2
  | _, ds, _ :: _, _, ⟨v, d, h1, h3, h4⟩, h2 => ⟨v, d ++ ds, by rw [h1, List.append_assoc], h3, HoldP.append h4 h2⟩
theorem HoldP.base {w : World} {b b' : Nat} (hb : b' ≤ b) : ∀ {cs : List Value} {l : List Opn}, HoldP w b cs l → HoldP w b' cs l
  | _, [], h => h
  | _, _ :: _, ⟨v, d, h1, h2, h3⟩ => ⟨v, d, h1, op_base h2 hb, HoldP.base hb h3⟩
theorem HoldP.grown {w w' : World} {base sz n B : Nat} {v : Value} {rs : List Value} (hg : w.grownBy w' v.ownBlock) (hv : w.ownsRow B 47 sz v n rs) : ∀ {cs : List Value} {l : List Opn}, HoldP w base cs l → HoldP w' base cs l
  | _, [], h => h
  | _, _ :: _, ⟨u, d, h1, h2, h3⟩ => by
    refine ⟨u, d, h1, ?_, HoldP.grown hg hv h3⟩
    refine ⟨h2.1, h2.2.imp id fun ⟨g, cap, cur, e1, e2, e3, e4⟩ => ⟨g, cap, cur, e1, e2, ?_, e4⟩⟩
    exact blk_grown hg (own_ne hv e3 (by intro c h; injection h with h1 h2 h3; exact absurd h2 (by decide))) e3
/-- A list of the call's own, its places too. -/
def OwnL (w : World) (base : Nat) (v : Value) (l : List Opn) : Prop := ∃ cs, w.ownsRow base 47 5 v l.length cs ∧ HoldP w base cs l
theorem OwnL.opl {w : World} {base : Nat} {v : Value} {l : List Opn} (h : OwnL w base v l) : OpL w v l := by
  obtain ⟨cs, h1, h2⟩ := h
  exact ⟨cs, Sees.own h1, h2.rows⟩
theorem OwnL.keeps {w w' : World} {base : Nat} {v : Value} {l : List Opn} (h : OwnL w base v l) (hb : Below w.heap.size w w') : OwnL w' base v l := by
  obtain ⟨cs, h1, h2⟩ := h
  exact ⟨cs, own_stays h1 hb, h2.keeps hb⟩
theorem OwnL.nil (w : World) (base : Nat) : OwnL w base (.slice none 0 0) [] := ⟨[], World.ownsRow_nil _ _ _ _, rfl⟩
theorem OwnL.base {w : World} {b b' : Nat} {v : Value} {l : List Opn} (h : OwnL w b v l) (hb : b' ≤ b) : OwnL w b' v l := by
  obtain ⟨cs, h1, h2⟩ := h
  exact ⟨cs, op_base h1 hb, h2.base hb⟩
/-- One more behind a list: what is appended, and to where. -/
theorem OwnL.snoc {W W8 w5 : World} {base m : Nat} {v v5 u : Value} {cs : List Value} {l : List Opn} {o : Opn} (h1 : W.ownsRow base 47 5 v l.length cs) (h2 : HoldP W base cs l) (hb : Below W.heap.size W W8)
    (hu : W8.ownsRow base 40 3 u o.pl.length (runs o.pl)) (g5 : W8.grownBy w5 v.ownBlock) (o5 : w5.ownsRow base 47 5 v5 m (cs ++ [.int .u8 (o.k : Int), .int .u32 (o.t : Int), .int .u8 (o.r : Int), u, .int .i64 o.p])) (hm : m = l.length + 1) : OwnL w5 base v5 (l ++ [o]) := by
  have hx := own_stays h1 hb
  refine ⟨_, by rw [List.length_append, List.length_singleton, ← hm]; exact o5, ?_⟩
  refine HoldP.append (HoldP.grown g5 hx (h2.keeps hb)) ?_
  exact HoldP.grown g5 hx ⟨u, [], rfl, hu, rfl⟩
theorem five_one (o : Opn) (u : Value) (hu : ∃ ao n cap, u = .slice ao n cap) : ∀ x ∈ [Value.int .u8 (o.k : Int), .int .u32 (o.t : Int), .int .u8 (o.r : Int), u, .int .i64 o.p], x.oneCell' = true := by
  obtain ⟨ao, n, cap, rfl⟩ := hu
  intro x hx
  simp only [List.mem_cons, List.not_mem_nil, or_false] at hx
  rcases hx with rfl | rfl | rfl | rfl | rfl <;> rfl
/-- What five cells hold, at a place of a block. -/
def FiveAt (w : World) (g o : Nat) (c0 c1 c2 c3 c4 : Value) : Prop := g < w.heap.size ∧ w.cell? ⟨g, o, none⟩ = some c0 ∧ w.cell? ⟨g, o + 1, none⟩ = some c1 ∧ w.cell? ⟨g, o + 2, none⟩ = some c2 ∧ w.cell? ⟨g, o + 3, none⟩ = some c3 ∧ w.cell? ⟨g, o + 4, none⟩ = some c4
theorem FiveAt.keeps {w w' : World} {g o : Nat} {c0 c1 c2 c3 c4 : Value} (p : FiveAt w g o c0 c1 c2 c3 c4) (hb : Below w.heap.size w w') : FiveAt w' g o c0 c1 c2 c3 c4 :=
  ⟨Nat.lt_of_lt_of_le p.1 hb.size, (hb.cell (p := ⟨g, o, none⟩) p.1).trans p.2.1, (hb.cell (p := ⟨g, o + 1, none⟩) p.1).trans p.2.2.1, (hb.cell (p := ⟨g, o + 2, none⟩) p.1).trans p.2.2.2.1, (hb.cell (p := ⟨g, o + 3, none⟩) p.1).trans p.2.2.2.2.1, (hb.cell (p := ⟨g, o + 4, none⟩) p.1).trans p.2.2.2.2.2⟩
end Go.Proofs.YtmiepnnpccpicaaGreat.Codes

namespace Go.Proofs.YtmiepnnpccpicaaGreat.Spans
/-- A span: from a time to a time. -/
structure Sp where
  f : Nat
  t : Nat
  hf : f < 4294967296
  ht : t < 4294967296
theorem Sp.ext' {a b : Sp} (h1 : a.f = b.f) (h2 : a.t = b.t) : a = b := by
  obtain ⟨f, t, _, _⟩ := a; obtain ⟨g, u, _, _⟩ := b
  simp only at h1 h2
  subst h1 h2
  rfl
theorem Sp.eq_iff {a b : Sp} : a = b ↔ a.f = b.f ∧ a.t = b.t := ⟨fun h => by rw [h]; exact ⟨rfl, rfl⟩, fun h => Sp.ext' h.1 h.2⟩
instance : DecidableEq Sp := fun a b => if h : a.f = b.f ∧ a.t = b.t then isTrue (Sp.eq_iff.2 h) else isFalse (fun e => h (Sp.eq_iff.1 e))
/-- May a span be, by itself? -/
def Ok (x : Sp) : Prop := 1 ≤ x.f ∧ x.f ≤ x.t ∧ x.t ≤ 1073741824
instance (x : Sp) : Decidable (Ok x) := inferInstanceAs (Decidable (_ ∧ _))
/-- Has it the time? -/
def In (l : List Sp) (n : Nat) : Prop := ∃ x ∈ l, x.f ≤ n ∧ n ≤ x.t
def inB : List Sp → Nat → Bool
  | [], _ => false
  | x :: l, n => decide (x.f ≤ n ∧ n ≤ x.t) || inB l n
theorem inB_iff : ∀ (l : List Sp) (n : Nat), inB l n = true ↔ In l n
  | [], n => by simp [inB, In]
  | x :: l, n => by
    have ih := inB_iff l n
    unfold In at ih ⊢
    simp [inB, ih]
instance (l : List Sp) (n : Nat) : Decidable (In l n) := decidable_of_iff _ (inB_iff l n)
end Go.Proofs.YtmiepnnpccpicaaGreat.Spans

namespace Go.Proofs.YtmiepnnpccpicaaGreat.Clocks
open Go.Proofs.YtmiepnnpccpicaaGreat.Spans
/-- May a stamp be? -/
def mayI (a : Id) : Prop := 1 ≤ a.t ∧ a.t ≤ 1073741824 ∧ a.r < 8
instance (a : Id) : Decidable (mayI a) := inferInstanceAs (Decidable (_ ∧ _))
theorem list_snoc_ind {α : Type} {P : List α → Prop} (h0 : P []) (h1 : ∀ l a, P l → P (l ++ [a])) (l : List α) : P l := by
  have go : ∀ (n : Nat) (l : List α), l.length = n → P l := by
    intro n
    induction n with
    | zero => intro l h; rw [List.length_eq_zero_iff.1 h]; exact h0
    | succ n ih =>
      intro l h
      rcases List.eq_nil_or_concat l with rfl | ⟨m, x, rfl⟩
      · simp at h
      · rw [List.concat_eq_append] at h ⊢
        exact h1 m x (ih m (by simpa using h))
  exact go l.length l rfl
end Go.Proofs.YtmiepnnpccpicaaGreat.Clocks

namespace Go.Proofs.YtmiepnnpccpicaaGreat.Bags
open Ops Stamp
def idO (o : Opn) : Id := ⟨o.t, o.r, o.ht, o.hr⟩
theorem idO_eq {a b : Opn} : idO a = idO b ↔ a.t = b.t ∧ a.r = b.r := by rw [Id.eq_iff]; rfl
/-- Is one's stamp less? -/
def lessO (a b : Opn) : Prop := a.t < b.t ∨ a.t = b.t ∧ a.r < b.r
instance (a b : Opn) : Decidable (lessO a b) := inferInstanceAs (Decidable (_ ∨ _))
theorem lessO_trans {a b c : Opn} (h : lessO a b) (k : lessO b c) : lessO a c := by unfold lessO at *; omega
theorem lessO_ne {a b : Opn} (h : lessO a b) : idO a ≠ idO b := by rw [Ne, idO_eq]; unfold lessO at h; omega
theorem pw_adj : ∀ {l : List Opn}, (∀ k (h : k + 1 < l.length), lessO (l[k]'(by omega)) (l[k + 1]'h)) → l.Pairwise lessO
  | [], _ => .nil
  | [a], _ => List.pairwise_singleton _ _
  | a :: b :: l, h => by
    have ih := pw_adj (l := b :: l) (fun k hk => h (k + 1) (by simpa using hk))
    refine List.Pairwise.cons (fun x hx => ?_) ih
    have h0 : lessO a b := by simpa using h 0 (by simp)
    rcases List.mem_cons.1 hx with rfl | hx
    · exact h0
    · exact lessO_trans h0 ((List.pairwise_cons.1 ih).1 x hx)
/-- A bag that may be. -/
def Bag (l : List Opn) : Prop := l.length ≤ 1024 ∧ (∀ o ∈ l, mayO o = true) ∧ l.Pairwise lessO
instance (l : List Opn) : Decidable (Bag l) := inferInstanceAs (Decidable (_ ∧ _))
def bagB (l : List Opn) : Bool := decide (Bag l)
theorem bagB_iff (l : List Opn) : bagB l = true ↔ Bag l := by simp [bagB]
theorem bagB_no {l : List Opn} (h : ¬ Bag l) : bagB l = false := by simp [bagB, h]
def chkL (l : List Opn) : Int := if bagB l = true then 0 else 8
/-- Each member by its stamp is one. -/
theorem pw_one : ∀ {l : List Opn}, l.Pairwise lessO → ∀ {a b : Opn}, a ∈ l → b ∈ l → idO a = idO b → a = b
  | [], _, _, _, h, _, _ => by simp at h
  | x :: l, hp, a, b, ha, hb, e => by
    have hp' := List.pairwise_cons.1 hp
    rcases List.mem_cons.1 ha with rfl | ha2
    · rcases List.mem_cons.1 hb with rfl | hb2
      · rfl
      · exact absurd e (lessO_ne (hp'.1 _ hb2))
    · rcases List.mem_cons.1 hb with rfl | hb2
      · exact absurd e.symm (lessO_ne (hp'.1 _ ha2))
      · exact pw_one hp'.2 ha2 hb2 e
def findO : List Opn → Id → Option Opn
  | [], _ => none
  | x :: l, a => if idO x = a then some x else findO l a
theorem findO_some : ∀ {l : List Opn} {a : Id} {o : Opn}, findO l a = some o → o ∈ l ∧ idO o = a
  | [], _, _, h => by simp [findO] at h
  | x :: l, a, o, h => by
    unfold findO at h
    by_cases e : idO x = a
    · rw [if_pos e] at h
      cases h
      exact ⟨by simp, e⟩
    · rw [if_neg e] at h
      obtain ⟨h1, h2⟩ := findO_some h
      exact ⟨by simp [h1], h2⟩
theorem findO_none : ∀ {l : List Opn} {a : Id}, findO l a = none ↔ ∀ o ∈ l, idO o ≠ a
  | [], _ => by simp [findO]
  | x :: l, a => by
    unfold findO
    by_cases e : idO x = a
    · rw [if_pos e]; simp [e]
    · rw [if_neg e, findO_none]; simp [e]
theorem findO_mem {l : List Opn} (hp : l.Pairwise lessO) {o : Opn} (h : o ∈ l) : findO l (idO o) = some o := by
  cases hf : findO l (idO o) with
  | none => exact absurd rfl (findO_none.1 hf o h)
  | some x => rw [pw_one hp (findO_some hf).1 h (findO_some hf).2]
def hasO (l : List Opn) (a : Id) : Bool := (findO l a).isSome
theorem hasO_iff {l : List Opn} {a : Id} : hasO l a = true ↔ ∃ o ∈ l, idO o = a := by
  unfold hasO
  cases h : findO l a with
  | none => simp; exact fun o ho => findO_none.1 h o ho
  | some x => simp; exact ⟨x, findO_some h⟩
theorem hasO_no {l : List Opn} {a : Id} : hasO l a = false ↔ ∀ o ∈ l, idO o ≠ a := by
  rw [← findO_none]; unfold hasO; cases findO l a <;> simp
end Go.Proofs.YtmiepnnpccpicaaGreat.Bags

namespace Go.Proofs.YtmiepnnpccpicaaGreat.Codes
open Go.RowKit Go.WideShapes Go.Proofs.YtmiepnnpccpicaaGreat.Place Ops
attribute [local go_sem ↓] Go.wp_at_zero Go.wp_at_succ
/-- What Great answers: where it answers no, there are not more than so many. -/
def GrtO (l : List Opn) (m : Int) (e : Ending) : Prop := ∃ g, e = .returned (.bool g) ∧ (g = false → (l.length : Int) ≤ m ∧ ∀ k (h : k < l.length), k < 300 → (l[k]'h).pl.length ≤ 100)
theorem GrtO.yes {l : List Opn} {m : Int} : GrtO l m (.returned (.bool true)) := ⟨true, rfl, fun h => by cases h⟩
set_option maxRecDepth 100000 in
set_option maxHeartbeats 4000000 in
theorem greatO_any {v : Value} {l : List Opn} {many : Int} {w : World} (hv : OpL w v l) :
    Calls Tryz.prog 5 #[v, .int .i64 many] w fun e w' => GrtO l many e ∧ w = w' := by
  obtain ⟨ao, cap, rfl⟩ := hv.shape
  obtain ⟨n, hn⟩ : ∃ n, n = l.length := ⟨_, rfl⟩
  have hm : n ≤ 9223372036854775807 := by rw [hn]; exact hv.max
  have HV := Lib.hid hv
  have HN := Lib.hid hn
  rw [← hn]
  clear hv hn
  go_enter Tryz.func5, Tryz.ntmps5
  go_wp2
  go_loop [5, 6, 7] (fun s i c => ∃ (j : Nat) (m : Int), j ≤ n ∧ j ≤ 300 ∧ i = .int .i64 (j : Int) ∧ s = .int .i64 m ∧ Hid (∀ k (h : k < l.length), k < j → (l[k]'h).pl.length ≤ 100)) (fun _ i _ => n - (intOf i).toNat)
  case atStart => exact ⟨0, 0, by omega, by omega, rfl, rfl, fun k h hk => by omega⟩
  case round =>
    obtain ⟨j, m, hj, hj3, rfl, rfl, hall⟩ := hrel
    by_cases hjn : j < n
    · have q1 : decide (j < n) = true := by simpa using hjn
      by_cases hj4 : j < 300
      · have q4 : decide ((j : Int) < 300) = true := decide_eq_true (by omega)
        have q5 : decide (j < 300) = true := decide_eq_true hj4
        have q2 : (0 : Int) ≤ (j : Int) := by omega
        have q3 : (j : Int) < (n : Int) := by omega
        have hjl : j < l.length := by rw [← HN.out]; exact hjn
        obtain ⟨b1, o1, u, rfl, hb1, hru, -, -, -, ha3, -⟩ := opl_at HV.out j hjl
        have hsx := Sees.max hru
        have HRU := Lib.hid hru
        obtain ⟨so, sc, rfl⟩ := hru.shape
        obtain ⟨p, hp⟩ : ∃ p, p = (l[j]'hjl).pl := ⟨_, rfl⟩
        have HJA : Hid (p.length ≤ 100 → ∀ k (h : k < l.length), k < j + 1 → (l[k]'h).pl.length ≤ 100) := fun h1 k h hk => by
          by_cases e : k = j
          · subst e; rw [← hp]; exact h1
          · exact hall.out k h (by omega)
        rw [← hp] at ha3 hsx HRU
        obtain ⟨d, hd⟩ : ∃ d, d = p.length := ⟨_, rfl⟩
        have HD := Lib.hid hd
        rw [← hd] at ha3 hsx HRU
        clear hall hp hru hd
        by_cases h3 : 100 < d
        · have t1 : decide ((100 : Int) < (d : Int)) = true := decide_eq_true (by omega)
          have t2 : decide (100 < d) = true := decide_eq_true h3
          go_wp2
          go_ret
          exact ⟨GrtO.yes, rfl⟩
        · have t1 : decide ((100 : Int) < (d : Int)) = false := decide_eq_false (by omega)
          have t2 : decide (100 < d) = false := decide_eq_false h3
          have HJB := Lib.hid (HJA.out (by rw [← HD.out]; omega))
          clear HJA
          go_wp2
          go_loop [5, 7] (fun s c => ∃ (k : Nat) (m : Int), k ≤ d ∧ c = .int .i64 (k : Int) ∧ s = .int .i64 m) (fun _ c => d - (intOf c).toNat)
          case atStart => exact ⟨0, _, by omega, rfl, rfl⟩
          case round =>
            obtain ⟨k, m, hk, rfl, rfl⟩ := hrel
            by_cases hkd : k < d
            · have c1 : decide (k < d) = true := by simpa using hkd
              have c2 : (0 : Int) ≤ (k : Int) := by omega
              have c3 : (k : Int) < (d : Int) := by omega
              obtain ⟨b2, o2, rfl, hb2, -, -, g2⟩ := HRU.out.at k (by rw [← HD.out]; exact hkd)
              go_wp2
              go_round
              case rel => exact ⟨k + 1, _, by omega, by go_num, rfl⟩
              case measure => simp [intOf]; omega
            · have c1 : decide (k < d) = false := by simpa using hkd
              go_wp2
              go_round
              case rel => exact ⟨j + 1, _, by omega, by omega, by go_num, rfl, HJB⟩
              case measure => simp [intOf]; omega
      · obtain rfl : j = 300 := by omega
        obtain ⟨b, hb⟩ : ∃ b, decide (many < (n : Int)) = b := ⟨_, rfl⟩
        have HB : Hid (b = false → (n : Int) ≤ many) := fun h => by rw [h] at hb; have := of_decide_eq_false hb; omega
        obtain ⟨c, hc⟩ : ∃ b, decide (3000 < m) = b := ⟨_, rfl⟩
        clear q1
        cases b
        · go_wp2
          go_ret
          refine ⟨⟨_, rfl, fun _ => ⟨?_, fun k h hk => hall.out k h hk⟩⟩, rfl⟩
          rw [← HN.out]; exact HB.out trivial
        · go_wp2
          go_ret
          exact ⟨GrtO.yes, rfl⟩
    · have q1 : decide (j < n) = false := by simpa using hjn
      obtain rfl : j = n := by omega
      obtain ⟨b, hb⟩ : ∃ b, decide (many < (j : Int)) = b := ⟨_, rfl⟩
      have HB : Hid (b = false → (j : Int) ≤ many) := fun h => by rw [h] at hb; have := of_decide_eq_false hb; omega
      obtain ⟨c, hc⟩ : ∃ b, decide (3000 < m) = b := ⟨_, rfl⟩
      cases b
      · go_wp2
        go_ret
        refine ⟨⟨_, rfl, fun _ => ⟨?_, fun k h _ => hall.out k h (by have := HN.out; omega)⟩⟩, rfl⟩
        rw [← HN.out]; exact HB.out trivial
      · go_wp2
        go_ret
        exact ⟨GrtO.yes, rfl⟩
end Go.Proofs.YtmiepnnpccpicaaGreat.Codes

namespace Go.Proofs.YtmiepnnpccpicaaGreat.Bags
open Go.RowKit Go.WideShapes Stamp Go.Proofs.YtmiepnnpccpicaaGreat.Place Ops Codes
/-- Operations of the call's own, and an error. -/
def DoneN (L : List Opn) (x : Int) (w : World) (e : Ending) (w' : World) : Prop := ∃ v, e = .returned (.tuple #[v, .int .i64 x]) ∧ OwnL w' w.heap.size v L ∧ Below w.heap.size w w'
theorem mayO_fits {o : Opn} (h : mayO o = true) : o.pl.length ≤ 64 := ((mayB_iff o.pl).1 (mayO_parts h).2.1).2.1
theorem bag_fits {l : List Opn} (h : Bag l) : l.length ≤ 1024 ∧ ∀ o ∈ l, o.pl.length ≤ 8796093022208 := ⟨h.1, fun o ho => by have := mayO_fits (h.2.1 o ho); omega⟩
end Go.Proofs.YtmiepnnpccpicaaGreat.Bags

namespace Go.Proofs.YtmiepnnpccpicaaGreat.Marks
open Ops Stamp Bags Go.Proofs.YtmiepnnpccpicaaGreat.Place
/-- The last stamp of its place. -/
def tgt (o : Opn) : Id := ⟨(lastV o.pl).1.toNat % 4294967296, (lastV o.pl).2.toNat % 256, Nat.mod_lt _ (by decide), Nat.mod_lt _ (by decide)⟩
theorem last_bounds {l : List Run} (h : mayB l = true) : 1 ≤ (lastV l).1 ∧ (lastV l).1 ≤ 1073741824 ∧ 0 ≤ (lastV l).2 ∧ (lastV l).2 < 8 := by
  have hm := (mayB_iff l).1 h
  obtain ⟨h1, _, hc, _⟩ := hm
  have ho := chain_one hc (k := l.length - 1) (by omega)
  unfold lastV
  rw [if_pos h]
  unfold Place.One at ho
  simp only
  omega
theorem tgt_cells {o : Opn} (h : mayO o = true) : ((tgt o).t : Int) = (lastV o.pl).1 ∧ ((tgt o).r : Int) = (lastV o.pl).2 := by
  have hb := last_bounds (mayO_parts h).2.1
  unfold tgt
  simp only
  omega
/-- A mark's place ends with its own stamp. -/
theorem mark_tgt {o : Opn} (h : mayO o = true) (hk : o.k = 2) : tgt o = idO o := by
  have h3 := (mayO_parts h).2.2
  have hc := tgt_cells h
  unfold kindB kindF at h3
  rw [hk] at h3
  simp only [show ¬ (2 : Nat) = 1 by decide, if_false, if_true, Bool.and_eq_true, decide_eq_true_eq, Prod.mk.injEq] at h3
  refine Id.ext' ?_ ?_
  · show (tgt o).t = o.t; omega
  · show (tgt o).r = o.r; omega
/-- Is a stamp joined? -/
def ended (l : List Opn) (a : Id) : Bool := l.any (fun o => decide (o.k = 4) && decide (tgt o = a))
/-- One goes ahead of another one. -/
def ahead (a b : Opn) : Bool := decide (cmp a.pl b.pl < 0)
/-- How many go ahead of one, at the beginning. -/
def atM (out : List Opn) (x : Opn) : Nat := (out.takeWhile (fun y => ahead y x)).length
def insM (out : List Opn) (x : Opn) : List Opn := out.take (atM out x) ++ [x] ++ out.drop (atM out x)
theorem atM_le (out : List Opn) (x : Opn) : atM out x ≤ out.length := (List.takeWhile_sublist _).length_le
theorem insM_len (out : List Opn) (x : Opn) : (insM out x).length = out.length + 1 := by
  have := atM_le out x
  unfold insM
  simp only [List.length_append, List.length_take, List.length_drop, List.length_cons, List.length_nil]
  omega
def stepM (L : List Opn) (out : List Opn) (x : Opn) : List Opn := if x.k = 2 ∧ ended L (idO x) = false then insM out x else out
def livesM (L l : List Opn) : List Opn := l.foldl (stepM L) []
theorem livesM_snoc (L l : List Opn) (x : Opn) : livesM L (l ++ [x]) = stepM L (livesM L l) x := by unfold livesM; rw [List.foldl_append]; rfl
theorem livesM_le (L : List Opn) : ∀ l : List Opn, (livesM L l).length ≤ l.length := by
  intro l
  induction l using Clocks.list_snoc_ind with
  | h0 => simp [livesM]
  | h1 l x ih =>
    rw [livesM_snoc, List.length_append]
    unfold stepM
    split
    · rw [insM_len]; simp; omega
    · simp; omega
theorem mem_insM {out : List Opn} {x y : Opn} : y ∈ insM out x ↔ y ∈ out ∨ y = x := by
  unfold insM
  simp only [List.mem_append, List.mem_singleton]
  conv => rhs; rw [← List.take_append_drop (atM out x) out]
  rw [List.mem_append]
  constructor
  · rintro ((h | h) | h)
    · exact .inl (.inl h)
    · exact .inr h
    · exact .inl (.inr h)
  · rintro ((h | h) | h)
    · exact .inl (.inl h)
    · exact .inr h
    · exact .inl (.inr h)
theorem mem_livesM {L l : List Opn} {y : Opn} : y ∈ livesM L l ↔ y ∈ l ∧ y.k = 2 ∧ ended L (idO y) = false := by
  induction l using Clocks.list_snoc_ind with
  | h0 => simp [livesM]
  | h1 l x ih =>
    rw [livesM_snoc, List.mem_append, List.mem_singleton]
    unfold stepM
    split
    · rename_i h
      rw [mem_insM, ih]
      constructor
      · rintro (⟨h1, h2⟩ | rfl)
        · exact ⟨.inl h1, h2⟩
        · exact ⟨.inr rfl, h⟩
      · rintro ⟨h1 | rfl, h2⟩
        · exact .inl ⟨h1, h2⟩
        · exact .inr rfl
    · rename_i h
      rw [ih]
      constructor
      · rintro ⟨h1, h2⟩; exact ⟨.inl h1, h2⟩
      · rintro ⟨h1 | rfl, h2⟩
        · exact ⟨h1, h2⟩
        · exact absurd h2 h
def liveL (l : List Opn) : List Opn := if bagB l = true then livesM l l else []
end Go.Proofs.YtmiepnnpccpicaaGreat.Marks

namespace Go.Proofs.YtmiepnnpccpicaaGreat.Place
open Go.RowKit Stamp
theorem anyB_may {l : List Run} (h : mayB l = true) : anyB l = true := by unfold anyB; rw [h]; simp
theorem hold_front (P : List Id) (a : Id) (m : List Id) : hold P (P ++ a :: m) = -1 := by
  have := hold_app P [] (a :: m)
  rw [List.append_nil] at this
  rw [this]; rfl
/-- The last stamp, as Last tells it. -/
theorem lastV_of {L : List Run} {P : List Id} {a : Id} (hm : mayB L = true) (h : all L = P ++ [a]) : lastV L = ((a.t : Int), (a.r : Int)) := by
  have hM := (mayB_iff L).1 hm
  have hc := hM.2.2.1
  have hl := last_all hc (by have := hM.1; omega)
  rw [h, List.getLast?_append] at hl
  have hl : a = _ := Option.some.inj hl
  have ho := chain_one hc (k := L.length - 1) (by have := hM.1; omega)
  obtain ⟨n, hn, n1, n2, n3, n4⟩ := ho.nat
  unfold lastV
  rw [if_pos hm]
  have h1 := Id.eq_iff.1 hl
  rw [mk_t (by omega), mk_r (L.getD (L.length - 1) zrun).hr] at h1
  rw [h1.1, h1.2, n3, hn]
  congr 1
  omega
end Go.Proofs.YtmiepnnpccpicaaGreat.Place

namespace Go.Proofs.YtmiepnnpccpicaaGreat.Place
open Go.RowKit Stamp
attribute [local go_sem ↓] Go.wp_at_zero Go.wp_at_succ
set_option maxRecDepth 100000 in
set_option maxHeartbeats 4000000 in
theorem pCompare_any {a b : Value} {p q : List Run} {w : World} (ha : Runs w a p) (hb : Runs w b q) :
    Calls Tryz.prog 16 #[a, b] w fun e w' => e = .returned (.int .i64 (cmp p q)) ∧ Below w.heap.size w w' := by
  have HA := Lib.hid ha
  have HB := Lib.hid hb
  obtain ⟨pb, hpb⟩ : ∃ pb, anyB p = pb := ⟨_, rfl⟩
  obtain ⟨qb, hqb⟩ : ∃ qb, anyB q = qb := ⟨_, rfl⟩
  have A1 : Hid (∀ W : World, Below w.heap.size w W → Calls Tryz.prog 47 #[a] W fun e w' => e = .returned (.bool pb) ∧ Below W.heap.size W w') := fun W hW => stands_is (HA.out.keeps hW) hpb
  have A2 : Hid (∀ W : World, Below w.heap.size w W → Calls Tryz.prog 47 #[b] W fun e w' => e = .returned (.bool qb) ∧ Below W.heap.size W w') := fun W hW => stands_is (HB.out.keeps hW) hqb
  have HPB := Lib.hid hpb
  have HQB := Lib.hid hqb
  clear ha hb hpb hqb
  cases pb
  · have hz : cmp p q = 0 := by unfold cmp; rw [if_neg (by rw [HPB.out]; simp)]
    rw [hz]
    clear hz
    go_enter Tryz.func16, Tryz.ntmps16
    go_wp2_with fail
    refine (A1.out _ (Below.refl _ _)).mono ?_
    rintro e w1 ⟨rfl, b1⟩
    go_wp2
    go_ret
    exact ⟨rfl, b1⟩
  cases qb
  · have hz : cmp p q = 0 := by unfold cmp; rw [if_neg (by rw [HQB.out]; simp)]
    rw [hz]
    clear hz
    go_enter Tryz.func16, Tryz.ntmps16
    go_wp2_with fail
    refine (A1.out _ (Below.refl _ _)).mono ?_
    rintro e w1 ⟨rfl, b1⟩
    have B1 := Lib.hid b1
    clear b1
    go_wp2_with fail
    refine (A2.out _ B1.out).mono ?_
    rintro e w2 ⟨rfl, b2⟩
    have B2 := Lib.hid (bt B1.out b2)
    clear b2
    go_wp2
    go_ret
    exact ⟨rfl, B2.out⟩
  have hz : cmp p q = hold (all p) (all q) := by unfold cmp; rw [if_pos ⟨HPB.out, HQB.out⟩]
  have AP : Hid (∀ W : World, Below w.heap.size w W → Calls Tryz.prog 48 #[a, b] W (Parted (hold (all p) (all q)) (first (all p) (all q)) W)) := fun W hW => apart_any (HA.out.keeps hW) (HB.out.keeps hW) ((anyB_iff p).1 HPB.out).chain ((anyB_iff q).1 HQB.out).chain
  rw [hz]
  obtain ⟨h0, hh0⟩ : ∃ h0, h0 = hold (all p) (all q) := ⟨_, rfl⟩
  obtain ⟨f0, hf0⟩ : ∃ f0, f0 = first (all p) (all q) := ⟨_, rfl⟩
  rw [← hh0, ← hf0] at AP
  rw [← hh0]
  clear hz hh0 hf0
  go_enter Tryz.func16, Tryz.ntmps16
  go_wp2_with fail
  refine (A1.out _ (Below.refl _ _)).mono ?_
  rintro e w1 ⟨rfl, b1⟩
  have B1 := Lib.hid b1
  clear b1
  go_wp2_with fail
  refine (A2.out _ B1.out).mono ?_
  rintro e w2 ⟨rfl, b2⟩
  have B2 := Lib.hid (bt B1.out b2)
  clear b2
  go_wp2_with fail
  refine (AP.out _ B2.out).mono ?_
  rintro e w3 ⟨x, y, rfl, he, hf, b3⟩
  have B3 := Lib.hid (bt B2.out b3)
  clear b3 AP hf A1 A2 B1 B2
  obtain ⟨t1, r1, m1, ht1, hr1, hm1⟩ := x
  obtain ⟨t2, r2, m2, ht2, hr2, hm2⟩ := y
  unfold ends at he
  simp only at he ⊢
  obtain ⟨wl, hwl⟩ : ∃ wl, wl = (w3.alloc (.cells #[.int .u32 (t1 : Int), .int .u8 (r1 : Int), .int .i64 m1] 40)).alloc (.cells #[.int .u32 (t2 : Int), .int .u8 (r2 : Int), .int .i64 m2] 40) := ⟨_, rfl⟩
  have PA : Hid (Tri wl w3.heap.size (.int .u32 (t1 : Int)) (.int .u8 (r1 : Int)) (.int .i64 m1)) := by
    rw [hwl]
    exact (tri_new w3 (.int .u32 (t1 : Int)) (.int .u8 (r1 : Int)) (.int .i64 m1) 40).keeps ((Below.refl _ _).alloc (Nat.le_refl _) _)
  have PB : Hid (Tri wl (w3.heap.size + 1) (.int .u32 (t2 : Int)) (.int .u8 (r2 : Int)) (.int .i64 m2)) := by
    have := tri_new (w3.alloc (.cells #[.int .u32 (t1 : Int), .int .u8 (r1 : Int), .int .i64 m1] 40)) (.int .u32 (t2 : Int)) (.int .u8 (r2 : Int)) (.int .i64 m2) 40
    rw [hwl]
    unfold Hid
    simpa using this
  have BL : Hid (Below w.heap.size w wl) := by rw [hwl]; exact (B3.out.alloc B3.out.size _).alloc (Nat.le_trans B3.out.size (by simp)) _
  by_cases hm1z : m1 = 0
  · rw [if_pos hm1z] at he
    by_cases hm2z : m2 = 0
    · rw [if_pos hm2z] at he
      simp only at he
      subst hm1z hm2z he
      go_wp2
      rw [← hwl]
      go_ret
      exact ⟨rfl, BL.out⟩
    · rw [if_neg hm2z] at he
      simp only at he
      have u1 : (m2 == 0) = false := by simpa using hm2z
      subst hm1z he
      go_wp2
      rw [← hwl]
      go_ret
      exact ⟨rfl, BL.out⟩
  · rw [if_neg hm1z] at he
    have u1 : (m1 == 0) = false := by simpa using hm1z
    by_cases hm2z : m2 = 0
    · rw [if_pos hm2z] at he
      simp only at he
      subst hm2z he
      go_wp2
      rw [← hwl]
      go_ret
      exact ⟨rfl, BL.out⟩
    · rw [if_neg hm2z] at he
      have u2 : (m2 == 0) = false := by simpa using hm2z
      have LS := Lib.hid (less_any t2 r2 t1 r1 ht2 hr2 ht1 hr1)
      have F1 := Lib.hid (firstOf_any t1 r1 m1)
      have F2 := Lib.hid (firstOf_any t2 r2 m2)
      obtain ⟨lb, hlb⟩ : ∃ lb, less t2 r2 t1 r1 = lb := ⟨_, rfl⟩
      rw [hlb] at LS he
      clear hlb hm1z hm2z
      cases lb
      all_goals
        simp only [Bool.false_eq_true, if_false, if_true] at he
        subst he
        go_wp2
        rw [← hwl]
        clear hwl
        go_region_held3 (fun w' => Below wl.heap.size wl w' ∧ w'.cell? ⟨w3.heap.size, 0, none⟩ = some (.int .u32 (t1 : Int)) ∧ w'.cell? ⟨w3.heap.size, 1, none⟩ = some (.int .u8 (r1 : Int)) ∧ w'.cell? ⟨w3.heap.size, 2, none⟩ = some (.int .i64 m1) ∧ w'.cell? ⟨w3.heap.size + 1, 0, none⟩ = some (.int .u32 (t2 : Int)) ∧ w'.cell? ⟨w3.heap.size + 1, 1, none⟩ = some (.int .u8 (r2 : Int)) ∧ w'.cell? ⟨w3.heap.size + 1, 2, none⟩ = some (.int .i64 m2))
          (first | exact keepT2 PA.out PB.out (drew1 _) (Below.refl _ _) | (go_split_ands; exact keepT2 PA.out PB.out (drew1 _) (by assumption)) | (go_split_ands; exact keepT2 PA.out PB.out (by assumption) (by assumption)))
          ((first | (go_at_call 50; (with_reducible refine (firstOf_any _ _ _ _).mono ?_); rintro e w4 ⟨rfl, b4⟩) | (go_at_call 49; (with_reducible refine (LS.out _).mono ?_); rintro e w6 ⟨rfl, b6⟩)))
      all_goals
        go_wp2
        go_ret
        go_split_ands
        exact ⟨rfl, BL.out.trans (Below.mono (by assumption) BL.out.size)⟩
end Go.Proofs.YtmiepnnpccpicaaGreat.Place

namespace Go.Proofs.YtmiepnnpccpicaaGreat.Place
open Go.RowKit Stamp
attribute [local go_sem ↓] Go.wp_at_zero Go.wp_at_succ
/-- A run written out. -/
def lr (t r m : Nat) (h : t < 4294967296 ∧ r < 256 ∧ m < 10000) : Run := ⟨t, r, m, h.1, h.2.1, by omega⟩
end Go.Proofs.YtmiepnnpccpicaaGreat.Place

namespace Go.Proofs.YtmiepnnpccpicaaGreat.Place
open Go.RowKit Stamp
attribute [local go_sem ↓] Go.wp_at_zero Go.wp_at_succ
theorem cmp_any {p q : List Run} (hp : anyB p = true) (hq : anyB q = true) : cmp p q = hold (all p) (all q) := by
  unfold cmp; rw [if_pos ⟨hp, hq⟩]
end Go.Proofs.YtmiepnnpccpicaaGreat.Place

namespace Go.Proofs.YtmiepnnpccpicaaGreat.Ops
open Go.RowKit Stamp Go.Proofs.YtmiepnnpccpicaaGreat.Place
attribute [local go_sem ↓] Go.wp_at_zero Go.wp_at_succ
attribute [local go_sem] yielded_undef
/-- The last stamp of a place, by its list. -/
theorem lastV_all {l : List Run} (h : mayB l = true) : lastV l = ((((all l).getD ((all l).length - 1) zid).t : Int), (((all l).getD ((all l).length - 1) zid).r : Int)) := by
  have hp := all_pos h
  refine lastV_of (P := (all l).take ((all l).length - 1)) h ?_
  have := List.take_append_drop ((all l).length - 1) (all l)
  rw [List.drop_eq_getElem_cons (by omega), List.drop_eq_nil_iff.2 (by omega)] at this
  rw [List.getD, List.getElem?_eq_getElem (by omega)]
  exact this.symm
end Go.Proofs.YtmiepnnpccpicaaGreat.Ops
