/- A stamp, a slice of stamps that came in: what it holds. Conditions: none. -/
import Derived.Lib.SmallJoins
import Derived.Test.YtdackenaknieaaaGreatPk01
import Derived.Test.YtdackenaknieaaaGreatPk04
import Derived.Test.YtdackenaknieaaaGreatPk05
import Derived.Test.YtdackenaknieaaaGreatPk08
import Derived.Test.YtdackenaknieaaaGreatPk07

namespace Go.Proofs.YtdackenaknieaaaGreat
open Go.Joins Go.ChangeShapes Go.WideShapes Go.ChangeAt Go.RowKit Go.Deep

set_option maxRecDepth 100000 in
theorem kit_cellsId : Tryz.prog.cellsOf 28 = 2 := by kernel_rfl

set_option maxRecDepth 100000 in
theorem wf_u32 {a : Int} (h : (Lit.int .u32 a).wf = true) : ∃ n : Nat, a = (n : Int) ∧ n < 4294967296 := by
  have hb : 0 ≤ a ∧ a ≤ 4294967295 := by simpa [Lit.wf, IntKind.min, IntKind.max, IntKind.signed, IntKind.bits] using h
  exact ⟨a.toNat, by omega, by omega⟩
set_option maxRecDepth 100000 in
theorem wf_u8 {a : Int} (h : (Lit.int .u8 a).wf = true) : ∃ n : Nat, a = (n : Int) ∧ n < 256 := by
  have hb : 0 ≤ a ∧ a ≤ 255 := by simpa [Lit.wf, IntKind.min, IntKind.max, IntKind.signed, IntKind.bits] using h
  exact ⟨a.toNat, by omega, by omega⟩

set_option maxRecDepth 100000 in
theorem id_of {H : Type} {enc : TypeId × Value → H} {W : World} {v : Value} {d : DataW H} {p : List MemPlace} {base : Nat}
    (hv : Value.okWide Tryz.prog W .any base 28 v) (h : DataW.Trod enc Tryz.prog W 0 (fun _ => true) true 28 v d p) :
    ∃ a : Id, v = .agg #[.int .u32 (a.t : Int), .int .u8 (a.r : Int)] := by
  obtain ⟨c0, c1, y0, y1, m, rfl, -, -, hy0, hy1⟩ := open_agg2 Tryz.underlying28 (by kernel_rfl) kit_cellsId hv h
  obtain ⟨a, e0, -, wa⟩ := DataW.trod_int Tryz.underlying26 hy0
  obtain ⟨b, e1, -, wb⟩ := DataW.trod_int Tryz.underlying5 hy1
  simp at e0 e1
  subst e0 e1
  obtain ⟨n, rfl, hn⟩ := wf_u32 wa
  obtain ⟨q, rfl, hq⟩ := wf_u8 wb
  exact ⟨⟨n, q, hn, hq⟩, rfl⟩

end Go.Proofs.YtdackenaknieaaaGreat

/- A slice of runs that came in: what it holds. Conditions: none. -/
namespace Go.Proofs.YtdackenaknieaaaGreat
open Go.Joins Go.ChangeShapes Go.WideShapes Go.ChangeAt Go.RowKit Go.Deep

set_option maxRecDepth 100000 in
theorem kit_cellsRun : Tryz.prog.cellsOf 49 = 3 := by kernel_rfl

end Go.Proofs.YtdackenaknieaaaGreat

/- An operation that came in: what it holds. Conditions: none. -/
namespace Go.Proofs.YtdackenaknieaaaGreat
open Go.Joins Go.ChangeShapes Go.WideShapes Go.ChangeAt Go.RowKit Go.Deep Go.Proofs.YtdackenaknieaaaGreat.Ops

set_option maxRecDepth 100000 in
theorem runs_cells {H : Type} {enc : TypeId × Value → H} {W : World} {v : Value} {fuel : Nat} {y : DataW H × List MemPlace}
    (hf : DataW.trod enc Tryz.prog W 0 (fun _ => true) true fuel 29 [v] = some y) :
    ∃ (ao : Option Addr) (cap : Nat) (l : List Run), v = .slice ao l.length cap ∧ Runs W (.slice ao l.length cap) l := by
  rcases open_slice Tryz.underlying29 hf with ⟨hcs, hx⟩ | ⟨a, len, cap, m, n, D, Pl, hcs, _, hl, hm, hmm, hx, hi⟩
  · obtain rfl : v = .slice none 0 0 := by simpa using hcs
    exact ⟨none, 0, [], rfl, Runs.nil W⟩
  · obtain rfl : v = .slice (some a) len cap := by simpa using hcs
    simp only [if_true] at hmm
    subst hmm
    unfold maxLen at hm
    have each : ∀ i, i < m → ∃ x : Run, W.cell? (a.add (i * 3)) = some (.int .u32 (x.t : Int)) ∧ W.cell? ((a.add (i * 3)).add 1) = some (.int .u8 (x.r : Int)) ∧ W.cell? ((a.add (i * 3)).add 2) = some (.int .i64 x.m) := by
      intro i him
      obtain ⟨cs, hc, ht⟩ := hi i him
      rw [kit_cellsRun] at hc
      obtain ⟨_, hcl, hat⟩ := World.cells?_some hc
      obtain ⟨y0, y1, y2, n2, -, hlen, h0, h1, h2⟩ := trod_struct3 Tryz.underlying49 ht
      match cs, hcl with
      | [c0, c1, c2], _ =>
        have h0' : DataW.trod enc Tryz.prog W 0 (fun _ => true) true n2 26 [c0] = some y0 := h0
        have h1' : DataW.trod enc Tryz.prog W 0 (fun _ => true) true n2 5 [c1] = some y1 := h1
        have h2' : DataW.trod enc Tryz.prog W 0 (fun _ => true) true n2 3 [c2] = some y2 := h2
        obtain ⟨z, e0, -, wz⟩ := DataW.trod_int Tryz.underlying26 h0'
        obtain ⟨u, e1, -, wu⟩ := DataW.trod_int Tryz.underlying5 h1'
        obtain ⟨mm, e2, -, wm⟩ := DataW.trod_int Tryz.underlying3 h2'
        simp at e0 e1 e2
        subst e0 e1 e2
        have hmb : -9223372036854775808 ≤ mm ∧ mm ≤ 9223372036854775807 := by simpa [Lit.wf, IntKind.min, IntKind.max, IntKind.signed, IntKind.bits] using wm
        obtain ⟨tn, rfl, hn⟩ := wf_u32 wz
        obtain ⟨q, rfl, hq⟩ := wf_u8 wu
        have g0 := hat 0 (by omega)
        have g1 := hat 1 (by omega)
        have g2 := hat 2 (by omega)
        exact ⟨⟨tn, q, mm, hn, hq, hmb⟩, by simpa [Addr.add] using g0, by simpa using g1, by simpa using g2⟩
    have hsel : ∃ f : Nat → Run, ∀ i, i < m → W.cell? (a.add (i * 3)) = some (.int .u32 ((f i).t : Int)) ∧ W.cell? ((a.add (i * 3)).add 1) = some (.int .u8 ((f i).r : Int)) ∧ W.cell? ((a.add (i * 3)).add 2) = some (.int .i64 (f i).m) :=
      ⟨fun i => if h : i < m then Classical.choose (each i h) else zrun, fun i h => by simp only [h, dif_pos]; exact Classical.choose_spec (each i h)⟩
    obtain ⟨f, hf⟩ := hsel
    have hxl : ((List.range len).map f).length = len := by simp
    refine ⟨some a, m, (List.range len).map f, by rw [hxl], by rw [runs_len], some a, m, rfl, by omega, hm, by simp, ?_⟩
    by_cases hl0 : len = 0
    · left; subst hl0; rfl
    · right
      obtain ⟨b, off, spot⟩ := a
      have hspot : spot = none := by simpa [Addr.add] using World.cell?_spot (hf 0 (by omega)).1
      subst hspot
      refine ⟨b, off, rfl, World.block_lt_of_cell? W ⟨b, off, none⟩ (by simpa [Addr.add] using (hf 0 (by omega)).1), fun j u hj => ?_⟩
      have hjl : j < (runs ((List.range len).map f)).length := (List.getElem?_eq_some_iff.1 hj).1
      rw [runs_len, hxl] at hjl
      obtain ⟨i, hij⟩ : ∃ i, j = i * 3 ∨ j = i * 3 + 1 ∨ j = i * 3 + 2 := ⟨j / 3, by omega⟩
      have e := runs_get ((List.range len).map f) i (by rw [hxl]; omega)
      have ef : ((List.range len).map f).getD i zrun = f i := by simp [List.getD, show i < len by omega]
      rw [ef] at e
      have g := hf i (by omega)
      rw [add_plain, add_plain, add_plain] at g
      rcases hij with rfl | rfl | rfl
      · rw [e.1] at hj
        rw [← hj]
        exact g.1
      · rw [e.2.1] at hj
        rw [← hj]
        exact g.2.1
      · rw [e.2.2] at hj
        rw [← hj]
        exact g.2.2

theorem array5 {α : Type} {cs : Array α} (h : cs.size = 5) : ∃ c0 c1 c2 c3 c4, cs = #[c0, c1, c2, c3, c4] := by
  obtain ⟨l⟩ := cs
  match l, h with
  | [c0, c1, c2, c3, c4], _ => exact ⟨c0, c1, c2, c3, c4, rfl⟩
set_option maxRecDepth 100000 in
theorem kit_cellsOp : Tryz.prog.cellsOf 31 = 5 := by kernel_rfl

set_option maxRecDepth 100000 in
theorem op_of {H : Type} {enc : TypeId × Value → H} {W : World} {v : Value} {d : DataW H} {p : List MemPlace} {base : Nat}
    (hv : Value.okWide Tryz.prog W .any base 31 v) (h : DataW.Trod enc Tryz.prog W 0 (fun _ => true) true 31 v d p) :
    ∃ (o : Opn) (ao : Option Addr) (cap : Nat), v = opv o (.slice ao o.pl.length cap) ∧ Runs W (.slice ao o.pl.length cap) o.pl := by
  obtain ⟨cs, rfl, hsz⟩ := okWide_struct Tryz.underlying31 hv
  obtain ⟨c0, c1, c2, c3, c4, rfl⟩ := array5 (hsz.trans kit_cellsOp)
  obtain ⟨fuel, hf⟩ := h
  obtain ⟨y0, y1, y2, y3, n, -, -, h0, h1, h2, h3⟩ := trod_struct4 Tryz.underlying31 hf
  have h0' : DataW.trod enc Tryz.prog W 0 (fun _ => true) true n 5 [c0] = some y0 := h0
  have h1' : DataW.trod enc Tryz.prog W 0 (fun _ => true) true n 28 [c1, c2] = some y1 := h1
  have h2' : DataW.trod enc Tryz.prog W 0 (fun _ => true) true n 29 [c3] = some y2 := h2
  have h3' : DataW.trod enc Tryz.prog W 0 (fun _ => true) true n 3 [c4] = some y3 := h3
  obtain ⟨z0, z1, n2, -, -, g0, g1⟩ := trod_struct2 Tryz.underlying28 h1'
  have g0' : DataW.trod enc Tryz.prog W 0 (fun _ => true) true n2 26 [c1] = some z0 := g0
  have g1' : DataW.trod enc Tryz.prog W 0 (fun _ => true) true n2 5 [c2] = some z1 := g1
  obtain ⟨k, e0, -, wk⟩ := DataW.trod_int Tryz.underlying5 h0'
  obtain ⟨t, e1, -, wt⟩ := DataW.trod_int Tryz.underlying26 g0'
  obtain ⟨r, e2, -, wr⟩ := DataW.trod_int Tryz.underlying5 g1'
  obtain ⟨q, e4, -, wq⟩ := DataW.trod_int Tryz.underlying3 h3'
  obtain ⟨ao, cap, l, e3, hl⟩ := runs_cells h2'
  simp at e0 e1 e2 e4
  subst e0 e1 e2 e3 e4
  have hq : -9223372036854775808 ≤ q ∧ q ≤ 9223372036854775807 := by simpa [Lit.wf, IntKind.min, IntKind.max, IntKind.signed, IntKind.bits] using wq
  obtain ⟨k, rfl, hk⟩ := wf_u8 wk
  obtain ⟨t, rfl, ht⟩ := wf_u32 wt
  obtain ⟨r, rfl, hr⟩ := wf_u8 wr
  exact ⟨⟨k, t, r, l, q, hk, ht, hr, hq⟩, ao, cap, rfl, hl⟩
end Go.Proofs.YtdackenaknieaaaGreat

/- Slices of elements that came in: what they hold, and how long the slices in them can be. Conditions: none. -/
namespace Go.Proofs.YtdackenaknieaaaGreat
open Go.Joins Go.ChangeShapes Go.WideShapes Go.ChangeAt Go.RowKit Go.Deep Go.Proofs.YtdackenaknieaaaGreat.Ops

/-- A datum's slices are each within reach. -/
def Fits {H : Type} (t : TypeId) (d : DataW H) : Prop := ∀ n ∈ DataW.weights Tryz.prog t d, n ≤ reachBytes
theorem weightsAll_in {H : Type} {P : Program} {e : TypeId} {d : DataW H} : ∀ {l : List (DataW H)}, d ∈ l → ∀ n ∈ DataW.weights P e d, n ∈ DataW.weightsAll P e l
  | x :: l, h, n, hn => by
    simp only [DataW.weightsAll, List.mem_append]
    rcases List.mem_cons.1 h with rfl | h
    · exact .inl hn
    · exact .inr (weightsAll_in h n hn)
theorem fits_slice {H : Type} {ts te : TypeId} (hu : Tryz.prog.underlying ts = some (.slice te)) {ds sp : List (DataW H)} (h : Fits ts (.slice ds sp)) :
    (ds.length + sp.length) * Tryz.prog.bytesOf te ≤ reachBytes ∧ ∀ d ∈ ds, Fits te d := by
  unfold Fits at h
  simp only [DataW.weights, hu, List.mem_cons, List.mem_append] at h
  exact ⟨h _ (.inl rfl), fun d hd n hn => h n (.inr (.inl (weightsAll_in hd n hn)))⟩

theorem rows_flat {α : Type} (E : Enc α) {W : World} {g : Nat → List Value} {f : Nat → α} : ∀ (k s : Nat), (∀ i, s ≤ i → i < s + k → E.inn W (g i) (f i)) → E.rows W ((List.range' s k).flatMap g) ((List.range' s k).map f)
  | 0, _, _ => rfl
  | k + 1, s, h => by
    rw [List.range'_succ, List.flatMap_cons, List.map_cons]
    exact ⟨_, _, rfl, h s (Nat.le_refl _) (by omega), rows_flat E k (s + 1) (fun i h1 h2 => h i (by omega) (by omega))⟩
theorem flat_len {sz : Nat} {g : Nat → List Value} : ∀ (k s : Nat), (∀ i, s ≤ i → i < s + k → (g i).length = sz) → ((List.range' s k).flatMap g).length = k * sz
  | 0, _, _ => by simp
  | k + 1, s, h => by
    rw [List.range'_succ, List.flatMap_cons, List.length_append, h s (Nat.le_refl _) (by omega), flat_len k (s + 1) (fun i h1 h2 => h i (by omega) (by omega)), Nat.succ_mul]
    omega
theorem flat_get {sz : Nat} {g : Nat → List Value} : ∀ (k s i j : Nat), i < k → j < sz → (∀ i, s ≤ i → i < s + k → (g i).length = sz) → ((List.range' s k).flatMap g)[i * sz + j]? = (g (s + i))[j]?
  | 0, _, _, _, h, _, _ => by omega
  | k + 1, s, 0, j, _, hj, h => by
    show _ = (g s)[j]?
    rw [List.range'_succ, List.flatMap_cons, Nat.zero_mul, Nat.zero_add, List.getElem?_append_left (by rw [h s (Nat.le_refl _) (by omega)]; exact hj)]
  | k + 1, s, i + 1, j, hi, hj, h => by
    have hs := h s (Nat.le_refl _) (by omega)
    rw [List.range'_succ, List.flatMap_cons, List.getElem?_append_right (by rw [hs, Nat.succ_mul]; omega), hs, show (i + 1) * sz + j - sz = i * sz + j by rw [Nat.succ_mul]; omega,
      flat_get k (s + 1) i j (by omega) hj (fun i h1 h2 => h i (by omega) (by omega)), show s + 1 + i = s + (i + 1) by omega]

set_option maxRecDepth 100000 in
/-- What a slice's reading gives, out of what each element's gives. -/
theorem seq_cells {α : Type} (E : Enc α) {ts te : TypeId} (hu : Tryz.prog.underlying ts = some (.slice te)) (hc : Tryz.prog.cellsOf te = E.sz) {H : Type} {enc : TypeId × Value → H} {W : World} {R : α → Prop}
    (hel : ∀ (fuel : Nat) (cs : List Value) (y : DataW H × List MemPlace), cs.length = E.sz → DataW.trod enc Tryz.prog W 0 (fun _ => true) true fuel te cs = some y → ∃ a, E.inn W cs a ∧ (Fits te y.1 → R a))
    {v : Value} {fuel : Nat} {y : DataW H × List MemPlace} (hf : DataW.trod enc Tryz.prog W 0 (fun _ => true) true fuel ts [v] = some y) :
    ∃ (ao : Option Addr) (cap : Nat) (l : List α), v = .slice ao l.length cap ∧ Seq E W (.slice ao l.length cap) l ∧ (Fits ts y.1 → l.length * Tryz.prog.bytesOf te ≤ reachBytes ∧ ∀ a ∈ l, R a) := by
  have hp := E.pos
  rcases open_slice hu hf with ⟨hcs, hx⟩ | ⟨a, len, cap, m, n, D, Pl, hcs, _, hl, hm, hmm, hx, hi⟩
  · obtain rfl : v = .slice none 0 0 := by simpa using hcs
    exact ⟨none, 0, [], rfl, Seq.nil E W, fun _ => ⟨by simp, by simp⟩⟩
  · obtain rfl : v = .slice (some a) len cap := by simpa using hcs
    simp only [if_true] at hmm
    subst hmm
    unfold maxLen at hm
    by_cases hl0 : len = 0
    · subst hl0
      exact ⟨some a, m, [], rfl, ⟨[], ⟨by simp, some a, m, rfl, by omega, hm, by simp, .inl rfl⟩, rfl⟩, fun _ => ⟨by simp, by simp⟩⟩
    have each : ∀ i, i < m → ∃ c x, c.length = E.sz ∧ (∀ j, j < E.sz → W.cell? ((a.add (i * E.sz)).add j) = c[j]?) ∧ E.inn W c x ∧ (Fits te (D i) → R x) := by
      intro i him
      obtain ⟨cs, h1, h2⟩ := hi i him
      rw [hc] at h1
      obtain ⟨_, hcl, hat⟩ := World.cells?_some h1
      obtain ⟨x, h3, h4⟩ := hel n cs _ hcl h2
      exact ⟨cs, x, hcl, hat, h3, h4⟩
    have hm0 : 0 < m := by omega
    have hsel : ∃ (g : Nat → List Value) (f : Nat → α), ∀ i, i < m → (g i).length = E.sz ∧ (∀ j, j < E.sz → W.cell? ((a.add (i * E.sz)).add j) = (g i)[j]?) ∧ E.inn W (g i) (f i) ∧ (Fits te (D i) → R (f i)) :=
      ⟨fun i => if h : i < m then Classical.choose (each i h) else Classical.choose (each 0 hm0), fun i => if h : i < m then Classical.choose (Classical.choose_spec (each i h)) else Classical.choose (Classical.choose_spec (each 0 hm0)),
        fun i h => by simp only [h, dif_pos]; exact Classical.choose_spec (Classical.choose_spec (each i h))⟩
    obtain ⟨g, f, hgf⟩ := hsel
    have hxl : ((List.range' 0 len).map f).length = len := by simp
    have hgl : ∀ i, 0 ≤ i → i < 0 + len → (g i).length = E.sz := fun i _ h => (hgf i (by omega)).1
    have hcl := flat_len (sz := E.sz) (g := g) len 0 hgl
    refine ⟨some a, m, (List.range' 0 len).map f, by rw [hxl], ⟨(List.range' 0 len).flatMap g, ⟨by rw [hxl, hcl], some a, m, rfl, by omega, hm, by simp, ?_⟩, rows_flat E len 0 (fun i _ h => (hgf i (by omega)).2.2.1)⟩, ?_⟩
    · right
      obtain ⟨c0, x0, hc0, ha0, _, _⟩ := each 0 hm0
      obtain ⟨u0, hu0⟩ : ∃ u, c0[0]? = some u := ⟨c0[0]'(by omega), List.getElem?_eq_getElem (by omega)⟩
      have h00 := (ha0 0 hp).trans hu0
      obtain ⟨b, off, spot⟩ := a
      have hspot : spot = none := by simpa [Addr.add] using World.cell?_spot h00
      subst hspot
      refine ⟨b, off, rfl, World.block_lt_of_cell? W ⟨b, off, none⟩ (by simpa [Addr.add] using h00), fun j u hj => ?_⟩
      have hjl : j < ((List.range' 0 len).flatMap g).length := (List.getElem?_eq_some_iff.1 hj).1
      rw [hcl] at hjl
      have hij : j = (j / E.sz) * E.sz + j % E.sz := by rw [Nat.mul_comm]; exact (Nat.div_add_mod j E.sz).symm
      have hi1 : j / E.sz < len := Nat.div_lt_of_lt_mul (by rw [Nat.mul_comm]; exact hjl)
      have hj1 : j % E.sz < E.sz := Nat.mod_lt _ hp
      rw [hij, flat_get len 0 (j / E.sz) (j % E.sz) hi1 hj1 hgl, Nat.zero_add, ← (hgf (j / E.sz) (by omega)).2.1 _ hj1] at hj
      rw [← hj, add_plain, add_plain, Nat.add_assoc, ← hij]
    · intro hw
      rw [hx] at hw
      obtain ⟨h1, h2⟩ := fits_slice hu hw
      refine ⟨Nat.le_trans (Nat.mul_le_mul_right _ (by simp)) h1, fun x hx => ?_⟩
      obtain ⟨i, hi2, rfl⟩ := List.mem_map.1 hx
      have hil : i < len := by have := List.mem_range'_1.1 hi2; omega
      exact (hgf i (by omega)).2.2.2 (h2 _ (List.mem_map.2 ⟨i, List.mem_range.2 hil, rfl⟩))

/-! ### Runs, operations -/
def runE : Enc Run where
  sz := 3
  pos := by decide
  inn _ cs x := cs = [.int .u32 (x.t : Int), .int .u8 (x.r : Int), .int .i64 x.m]
  len := by rintro w cs x rfl; rfl
  one := by
    rintro w cs x rfl u hu
    simp only [List.mem_cons, List.not_mem_nil, or_false] at hu
    rcases hu with rfl | rfl | rfl <;> rfl
  keep := by rintro w w' cs x _ h; exact h
theorem runE_rows {w : World} : ∀ {cs : List Value} {l : List Run}, runE.rows w cs l → cs = runs l
  | _, [], h => h
  | _, _ :: _, ⟨c, d, h1, h2, h3⟩ => by
    rw [h1, show c = _ from h2, runE_rows h3]
    rfl
set_option maxRecDepth 100000 in
theorem kit_bytesRun : Tryz.prog.bytesOf 49 = 16 := by kernel_rfl
set_option maxRecDepth 100000 in
theorem kit_bytesOp : Tryz.prog.bytesOf 31 = 48 := by kernel_rfl
set_option maxRecDepth 100000 in
theorem run_cells {H : Type} {enc : TypeId × Value → H} {W : World} {fuel : Nat} {cs : List Value} {y : DataW H × List MemPlace} (hcl : cs.length = 3)
    (ht : DataW.trod enc Tryz.prog W 0 (fun _ => true) true fuel 49 cs = some y) : ∃ x : Run, cs = [.int .u32 (x.t : Int), .int .u8 (x.r : Int), .int .i64 x.m] := by
  obtain ⟨y0, y1, y2, n2, -, hlen, h0, h1, h2⟩ := trod_struct3 Tryz.underlying49 ht
  match cs, hcl with
  | [c0, c1, c2], _ =>
    have h0' : DataW.trod enc Tryz.prog W 0 (fun _ => true) true n2 26 [c0] = some y0 := h0
    have h1' : DataW.trod enc Tryz.prog W 0 (fun _ => true) true n2 5 [c1] = some y1 := h1
    have h2' : DataW.trod enc Tryz.prog W 0 (fun _ => true) true n2 3 [c2] = some y2 := h2
    obtain ⟨z, e0, -, wz⟩ := DataW.trod_int Tryz.underlying26 h0'
    obtain ⟨u, e1, -, wu⟩ := DataW.trod_int Tryz.underlying5 h1'
    obtain ⟨mm, e2, -, wm⟩ := DataW.trod_int Tryz.underlying3 h2'
    simp at e0 e1 e2
    subst e0 e1 e2
    have hmb : -9223372036854775808 ≤ mm ∧ mm ≤ 9223372036854775807 := by simpa [Lit.wf, IntKind.min, IntKind.max, IntKind.signed, IntKind.bits] using wm
    obtain ⟨tn, rfl, hn⟩ := wf_u32 wz
    obtain ⟨q, rfl, hq⟩ := wf_u8 wu
    exact ⟨⟨tn, q, mm, hn, hq, hmb⟩, rfl⟩
set_option maxRecDepth 100000 in
/-- A slice of runs that is read, and how long it can be. -/
theorem runs_fits {H : Type} {enc : TypeId × Value → H} {W : World} {v : Value} {fuel : Nat} {y : DataW H × List MemPlace}
    (hf : DataW.trod enc Tryz.prog W 0 (fun _ => true) true fuel 29 [v] = some y) :
    ∃ (ao : Option Addr) (cap : Nat) (l : List Run), v = .slice ao l.length cap ∧ Runs W (.slice ao l.length cap) l ∧ (Fits 29 y.1 → l.length ≤ 8796093022208) := by
  obtain ⟨ao, cap, l, h1, ⟨cs, h2, h3⟩, h4⟩ := seq_cells (R := fun _ => True) runE Tryz.underlying29 kit_cellsRun (fun fuel cs y hcl ht => by
    obtain ⟨x, hx⟩ := run_cells hcl ht
    exact ⟨x, hx, fun _ => trivial⟩) hf
  rw [runE_rows h3] at h2
  refine ⟨ao, cap, l, h1, h2, fun h => ?_⟩
  have h5 := (h4 h).1
  rw [kit_bytesRun] at h5
  unfold reachBytes at h5
  omega
set_option maxRecDepth 100000 in
theorem op_cells {H : Type} {enc : TypeId × Value → H} {W : World} {fuel : Nat} {cs : List Value} {y : DataW H × List MemPlace} (hcl : cs.length = 5)
    (ht : DataW.trod enc Tryz.prog W 0 (fun _ => true) true fuel 31 cs = some y) : ∃ o : Opn, opE.inn W cs o ∧ (Fits 31 y.1 → o.pl.length ≤ 8796093022208) := by
  obtain ⟨y0, y1, y2, y3, n, hy, -, h0, h1, h2, h3⟩ := trod_struct4 Tryz.underlying31 ht
  match cs, hcl with
  | [c0, c1, c2, c3, c4], _ =>
    have h0' : DataW.trod enc Tryz.prog W 0 (fun _ => true) true n 5 [c0] = some y0 := h0
    have h1' : DataW.trod enc Tryz.prog W 0 (fun _ => true) true n 28 [c1, c2] = some y1 := h1
    have h2' : DataW.trod enc Tryz.prog W 0 (fun _ => true) true n 29 [c3] = some y2 := h2
    have h3' : DataW.trod enc Tryz.prog W 0 (fun _ => true) true n 3 [c4] = some y3 := h3
    obtain ⟨z0, z1, n2, -, -, g0, g1⟩ := trod_struct2 Tryz.underlying28 h1'
    have g0' : DataW.trod enc Tryz.prog W 0 (fun _ => true) true n2 26 [c1] = some z0 := g0
    have g1' : DataW.trod enc Tryz.prog W 0 (fun _ => true) true n2 5 [c2] = some z1 := g1
    obtain ⟨k, e0, -, wk⟩ := DataW.trod_int Tryz.underlying5 h0'
    obtain ⟨t, e1, -, wt⟩ := DataW.trod_int Tryz.underlying26 g0'
    obtain ⟨r, e2, -, wr⟩ := DataW.trod_int Tryz.underlying5 g1'
    obtain ⟨q, e4, -, wq⟩ := DataW.trod_int Tryz.underlying3 h3'
    obtain ⟨ao, cap, l, e3, hl, hb⟩ := runs_fits h2'
    simp at e0 e1 e2 e4
    subst e0 e1 e2 e3 e4
    have hq : -9223372036854775808 ≤ q ∧ q ≤ 9223372036854775807 := by simpa [Lit.wf, IntKind.min, IntKind.max, IntKind.signed, IntKind.bits] using wq
    obtain ⟨k, rfl, hk⟩ := wf_u8 wk
    obtain ⟨t, rfl, ht2⟩ := wf_u32 wt
    obtain ⟨r, rfl, hr⟩ := wf_u8 wr
    refine ⟨⟨k, t, r, l, q, hk, ht2, hr, hq⟩, ⟨_, rfl, hl⟩, fun h => hb (fun n hn => h n ?_)⟩
    rw [hy]
    simp only [DataW.weights, Tryz.underlying31, List.map_cons, DataW.weightsEach, List.mem_append]
    exact .inr (.inr (.inl hn))
set_option maxRecDepth 100000 in
/-- An argument that is a slice of operations. -/
theorem ops_of {H : Type} {enc : TypeId × Value → H} {W : World} {v : Value} {d : DataW H} {p : List MemPlace} {base : Nat}
    (hv : Value.okWide Tryz.prog W .any base 33 v) (h : DataW.Trod enc Tryz.prog W 0 (fun _ => true) true 33 v d p) :
    ∃ (ao : Option Addr) (cap : Nat) (l : List Opn), v = .slice ao l.length cap ∧ OpL W (.slice ao l.length cap) l ∧ (Fits 33 d → l.length ≤ 2932031007402 ∧ ∀ o ∈ l, o.pl.length ≤ 8796093022208) := by
  obtain ⟨a0, len, cap, rfl⟩ := okWide_slice Tryz.underlying33 hv
  obtain ⟨fuel, hf⟩ := h
  rw [show (Value.slice a0 len cap).cells.toList = [Value.slice a0 len cap] by simp [Value.cells]] at hf
  obtain ⟨ao, cap, l, h1, h2, h3⟩ := seq_cells (R := fun o : Opn => o.pl.length ≤ 8796093022208) opE Tryz.underlying33 kit_cellsOp (fun fuel cs y hcl ht => op_cells hcl ht) hf
  refine ⟨ao, cap, l, h1, h2, fun h => ?_⟩
  obtain ⟨h4, h5⟩ := h3 h
  rw [kit_bytesOp] at h4
  unfold reachBytes at h4
  exact ⟨by omega, h5⟩
end Go.Proofs.YtdackenaknieaaaGreat

/- octavoref06.Cut: what it answers. Conditions: the slice's cells are runs that may be, one behind the other. -/
namespace Go.Proofs.YtdackenaknieaaaGreat.Covers
open Go.RowKit Go.WideShapes Ops Stamp Bags Marks Homes Go.Proofs.YtdackenaknieaaaGreat.Place
attribute [local go_sem ↓] Go.wp_at_zero Go.wp_at_succ
attribute [local go_sem] yielded_undef

def runE : Enc Run where
  sz := 3
  pos := by decide
  inn _ cs x := cs = [.int .u32 (x.t : Int), .int .u8 (x.r : Int), .int .i64 x.m]
  len := by rintro w cs x rfl; rfl
  one := by
    rintro w cs x rfl u hu
    simp only [List.mem_cons, List.not_mem_nil, or_false] at hu
    rcases hu with rfl | rfl | rfl <;> rfl
  keep := by rintro w w' cs x _ h; exact h
theorem runE_rows {w : World} : ∀ {cs : List Value} {l : List Run}, runE.rows w cs l → cs = runs l
  | _, [], h => h
  | _, _ :: _, ⟨c, d, h1, h2, h3⟩ => by
    rw [h1, show c = _ from h2, runE_rows h3]
    rfl
theorem shr_runs {w0 w : World} {v : Value} {l : List Run} (h : Shr runE 49 w0 w v l) : Runs w v l := by
  obtain ⟨cs, h1, h2⟩ := h
  have h3 := Sees.own h1
  rw [runE_rows h2] at h3
  exact h3
theorem cutN_step {p : List Run} {j r : Nat} (hj : j < p.length) (hr : 0 < r) :
    cutN (p.drop j) r = if (p.getD j zrun).m ≤ (r : Int) then p.getD j zrun :: cutN (p.drop (j + 1)) (r - (p.getD j zrun).m.toNat) else [mkRun (p.getD j zrun).t (p.getD j zrun).r (r : Int)] := by
  have e : p.drop j = p.getD j zrun :: p.drop (j + 1) := by
    rw [List.getD_eq_getElem?_getD, List.getElem?_eq_getElem hj]
    exact List.drop_eq_getElem_cons hj
  rw [e]
  show (if r = 0 then _ else _) = _
  rw [if_neg (by omega)]

set_option maxRecDepth 100000 in
set_option maxHeartbeats 4000000 in
theorem refCut_any {v : Value} {p : List Run} {w : World} (hv : Runs w v p) (hc : Chain p) (hl : p.length ≤ 100) (k : Nat) (hk : k ≤ 5000) :
    Calls Tryz.prog 27 #[v, .int .i64 (k : Int)] w fun e w' => ∃ v', e = .returned v' ∧ Runs w' v' (cutN p k) ∧ Below w.heap.size w w' := by
  obtain ⟨ao, cap, rfl⟩ := hv.shape
  obtain ⟨n, hn⟩ : ∃ n, n = p.length := ⟨_, rfl⟩
  have hnm : n ≤ 100 := by omega
  have HV : Hid (∀ W : World, Below w.heap.size w W → Runs W (.slice ao p.length cap) p) := fun W h => hv.keeps h
  have HN := Lib.hid hn
  have HC := Lib.hid hc
  rw [← hn]
  have S0 : Hid (Shr runE 49 w w (.slice none 0 0) []) := Shr.nil _ _ _ _
  have L0 : Hid (cutN p k = [] ++ cutN (p.drop 0) k) := rfl
  have M0 : Hid (0 = ([] : List Run).length) := rfl
  have B0 : Hid (Below w.heap.size w w) := Below.refl _ _
  obtain ⟨R, hR⟩ : ∃ R, cutN p k = R := ⟨_, rfl⟩
  rw [hR] at L0 ⊢
  clear hv hn hl hc hR
  go_enter Tryz.func27, Tryz.ntmps27
  go_wp2
  go_loopw [1, 5, 6] (fun y v i wr => ∃ (j r m : Nat) (L : List Run), j ≤ n ∧ m ≤ j ∧ r ≤ 5000 ∧ y = .int .i64 (r : Int) ∧ i = .int .i64 (j : Int) ∧ (∃ ao cap, v = .slice ao m cap) ∧ Hid (m = L.length) ∧ Hid (R = L ++ cutN (p.drop j) r) ∧ Hid (Shr runE 49 w wr v L) ∧ Hid (Below w.heap.size w wr)) (fun _ _ i _ => n - (intOf i).toNat)
  case atStart => exact ⟨0, k, 0, [], by omega, by omega, hk, rfl, rfl, ⟨none, 0, rfl⟩, M0, L0, S0, B0⟩
  case round =>
    clear S0 M0 B0 L0
    obtain ⟨j, r, m, L, hj, hmj, hr, rfl, rfl, ⟨aoL, capL, rfl⟩, hM, hL, hshr, hbel⟩ := hrel
    by_cases hjn : j < n
    rotate_left
    · have q3 : decide (j < n) = false := by simpa using hjn
      have hR : R = L := by
        have h1 := hL.out
        rw [List.drop_of_length_le (by have := HN.out; omega)] at h1
        simpa [cutN] using h1
      have HR : Hid (Runs wr (.slice aoL m capL) R) := by unfold Hid; rw [hR]; exact shr_runs hshr.out
      clear hR hL hM
      go_wp2
      go_ret
      exact ⟨_, rfl, HR.out, hbel.out⟩
    have q3 : decide (j < n) = true := by simpa using hjn
    by_cases hr0 : r = 0
    · subst hr0
      have q5 : decide ((0 : Int) < ((0 : Nat) : Int)) = false := rfl
      have hR : R = L := by
        have h1 := hL.out
        rw [cutN_zero] at h1
        simpa using h1
      have HR : Hid (Runs wr (.slice aoL m capL) R) := by unfold Hid; rw [hR]; exact shr_runs hshr.out
      clear hR hL hM
      go_wp2
      go_ret
      exact ⟨_, rfl, HR.out, hbel.out⟩
    have q4 : decide (0 < r) = true := decide_eq_true (by omega)
    have q4' : decide ((0 : Int) < (r : Int)) = true := decide_eq_true (by omega)
    have q6 : (0 : Int) ≤ (j : Int) := by omega
    have q7 : (j : Int) < (n : Int) := by omega
    obtain ⟨b, off, e, hb, h0, h1, h2⟩ := (HV.out wr hbel.out).at j (by rw [← HN.out]; exact hjn)
    subst e
    have hx1 : Go.Proofs.YtdackenaknieaaaGreat.Place.One (p.getD j zrun) := chain_one HC.out (by rw [← HN.out]; exact hjn)
    have hst := cutN_step (r := r) (by rw [← HN.out]; exact hjn) (by omega)
    obtain ⟨x, hx⟩ : ∃ x, p.getD j zrun = x := ⟨_, rfl⟩
    rw [hx] at h0 h1 h2 hx1 hst
    obtain ⟨o1, o2, o3, o4, o5, o6⟩ := hx1
    have hst2 := hL.out.trans (by rw [hst] : L ++ cutN (p.drop j) r = L ++ _)
    have INN : Hid (∀ z : Run, runE.inn w [.int .u32 (z.t : Int), .int .u8 (z.r : Int), .int .i64 z.m] z) := fun z => rfl
    obtain ⟨t, rr, mm, ht, hrr, hmm⟩ := x
    simp only at h0 h1 h2 o1 o2 o3 o4 o5 o6 hst2
    have hne : ¬ b = wr.heap.size := by omega
    clear hst hx hL
    by_cases hle : mm ≤ (r : Int)
    · rw [if_pos hle] at hst2
      obtain ⟨mn, rfl⟩ : ∃ mn : Nat, mm = (mn : Int) := ⟨mm.toNat, by omega⟩
      have d1 : decide ((r : Int) < (mn : Int)) = false := decide_eq_false (by omega)
      have d2 : decide (r < mn) = false := decide_eq_false (by omega)
      have e1 : (r : Int) - (mn : Int) = ((r - mn : Nat) : Int) := by omega
      have e2 : IntKind.i64.wrap ((r : Int) - (mn : Int)) = ((r - mn : Nat) : Int) := by rw [← e1]; exact IntWalk.i64_in _ (by omega)
      have HST : Hid (R = (L ++ [(⟨t, rr, (mn : Int), ht, hrr, hmm⟩ : Run)]) ++ cutN (p.drop (j + 1)) (r - mn)) := by
        unfold Hid
        rw [hst2, List.append_assoc]
        rfl
      have INX : Hid (runE.inn w [.int .u32 (t : Int), .int .u8 (rr : Int), .int .i64 (mn : Int)] (⟨t, rr, (mn : Int), ht, hrr, hmm⟩ : Run)) := INN.out ⟨t, rr, (mn : Int), ht, hrr, hmm⟩
      obtain ⟨X, hX⟩ : ∃ X : Run, (⟨t, rr, (mn : Int), ht, hrr, hmm⟩ : Run) = X := ⟨_, rfl⟩
      rw [hX] at HST INX
      have BL := Lib.hid ((Below.refl wr.heap.size wr).alloc (Nat.le_refl _) (.cells #[.int .u32 (t : Int), .int .u8 (rr : Int), .int .i64 (mn : Int)] 49))
      have SH := Lib.hid (hshr.out.keeps BL.out)
      have BW := Lib.hid (bt hbel.out BL.out)
      have HZ := Lib.hid BW.out.size
      have HG : Hid ((wr.alloc (.cells #[.int .u32 (t : Int), .int .u8 (rr : Int), .int .i64 (mn : Int)] 49)).heap.size = wr.heap.size + 1) := Array.size_push _
      obtain ⟨rn, hrn⟩ : ∃ rn, r - mn = rn := ⟨_, rfl⟩
      rw [hrn] at HST e1 e2
      have hrn5 : rn ≤ 5000 := by omega
      have HLL : Hid (m + 1 = (L ++ [X]).length) := by unfold Hid; rw [List.length_append, List.length_singleton, ← hM.out]
      clear hst2 INN hX o1 o2 o3 o6 hrn
      go_wp2_with (at_builtin; refine wpList_append_enc (E := runE) Tryz.underlying29 run_info rfl (w0 := w) (wp := wr.alloc (.cells #[.int .u32 (t : Int), .int .u8 (rr : Int), .int .i64 (mn : Int)] 49)) (by rfl) (.tmp 32) (.tmp 34) (by rfl) (by rfl) SH.out (G := wr.heap.size + 1) (by rfl) HG.out (c := #[.int .u32 (t : Int), .int .u8 (rr : Int), .int .i64 (mn : Int)]) INX.out hM.out (by omega) (by omega) HZ.out ?_)
      rintro v6 w6 s6 va vc rfl b6
      have S6 := Lib.hid s6
      have B6 := Lib.hid (BW.out.trans b6)
      clear s6 b6 SH BW HZ HG BL h0 h1 h2 hshr hbel
      go_wp2
      go_roundw
      case rel => exact ⟨j + 1, rn, m + 1, L ++ [X], by omega, by omega, hrn5, rfl, by go_num, ⟨va, vc, rfl⟩, HLL, HST, S6, B6⟩
      case measure => simp [intOf]; omega
    · rw [if_neg hle] at hst2
      have d1 : decide ((r : Int) < mm) = true := decide_eq_true (by omega)
      have HST : Hid (R = (L ++ [mkRun t rr (r : Int)]) ++ cutN (p.drop (j + 1)) 0) := by
        unfold Hid
        rw [hst2, cutN_zero, List.append_nil]
      have INX : Hid (runE.inn w [.int .u32 (t : Int), .int .u8 (rr : Int), .int .i64 (r : Int)] (mkRun t rr (r : Int))) := by
        have := INN.out (mkRun t rr (r : Int))
        rw [mkRun_t ht, mkRun_r hrr, mkRun_m (by omega)] at this
        exact this
      obtain ⟨X, hX⟩ : ∃ X : Run, mkRun t rr (r : Int) = X := ⟨_, rfl⟩
      rw [hX] at HST INX
      have BL := Lib.hid ((Below.refl wr.heap.size wr).alloc (Nat.le_refl _) (.cells #[.int .u32 (t : Int), .int .u8 (rr : Int), .int .i64 (r : Int)] 49))
      have SH := Lib.hid (hshr.out.keeps BL.out)
      have BW := Lib.hid (bt hbel.out BL.out)
      have HZ := Lib.hid BW.out.size
      have HG : Hid ((wr.alloc (.cells #[.int .u32 (t : Int), .int .u8 (rr : Int), .int .i64 (r : Int)] 49)).heap.size = wr.heap.size + 1) := Array.size_push _
      have e1 : (r : Int) - (r : Int) = 0 := by omega
      have HLL : Hid (m + 1 = (L ++ [X]).length) := by unfold Hid; rw [List.length_append, List.length_singleton, ← hM.out]
      clear hst2 INN hX o1 o2 o3 o4 o5 o6
      go_wp2_with (at_builtin; refine wpList_append_enc (E := runE) Tryz.underlying29 run_info rfl (w0 := w) (wp := wr.alloc (.cells #[.int .u32 (t : Int), .int .u8 (rr : Int), .int .i64 (r : Int)] 49)) (by rfl) (.tmp 32) (.tmp 34) (by rfl) (by rfl) SH.out (G := wr.heap.size + 1) (by rfl) HG.out (c := #[.int .u32 (t : Int), .int .u8 (rr : Int), .int .i64 (r : Int)]) INX.out hM.out (by omega) (by omega) HZ.out ?_)
      rintro v6 w6 s6 va vc rfl b6
      have S6 := Lib.hid s6
      have B6 := Lib.hid (BW.out.trans b6)
      clear s6 b6 SH BW HZ HG BL h0 h1 h2 hshr hbel
      go_wp2
      go_roundw
      case rel => exact ⟨j + 1, 0, m + 1, L ++ [X], by omega, by omega, by omega, rfl, by go_num, ⟨va, vc, rfl⟩, HLL, HST, S6, B6⟩
      case measure => simp [intOf]; omega
end Go.Proofs.YtdackenaknieaaaGreat.Covers
