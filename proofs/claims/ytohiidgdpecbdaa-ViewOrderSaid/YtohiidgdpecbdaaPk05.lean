/- Slices of elements of any kind, whose cells may hold slices themselves: what such a slice value holds. Conditions: none. -/
import Derived.RowKit
import Derived.Test.YtohiidgdpecbdaaPk01
import Derived.Test.YtohiidgdpecbdaaPk04
import Derived.Test.YtohiidgdpecbdaaPk03

namespace Go.Proofs.Ytohiidgdpecbdaa
open Go.RowKit Go.WideShapes

/-- How elements of a kind lie in cells: how many cells, and what they hold in a world. -/
structure Enc (α : Type) where
  sz : Nat
  pos : 0 < sz
  inn : World → List Value → α → Prop
  len : ∀ {w : World} {cs : List Value} {a : α}, inn w cs a → cs.length = sz
  one : ∀ {w : World} {cs : List Value} {a : α}, inn w cs a → ∀ u ∈ cs, u.oneCell' = true
  keep : ∀ {w w' : World} {cs : List Value} {a : α}, Below w.heap.size w w' → inn w cs a → inn w' cs a

/-- Elements one behind the other. -/
def Enc.rows {α : Type} (E : Enc α) (w : World) : List Value → List α → Prop
  | cs, [] => cs = []
  | cs, a :: l => ∃ c d, cs = c ++ d ∧ E.inn w c a ∧ E.rows w d l
theorem Enc.rows_len {α : Type} {E : Enc α} {w : World} : ∀ {cs : List Value} {l : List α}, E.rows w cs l → cs.length = l.length * E.sz
  | cs, [], h => by rw [show cs = [] from h]; simp
  | cs, a :: l, ⟨c, d, h1, h2, h3⟩ => by
    rw [h1, List.length_append, E.len h2, Enc.rows_len h3, List.length_cons, Nat.succ_mul]
    omega
theorem Enc.rows_one {α : Type} {E : Enc α} {w : World} : ∀ {cs : List Value} {l : List α}, E.rows w cs l → ∀ u ∈ cs, u.oneCell' = true
  | cs, [], h, u, hu => by rw [show cs = [] from h] at hu; simp at hu
  | cs, a :: l, ⟨c, d, h1, h2, h3⟩, u, hu => by
    rw [h1, List.mem_append] at hu
    rcases hu with hu | hu
    · exact E.one h2 u hu
    · exact Enc.rows_one h3 u hu
theorem Enc.rows_keep {α : Type} {E : Enc α} {w w' : World} (hb : Below w.heap.size w w') : ∀ {cs : List Value} {l : List α}, E.rows w cs l → E.rows w' cs l
  | _, [], h => h
  | _, _ :: _, ⟨c, d, h1, h2, h3⟩ => ⟨c, d, h1, E.keep hb h2, Enc.rows_keep hb h3⟩
theorem Enc.rows_append {α : Type} {E : Enc α} {w : World} : ∀ {cs ds : List Value} {l m : List α}, E.rows w cs l → E.rows w ds m → E.rows w (cs ++ ds) (l ++ m)
  | cs, ds, [], m, h, k => by rw [show cs = [] from h]; exact k
  | cs, ds, a :: l, m, ⟨c, d, h1, h2, h3⟩, k => ⟨c, d ++ ds, by rw [h1, List.append_assoc], h2, Enc.rows_append h3 k⟩
theorem Enc.rows_snoc {α : Type} {E : Enc α} {w : World} {cs c : List Value} {l : List α} {a : α} (h : E.rows w cs l) (k : E.inn w c a) : E.rows w (cs ++ c) (l ++ [a]) :=
  Enc.rows_append h ⟨c, [], by simp, k, rfl⟩
/-- The cells of one of them. -/
theorem Enc.rows_at {α : Type} {E : Enc α} {w : World} : ∀ {cs : List Value} {l : List α} (k : Nat) (hk : k < l.length), E.rows w cs l → ∃ c, E.inn w c (l[k]'hk) ∧ ∀ j, j < E.sz → cs[k * E.sz + j]? = c[j]?
  | cs, a :: l, 0, _, ⟨c, d, h1, h2, h3⟩ => ⟨c, h2, fun j hj => by rw [h1, Nat.zero_mul, Nat.zero_add, List.getElem?_append_left (by rw [E.len h2]; exact hj)]⟩
  | cs, a :: l, k + 1, hk, ⟨c, d, h1, h2, h3⟩ => by
    obtain ⟨e, h4, h5⟩ := Enc.rows_at k (by simpa using hk) h3
    refine ⟨e, by simpa using h4, fun j hj => ?_⟩
    rw [h1, List.getElem?_append_right (by rw [E.len h2, Nat.succ_mul]; omega), E.len h2, show (k + 1) * E.sz + j - E.sz = k * E.sz + j by rw [Nat.succ_mul]; omega]
    exact h5 j hj
theorem Enc.rows_take {α : Type} {E : Enc α} {w : World} : ∀ {cs : List Value} {l : List α} (k : Nat), E.rows w cs l → E.rows w (cs.take (k * E.sz)) (l.take k)
  | cs, [], k, h => by rw [show cs = [] from h]; simp [Enc.rows]
  | cs, a :: l, 0, _ => by simp [Enc.rows]
  | cs, a :: l, k + 1, ⟨c, d, h1, h2, h3⟩ => by
    refine ⟨c, d.take (k * E.sz), ?_, h2, Enc.rows_take k h3⟩
    rw [h1, List.take_append, E.len h2, List.take_of_length_le (by rw [E.len h2, Nat.succ_mul]; omega), show (k + 1) * E.sz - E.sz = k * E.sz by rw [Nat.succ_mul]; omega]
theorem Enc.rows_drop {α : Type} {E : Enc α} {w : World} : ∀ {cs : List Value} {l : List α} (k : Nat), E.rows w cs l → E.rows w (cs.drop (k * E.sz)) (l.drop k)
  | cs, [], k, h => by rw [show cs = [] from h]; simp [Enc.rows]
  | cs, a :: l, 0, h => by simpa using h
  | cs, a :: l, k + 1, ⟨c, d, h1, h2, h3⟩ => by
    have := Enc.rows_drop k h3
    rw [h1, List.drop_append, E.len h2, List.drop_eq_nil_of_le (by rw [E.len h2, Nat.succ_mul]; omega), List.nil_append, show (k + 1) * E.sz - E.sz = k * E.sz by rw [Nat.succ_mul]; omega]
    exact this

/-- A slice of them. -/
def Seq {α : Type} (E : Enc α) (w : World) (v : Value) (l : List α) : Prop := ∃ cs, Sees w v E.sz l.length cs ∧ E.rows w cs l
theorem Seq.keeps {α : Type} {E : Enc α} {w w' : World} {v : Value} {l : List α} (h : Seq E w v l) (hb : Below w.heap.size w w') : Seq E w' v l := by
  obtain ⟨cs, h1, h2⟩ := h
  exact ⟨cs, h1.keeps hb, Enc.rows_keep hb h2⟩
theorem Seq.nil {α : Type} (E : Enc α) (w : World) : Seq E w (.slice none 0 0) [] := ⟨[], Sees.nil w E.sz, rfl⟩
theorem Seq.shape {α : Type} {E : Enc α} {w : World} {v : Value} {l : List α} (h : Seq E w v l) : ∃ ao cap, v = .slice ao l.length cap := by
  obtain ⟨cs, h1, _⟩ := h; exact h1.shape
theorem Seq.max {α : Type} {E : Enc α} {w : World} {v : Value} {l : List α} (h : Seq E w v l) : l.length ≤ 9223372036854775807 := by
  obtain ⟨cs, h1, _⟩ := h; exact Sees.max h1
theorem Seq.cap {α : Type} {E : Enc α} {w : World} {ao : Option Addr} {m cap : Nat} {l : List α} (h : Seq E w (.slice ao m cap) l) : m = l.length ∧ l.length ≤ cap ∧ cap ≤ 9223372036854775807 ∧ (ao = none → cap = 0) := by
  obtain ⟨cs, h1, _⟩ := h; exact h1.cap
/-- The cells of one of them, in memory. -/
theorem Seq.at {α : Type} {E : Enc α} {w : World} {ao : Option Addr} {m cap : Nat} {l : List α} (h : Seq E w (.slice ao m cap) l) (k : Nat) (hk : k < l.length) :
    ∃ b off c, ao = some ⟨b, off, none⟩ ∧ b < w.heap.size ∧ E.inn w c (l[k]'hk) ∧ ∀ j, j < E.sz → w.cell? ⟨b, off + k * E.sz + j, none⟩ = c[j]? := by
  obtain ⟨cs, h1, h2⟩ := h
  obtain ⟨c, h3, h4⟩ := Enc.rows_at k hk h2
  have hl := Enc.rows_len h2
  have hp := E.pos
  have hkl : k * E.sz + E.sz ≤ l.length * E.sz := by rw [← Nat.succ_mul]; exact Nat.mul_le_mul_right _ hk
  obtain ⟨b, off, e1, e2, e3⟩ := Sees.at h1 (k * E.sz) (by omega)
  refine ⟨b, off, c, e1, e2, h3, fun j hj => ?_⟩
  rw [show off + k * E.sz + j = off + (k * E.sz + j) by omega, e3 _ (by omega)]
  exact h4 j hj
theorem Seq.take {α : Type} {E : Enc α} {w : World} {ao : Option Addr} {n cap : Nat} {l : List α} (h : Seq E w (.slice ao n cap) l) {m : Nat} (hm : m ≤ l.length) : Seq E w (.slice ao m cap) (l.take m) := by
  obtain ⟨cs, ⟨h1, ao', cap', he, h2, h3, h4, h5⟩, h6⟩ := h
  obtain ⟨rfl, rfl, rfl⟩ := Value.slice.inj he
  have hl : (l.take m).length = m := by rw [List.length_take]; omega
  refine ⟨cs.take (m * E.sz), ⟨?_, ao, cap, by rw [hl], by omega, h3, h4, ?_⟩, Enc.rows_take m h6⟩
  · rw [List.length_take, h1, hl]
    exact Nat.min_eq_left (Nat.mul_le_mul_right _ hm)
  · rcases h5 with h5 | ⟨b, off, rfl, hb, hc⟩
    · left; rw [h5]; simp
    · right
      refine ⟨b, off, rfl, hb, fun j u hj => hc j u ?_⟩
      rw [List.getElem?_take] at hj
      split at hj
      · exact hj
      · cases hj
/-- A row of the call's own. -/
theorem Seq.own {α : Type} {E : Enc α} {w : World} {base : Nat} {e : TypeId} {v : Value} {n : Nat} {cs : List Value} {l : List α} (h : w.ownsRow base e E.sz v n cs) (hr : E.rows w cs l) : Seq E w v l := by
  have h1 := h.1
  rw [Enc.rows_len hr] at h1
  obtain rfl : l.length = n := Nat.eq_of_mul_eq_mul_right E.pos h1
  exact ⟨cs, Sees.own h, hr⟩
/-- A slice of elements as an element itself. -/
def Enc.slice {α : Type} (E : Enc α) : Enc (List α) where
  sz := 1
  pos := by decide
  inn w cs l := ∃ v, cs = [v] ∧ Seq E w v l
  len := by rintro w cs l ⟨v, rfl, _⟩; rfl
  one := by
    rintro w cs l ⟨v, rfl, h⟩ u hu
    obtain ⟨ao, cap, rfl⟩ := h.shape
    simp only [List.mem_singleton] at hu
    subst hu
    rfl
  keep := by rintro w w' cs l hb ⟨v, rfl, h⟩; exact ⟨v, rfl, h.keeps hb⟩
end Go.Proofs.Ytohiidgdpecbdaa

/- Operations as elements of slices. Conditions: none. -/
namespace Go.Proofs.Ytohiidgdpecbdaa.Ops
open Go.RowKit Go.WideShapes

def opE : Enc Opn where
  sz := 5
  pos := by decide
  inn w cs o := ∃ v, cs = [.int .u8 (o.k : Int), .int .u32 (o.t : Int), .int .u8 (o.r : Int), v, .int .i64 o.p] ∧ Runs w v o.pl
  len := by rintro w cs o ⟨v, rfl, _⟩; rfl
  one := by
    rintro w cs o ⟨v, rfl, h⟩ u hu
    obtain ⟨ao, cap, rfl⟩ := h.shape
    simp only [List.mem_cons, List.not_mem_nil, or_false] at hu
    rcases hu with rfl | rfl | rfl | rfl | rfl <;> rfl
  keep := by rintro w w' cs o hb ⟨v, rfl, h⟩; exact ⟨v, rfl, h.keeps hb⟩
/-- A slice of operations. -/
abbrev OpL (w : World) (v : Value) (l : List Opn) : Prop := Seq opE w v l
/-- One of them, in memory. -/
theorem opl_at {w : World} {ao : Option Addr} {m cap : Nat} {l : List Opn} (h : OpL w (.slice ao m cap) l) (k : Nat) (hk : k < l.length) :
    ∃ b off v, ao = some ⟨b, off, none⟩ ∧ b < w.heap.size ∧ Runs w v (l[k]'hk).pl ∧ w.cell? ⟨b, off + k * 5, none⟩ = some (.int .u8 ((l[k]'hk).k : Int)) ∧ w.cell? ⟨b, off + k * 5 + 1, none⟩ = some (.int .u32 ((l[k]'hk).t : Int)) ∧ w.cell? ⟨b, off + k * 5 + 2, none⟩ = some (.int .u8 ((l[k]'hk).r : Int)) ∧
      w.cell? ⟨b, off + k * 5 + 3, none⟩ = some v ∧ w.cell? ⟨b, off + k * 5 + 4, none⟩ = some (.int .i64 (l[k]'hk).p) := by
  obtain ⟨b, off, c, h1, h2, ⟨v, rfl, h3⟩, h4⟩ := h.at k hk
  exact ⟨b, off, v, h1, h2, h3, h4 0 (by decide), h4 1 (by decide), h4 2 (by decide), h4 3 (by decide), h4 4 (by decide)⟩
end Go.Proofs.Ytohiidgdpecbdaa.Ops

/- Slices of elements that came in: what they hold, and how long the slices in them can be. Conditions: none. -/
namespace Go.Proofs.Ytohiidgdpecbdaa
open Go.Joins Go.ChangeShapes Go.WideShapes Go.ChangeAt Go.RowKit Go.Deep Go.Proofs.Ytohiidgdpecbdaa.Ops

/-- A datum's slices are each within reach. -/
def Fits {H : Type} (t : TypeId) (d : DataW H) : Prop := ∀ n ∈ DataW.weights Try.prog t d, n ≤ reachBytes
theorem weightsAll_in {H : Type} {P : Program} {e : TypeId} {d : DataW H} : ∀ {l : List (DataW H)}, d ∈ l → ∀ n ∈ DataW.weights P e d, n ∈ DataW.weightsAll P e l
  | x :: l, h, n, hn => by
    simp only [DataW.weightsAll, List.mem_append]
    rcases List.mem_cons.1 h with rfl | h
    · exact .inl hn
    · exact .inr (weightsAll_in h n hn)
theorem fits_slice {H : Type} {ts te : TypeId} (hu : Try.prog.underlying ts = some (.slice te)) {ds sp : List (DataW H)} (h : Fits ts (.slice ds sp)) :
    (ds.length + sp.length) * Try.prog.bytesOf te ≤ reachBytes ∧ ∀ d ∈ ds, Fits te d := by
  unfold Fits at h
  simp only [DataW.weights, hu, List.mem_cons, List.mem_append] at h
  exact ⟨h _ (.inl rfl), fun d hd n hn => h n (.inr (.inl (weightsAll_in hd n hn)))⟩

theorem rows_flat {α : Type} (E : Enc α) {W : World} {g : Nat → List Value} {f : Nat → α} : ∀ (k s : Nat), (∀ i, s ≤ i → i < s + k → E.inn W (g i) (f i)) → E.rows W ((List.range' s k).flatMap g) ((List.range' s k).map f)
  | 0, _, _ => rfl
  | k + 1, s, h => by
    rw [List.range'_succ, List.flatMap_cons, List.map_cons]
    exact ⟨_, _, rfl, h s (Nat.le_refl _) (by omega), rows_flat E k (s + 1) (fun i h1 h2 => h i (by omega) (by omega))⟩
theorem flat_len {sz : Nat} {g : Nat → List Value} : ∀ (k s : Nat), (∀ i, s ≤ i → i < s + k → (g i).length = sz) → ((List.range' s k).flatMap g).length = k * sz
  | 0, _, _ => by simp
  | k + 1, s, h => by
    rw [List.range'_succ, List.flatMap_cons, List.length_append, h s (Nat.le_refl _) (by omega), flat_len k (s + 1) (fun i h1 h2 => h i (by omega) (by omega)), Nat.succ_mul]
    omega
theorem flat_get {sz : Nat} {g : Nat → List Value} : ∀ (k s i j : Nat), i < k → j < sz → (∀ i, s ≤ i → i < s + k → (g i).length = sz) → ((List.range' s k).flatMap g)[i * sz + j]? = (g (s + i))[j]?
  | 0, _, _, _, h, _, _ => by omega
  | k + 1, s, 0, j, _, hj, h => by
    show _ = (g s)[j]?
    rw [List.range'_succ, List.flatMap_cons, Nat.zero_mul, Nat.zero_add, List.getElem?_append_left (by rw [h s (Nat.le_refl _) (by omega)]; exact hj)]
  | k + 1, s, i + 1, j, hi, hj, h => by
    have hs := h s (Nat.le_refl _) (by omega)
    rw [List.range'_succ, List.flatMap_cons, List.getElem?_append_right (by rw [hs, Nat.succ_mul]; omega), hs, show (i + 1) * sz + j - sz = i * sz + j by rw [Nat.succ_mul]; omega,
      flat_get k (s + 1) i j (by omega) hj (fun i h1 h2 => h i (by omega) (by omega)), show s + 1 + i = s + (i + 1) by omega]

set_option maxRecDepth 100000 in
/-- What a slice's reading gives, out of what each element's gives. -/
theorem seq_cells {α : Type} (E : Enc α) {ts te : TypeId} (hu : Try.prog.underlying ts = some (.slice te)) (hc : Try.prog.cellsOf te = E.sz) {H : Type} {enc : TypeId × Value → H} {W : World} {R : α → Prop}
    (hel : ∀ (fuel : Nat) (cs : List Value) (y : DataW H × List MemPlace), cs.length = E.sz → DataW.trod enc Try.prog W 0 (fun _ => true) true fuel te cs = some y → ∃ a, E.inn W cs a ∧ (Fits te y.1 → R a))
    {v : Value} {fuel : Nat} {y : DataW H × List MemPlace} (hf : DataW.trod enc Try.prog W 0 (fun _ => true) true fuel ts [v] = some y) :
    ∃ (ao : Option Addr) (cap : Nat) (l : List α), v = .slice ao l.length cap ∧ Seq E W (.slice ao l.length cap) l ∧ (Fits ts y.1 → l.length * Try.prog.bytesOf te ≤ reachBytes ∧ ∀ a ∈ l, R a) := by
  have hp := E.pos
  rcases open_slice hu hf with ⟨hcs, hx⟩ | ⟨a, len, cap, m, n, D, Pl, hcs, _, hl, hm, hmm, hx, hi⟩
  · obtain rfl : v = .slice none 0 0 := by simpa using hcs
    exact ⟨none, 0, [], rfl, Seq.nil E W, fun _ => ⟨by simp, by simp⟩⟩
  · obtain rfl : v = .slice (some a) len cap := by simpa using hcs
    simp only [if_true] at hmm
    subst hmm
    unfold maxLen at hm
    by_cases hl0 : len = 0
    · subst hl0
      exact ⟨some a, m, [], rfl, ⟨[], ⟨by simp, some a, m, rfl, by omega, hm, by simp, .inl rfl⟩, rfl⟩, fun _ => ⟨by simp, by simp⟩⟩
    have each : ∀ i, i < m → ∃ c x, c.length = E.sz ∧ (∀ j, j < E.sz → W.cell? ((a.add (i * E.sz)).add j) = c[j]?) ∧ E.inn W c x ∧ (Fits te (D i) → R x) := by
      intro i him
      obtain ⟨cs, h1, h2⟩ := hi i him
      rw [hc] at h1
      obtain ⟨_, hcl, hat⟩ := World.cells?_some h1
      obtain ⟨x, h3, h4⟩ := hel n cs _ hcl h2
      exact ⟨cs, x, hcl, hat, h3, h4⟩
    have hm0 : 0 < m := by omega
    have hsel : ∃ (g : Nat → List Value) (f : Nat → α), ∀ i, i < m → (g i).length = E.sz ∧ (∀ j, j < E.sz → W.cell? ((a.add (i * E.sz)).add j) = (g i)[j]?) ∧ E.inn W (g i) (f i) ∧ (Fits te (D i) → R (f i)) :=
      ⟨fun i => if h : i < m then Classical.choose (each i h) else Classical.choose (each 0 hm0), fun i => if h : i < m then Classical.choose (Classical.choose_spec (each i h)) else Classical.choose (Classical.choose_spec (each 0 hm0)),
        fun i h => by simp only [h, dif_pos]; exact Classical.choose_spec (Classical.choose_spec (each i h))⟩
    obtain ⟨g, f, hgf⟩ := hsel
    have hxl : ((List.range' 0 len).map f).length = len := by simp
    have hgl : ∀ i, 0 ≤ i → i < 0 + len → (g i).length = E.sz := fun i _ h => (hgf i (by omega)).1
    have hcl := flat_len (sz := E.sz) (g := g) len 0 hgl
    refine ⟨some a, m, (List.range' 0 len).map f, by rw [hxl], ⟨(List.range' 0 len).flatMap g, ⟨by rw [hxl, hcl], some a, m, rfl, by omega, hm, by simp, ?_⟩, rows_flat E len 0 (fun i _ h => (hgf i (by omega)).2.2.1)⟩, ?_⟩
    · right
      obtain ⟨c0, x0, hc0, ha0, _, _⟩ := each 0 hm0
      obtain ⟨u0, hu0⟩ : ∃ u, c0[0]? = some u := ⟨c0[0]'(by omega), List.getElem?_eq_getElem (by omega)⟩
      have h00 := (ha0 0 hp).trans hu0
      obtain ⟨b, off, spot⟩ := a
      have hspot : spot = none := by simpa [Addr.add] using World.cell?_spot h00
      subst hspot
      refine ⟨b, off, rfl, World.block_lt_of_cell? W ⟨b, off, none⟩ (by simpa [Addr.add] using h00), fun j u hj => ?_⟩
      have hjl : j < ((List.range' 0 len).flatMap g).length := (List.getElem?_eq_some_iff.1 hj).1
      rw [hcl] at hjl
      have hij : j = (j / E.sz) * E.sz + j % E.sz := by rw [Nat.mul_comm]; exact (Nat.div_add_mod j E.sz).symm
      have hi1 : j / E.sz < len := Nat.div_lt_of_lt_mul (by rw [Nat.mul_comm]; exact hjl)
      have hj1 : j % E.sz < E.sz := Nat.mod_lt _ hp
      rw [hij, flat_get len 0 (j / E.sz) (j % E.sz) hi1 hj1 hgl, Nat.zero_add, ← (hgf (j / E.sz) (by omega)).2.1 _ hj1] at hj
      rw [← hj, add_plain, add_plain, Nat.add_assoc, ← hij]
    · intro hw
      rw [hx] at hw
      obtain ⟨h1, h2⟩ := fits_slice hu hw
      refine ⟨Nat.le_trans (Nat.mul_le_mul_right _ (by simp)) h1, fun x hx => ?_⟩
      obtain ⟨i, hi2, rfl⟩ := List.mem_map.1 hx
      have hil : i < len := by have := List.mem_range'_1.1 hi2; omega
      exact (hgf i (by omega)).2.2.2 (h2 _ (List.mem_map.2 ⟨i, List.mem_range.2 hil, rfl⟩))

/-! ### Runs, operations -/
def runE : Enc Run where
  sz := 3
  pos := by decide
  inn _ cs x := cs = [.int .u32 (x.t : Int), .int .u8 (x.r : Int), .int .i64 x.m]
  len := by rintro w cs x rfl; rfl
  one := by
    rintro w cs x rfl u hu
    simp only [List.mem_cons, List.not_mem_nil, or_false] at hu
    rcases hu with rfl | rfl | rfl <;> rfl
  keep := by rintro w w' cs x _ h; exact h
theorem runE_rows {w : World} : ∀ {cs : List Value} {l : List Run}, runE.rows w cs l → cs = runs l
  | _, [], h => h
  | _, _ :: _, ⟨c, d, h1, h2, h3⟩ => by
    rw [h1, show c = _ from h2, runE_rows h3]
    rfl
set_option maxRecDepth 100000 in
theorem kit_bytesRun : Try.prog.bytesOf 31 = 16 := by kernel_rfl
set_option maxRecDepth 100000 in
theorem kit_bytesOp : Try.prog.bytesOf 54 = 48 := by kernel_rfl
set_option maxRecDepth 100000 in
theorem run_cells {H : Type} {enc : TypeId × Value → H} {W : World} {fuel : Nat} {cs : List Value} {y : DataW H × List MemPlace} (hcl : cs.length = 3)
    (ht : DataW.trod enc Try.prog W 0 (fun _ => true) true fuel 31 cs = some y) : ∃ x : Run, cs = [.int .u32 (x.t : Int), .int .u8 (x.r : Int), .int .i64 x.m] := by
  obtain ⟨y0, y1, y2, n2, -, hlen, h0, h1, h2⟩ := trod_struct3 Try.underlying31 ht
  match cs, hcl with
  | [c0, c1, c2], _ =>
    have h0' : DataW.trod enc Try.prog W 0 (fun _ => true) true n2 27 [c0] = some y0 := h0
    have h1' : DataW.trod enc Try.prog W 0 (fun _ => true) true n2 5 [c1] = some y1 := h1
    have h2' : DataW.trod enc Try.prog W 0 (fun _ => true) true n2 3 [c2] = some y2 := h2
    obtain ⟨z, e0, -, wz⟩ := DataW.trod_int Try.underlying27 h0'
    obtain ⟨u, e1, -, wu⟩ := DataW.trod_int Try.underlying5 h1'
    obtain ⟨mm, e2, -, wm⟩ := DataW.trod_int Try.underlying3 h2'
    simp at e0 e1 e2
    subst e0 e1 e2
    have hmb : -9223372036854775808 ≤ mm ∧ mm ≤ 9223372036854775807 := by simpa [Lit.wf, IntKind.min, IntKind.max, IntKind.signed, IntKind.bits] using wm
    obtain ⟨tn, rfl, hn⟩ := wf_u32 wz
    obtain ⟨q, rfl, hq⟩ := wf_u8 wu
    exact ⟨⟨tn, q, mm, hn, hq, hmb⟩, rfl⟩
set_option maxRecDepth 100000 in
/-- A slice of runs that is read, and how long it can be. -/
theorem runs_fits {H : Type} {enc : TypeId × Value → H} {W : World} {v : Value} {fuel : Nat} {y : DataW H × List MemPlace}
    (hf : DataW.trod enc Try.prog W 0 (fun _ => true) true fuel 32 [v] = some y) :
    ∃ (ao : Option Addr) (cap : Nat) (l : List Run), v = .slice ao l.length cap ∧ Runs W (.slice ao l.length cap) l ∧ (Fits 32 y.1 → l.length ≤ 8796093022208) := by
  obtain ⟨ao, cap, l, h1, ⟨cs, h2, h3⟩, h4⟩ := seq_cells (R := fun _ => True) runE Try.underlying32 kit_cellsRun (fun fuel cs y hcl ht => by
    obtain ⟨x, hx⟩ := run_cells hcl ht
    exact ⟨x, hx, fun _ => trivial⟩) hf
  rw [runE_rows h3] at h2
  refine ⟨ao, cap, l, h1, h2, fun h => ?_⟩
  have h5 := (h4 h).1
  rw [kit_bytesRun] at h5
  unfold reachBytes at h5
  omega
set_option maxRecDepth 100000 in
theorem op_cells {H : Type} {enc : TypeId × Value → H} {W : World} {fuel : Nat} {cs : List Value} {y : DataW H × List MemPlace} (hcl : cs.length = 5)
    (ht : DataW.trod enc Try.prog W 0 (fun _ => true) true fuel 54 cs = some y) : ∃ o : Opn, opE.inn W cs o ∧ (Fits 54 y.1 → o.pl.length ≤ 8796093022208) := by
  obtain ⟨y0, y1, y2, y3, n, hy, -, h0, h1, h2, h3⟩ := trod_struct4 Try.underlying54 ht
  match cs, hcl with
  | [c0, c1, c2, c3, c4], _ =>
    have h0' : DataW.trod enc Try.prog W 0 (fun _ => true) true n 5 [c0] = some y0 := h0
    have h1' : DataW.trod enc Try.prog W 0 (fun _ => true) true n 29 [c1, c2] = some y1 := h1
    have h2' : DataW.trod enc Try.prog W 0 (fun _ => true) true n 32 [c3] = some y2 := h2
    have h3' : DataW.trod enc Try.prog W 0 (fun _ => true) true n 3 [c4] = some y3 := h3
    obtain ⟨z0, z1, n2, -, -, g0, g1⟩ := trod_struct2 Try.underlying29 h1'
    have g0' : DataW.trod enc Try.prog W 0 (fun _ => true) true n2 27 [c1] = some z0 := g0
    have g1' : DataW.trod enc Try.prog W 0 (fun _ => true) true n2 5 [c2] = some z1 := g1
    obtain ⟨k, e0, -, wk⟩ := DataW.trod_int Try.underlying5 h0'
    obtain ⟨t, e1, -, wt⟩ := DataW.trod_int Try.underlying27 g0'
    obtain ⟨r, e2, -, wr⟩ := DataW.trod_int Try.underlying5 g1'
    obtain ⟨q, e4, -, wq⟩ := DataW.trod_int Try.underlying3 h3'
    obtain ⟨ao, cap, l, e3, hl, hb⟩ := runs_fits h2'
    simp at e0 e1 e2 e4
    subst e0 e1 e2 e3 e4
    have hq : -9223372036854775808 ≤ q ∧ q ≤ 9223372036854775807 := by simpa [Lit.wf, IntKind.min, IntKind.max, IntKind.signed, IntKind.bits] using wq
    obtain ⟨k, rfl, hk⟩ := wf_u8 wk
    obtain ⟨t, rfl, ht2⟩ := wf_u32 wt
    obtain ⟨r, rfl, hr⟩ := wf_u8 wr
    refine ⟨⟨k, t, r, l, q, hk, ht2, hr, hq⟩, ⟨_, rfl, hl⟩, fun h => hb (fun n hn => h n ?_)⟩
    rw [hy]
    simp only [DataW.weights, Try.underlying54, List.map_cons, DataW.weightsEach, List.mem_append]
    exact .inr (.inr (.inl hn))
set_option maxRecDepth 100000 in
/-- An argument that is a slice of operations. -/
theorem ops_of {H : Type} {enc : TypeId × Value → H} {W : World} {v : Value} {d : DataW H} {p : List MemPlace} {base : Nat}
    (hv : Value.okWide Try.prog W .any base 22 v) (h : DataW.Trod enc Try.prog W 0 (fun _ => true) true 22 v d p) :
    ∃ (ao : Option Addr) (cap : Nat) (l : List Opn), v = .slice ao l.length cap ∧ OpL W (.slice ao l.length cap) l ∧ (Fits 22 d → l.length ≤ 2932031007402 ∧ ∀ o ∈ l, o.pl.length ≤ 8796093022208) := by
  obtain ⟨a0, len, cap, rfl⟩ := okWide_slice Try.underlying22 hv
  obtain ⟨fuel, hf⟩ := h
  rw [show (Value.slice a0 len cap).cells.toList = [Value.slice a0 len cap] by simp [Value.cells]] at hf
  obtain ⟨ao, cap, l, h1, h2, h3⟩ := seq_cells (R := fun o : Opn => o.pl.length ≤ 8796093022208) opE Try.underlying22 kit_cellsOp (fun fuel cs y hcl ht => op_cells hcl ht) hf
  refine ⟨ao, cap, l, h1, h2, fun h => ?_⟩
  obtain ⟨h4, h5⟩ := h3 h
  rw [kit_bytesOp] at h4
  unfold reachBytes at h4
  exact ⟨by omega, h5⟩
end Go.Proofs.Ytohiidgdpecbdaa

/- octavo/op and octavoref09: Content, Own, Same, Twin: what each answers. Conditions: the places' cells are runs. -/
namespace Go.Proofs.Ytohiidgdpecbdaa.Ops
open Go.RowKit Stamp Go.Proofs.Ytohiidgdpecbdaa.Place
attribute [local go_sem ↓] Go.wp_at_zero Go.wp_at_succ

theorem op_base {w : World} {b b' : Nat} {e : TypeId} {v : Value} {sz n : Nat} {cs : List Value} (h : w.ownsRow b e sz v n cs) (hb : b' ≤ b) : w.ownsRow b' e sz v n cs :=
  ⟨h.1, h.2.imp id fun ⟨g, cap, cur, h1, h2, h3⟩ => ⟨g, cap, cur, h1, by omega, h3⟩⟩
theorem op_set {w : World} {B H o n sz : Nat} {e : TypeId} {v d : Value} {cs : List Value} (h : w.ownsRow B e sz v n cs) (hH : H < B) : (w.setCell ⟨H, o, none⟩ d).ownsRow B e sz v n cs :=
  ownsRow_setCell_below h (a := ⟨H, o, none⟩) hH d
/-- Five cells of a block stored. -/
def put5 (X : World) (g : Nat) (d0 d1 d2 d3 d4 : Value) : World := ((((X.setCell ⟨g, 0, none⟩ d0).setCell ⟨g, 1, none⟩ d1).setCell ⟨g, 2, none⟩ d2).setCell ⟨g, 3, none⟩ d3).setCell ⟨g, 4, none⟩ d4
theorem put5_same {X : World} {g : Nat} {c0 c1 c2 c3 c4 : Value} (d0 d1 d2 d3 d4 : Value) {e : TypeId} (h : X.heap[g]? = some (.cells #[c0, c1, c2, c3, c4] e)) : (put5 X g d0 d1 d2 d3 d4).heap[g]? = some (.cells #[d0, d1, d2, d3, d4] e) := by
  have h0 := heap_setCell_same X g 0 _ _ d0 h
  have h1 := heap_setCell_same _ g 1 _ _ d1 h0
  have h2 := heap_setCell_same _ g 2 _ _ d2 h1
  have h3 := heap_setCell_same _ g 3 _ _ d3 h2
  have h4 := heap_setCell_same _ g 4 _ _ d4 h3
  exact h4
theorem put5_below {B g : Nat} {W X : World} (d0 d1 d2 d3 d4 : Value) (hg : B ≤ g) (h : Below B W X) : Below B W (put5 X g d0 d1 d2 d3 d4) :=
  ((((h.setCell (p := ⟨g, 0, none⟩) hg _).setCell (p := ⟨g, 1, none⟩) hg _).setCell (p := ⟨g, 2, none⟩) hg _).setCell (p := ⟨g, 3, none⟩) hg _).setCell (p := ⟨g, 4, none⟩) hg _
theorem put5_own {X : World} {B g sz n : Nat} {e : TypeId} {v : Value} {cs : List Value} (d0 d1 d2 d3 d4 : Value) (h : X.ownsRow B e sz v n cs) (hg : g < B) : (put5 X g d0 d1 d2 d3 d4).ownsRow B e sz v n cs :=
  op_set (op_set (op_set (op_set (op_set h hg) hg) hg) hg) hg
theorem cells5 {X : World} {g : Nat} {c0 c1 c2 c3 c4 : Value} {e : TypeId} (h : X.heap[g]? = some (.cells #[c0, c1, c2, c3, c4] e)) :
    X.cell? ⟨g, 0, none⟩ = some c0 ∧ X.cell? ⟨g, 1, none⟩ = some c1 ∧ X.cell? ⟨g, 2, none⟩ = some c2 ∧ X.cell? ⟨g, 3, none⟩ = some c3 ∧ X.cell? ⟨g, 4, none⟩ = some c4 :=
  ⟨cell_of_row _ g 0 _ e _ h, cell_of_row _ g 1 _ e _ h, cell_of_row _ g 2 _ e _ h, cell_of_row _ g 3 _ e _ h, cell_of_row _ g 4 _ e _ h⟩
theorem free5 {X : World} {g : Nat} {cs : Array Value} {e : TypeId} (h : X.heap[g]? = some (.cells cs e)) (o : Nat) : X.frozen? ⟨g, o, none⟩ = false := by simp [World.frozen?, h]

def contB (o : Opn) : Bool := decide (o.k = 1) || decide (o.k = 3)
/-- Are all fields the same? -/
def sameB (a b : Opn) : Bool := decide (a.k = b.k ∧ (a.t = b.t ∧ a.r = b.r) ∧ a.pl = b.pl ∧ a.p = b.p)
theorem sameB_iff (a b : Opn) : sameB a b = true ↔ a = b := by
  unfold sameB
  rw [decide_eq_true_iff]
  exact ⟨fun h => Opn.ext' h.1 h.2.1.1 h.2.1.2 h.2.2.1 h.2.2.2, fun h => by rw [h]; exact ⟨rfl, ⟨rfl, rfl⟩, rfl, rfl⟩⟩

theorem oContent_any {v : Value} {o : Opn} (w : World) :
    Calls Try.prog 65 #[opv o v] w fun e w' => e = .returned (.bool (contB o)) ∧ Below w.heap.size w w' := by
  obtain ⟨k, t, r, l, p, hk, ht, hr, hp⟩ := o
  unfold opv contB
  simp only
  have B0 : Hid (Below w.heap.size w (w.alloc (.cells #[.int .u8 (k : Int), .int .u32 (t : Int), .int .u8 (r : Int), v, .int .i64 p] 54))) := (Below.refl _ _).alloc (Nat.le_refl _) _
  by_cases h1 : k = 1
  · subst h1
    rw [show (decide (1 = 1) || decide (1 = 3)) = true from rfl]
    go_enter Try.func65, Try.ntmps65
    go_wp2
    go_ret
    exact ⟨rfl, B0.out⟩
  · have q1 : ((k : Int) == 1) = false := by simp; omega
    by_cases h3 : k = 3
    · subst h3
      rw [show (decide (3 = 1) || decide (3 = 3)) = true from rfl]
      go_enter Try.func65, Try.ntmps65
      go_wp2
      go_ret
      exact ⟨rfl, B0.out⟩
    · have q3 : ((k : Int) == 3) = false := by simp; omega
      rw [decide_eq_false h1, decide_eq_false h3, Bool.or_false]
      go_enter Try.func65, Try.ntmps65
      go_wp2
      go_ret
      exact ⟨rfl, B0.out⟩

/-- Is its place its own? -/
def ownB (o : Opn) : Bool := decide (o.k = 1) || decide (o.k = 2)

set_option maxHeartbeats 4000000 in
theorem oSame_any {u v : Value} {a b : Opn} {w : World} (hu : Runs w u a.pl) (hv : Runs w v b.pl) :
    Calls Try.prog 35 #[opv a u, opv b v] w fun e w' => e = .returned (.bool (sameB a b)) ∧ Below w.heap.size w w' := by
  obtain ⟨k, t, r, l, p, hk, ht, hr, hp⟩ := a
  obtain ⟨k', t', r', l', p', hk', ht', hr', hp'⟩ := b
  unfold opv sameB
  simp only at hu hv ⊢
  have B0 : Hid (Below w.heap.size w ((w.alloc (.cells #[.int .u8 (k : Int), .int .u32 (t : Int), .int .u8 (r : Int), u, .int .i64 p] 54)).alloc (.cells #[.int .u8 (k' : Int), .int .u32 (t' : Int), .int .u8 (r' : Int), v, .int .i64 p'] 54))) := ((Below.refl _ _).alloc (Nat.le_refl _) _).alloc (by simp) _
  by_cases h1 : k = k'
  · subst h1
    by_cases h2 : t = t'
    · subst h2
      by_cases h3 : r = r'
      · subst h3
        have C : Hid (∀ W : World, Below w.heap.size w W → Calls Try.prog 55 #[u, v] W fun e w' => e = .returned (.bool (decide (l = l'))) ∧ Below W.heap.size W w') := fun W hW => psame_any (hu.keeps hW) (hv.keeps hW)
        have KK : Hid (∀ W : World, Below ((w.alloc (.cells #[.int .u8 (k : Int), .int .u32 (t : Int), .int .u8 (r : Int), u, .int .i64 p] 54)).alloc (.cells #[.int .u8 (k : Int), .int .u32 (t : Int), .int .u8 (r : Int), v, .int .i64 p'] 54)).heap.size ((w.alloc (.cells #[.int .u8 (k : Int), .int .u32 (t : Int), .int .u8 (r : Int), u, .int .i64 p] 54)).alloc (.cells #[.int .u8 (k : Int), .int .u32 (t : Int), .int .u8 (r : Int), v, .int .i64 p'] 54)) W →
            W.cell? ⟨w.heap.size, 4, none⟩ = some (.int .i64 p) ∧ W.cell? ⟨w.heap.size + 1, 4, none⟩ = some (.int .i64 p')) := fun W hW => by
          have a1 := five_cells (w := w) (((Below.refl _ _).alloc (Nat.le_refl _) _).trans (hW.mono (by simp)))
          have a2 := five_cells (w := w.alloc _) hW
          exact ⟨a1.2.2.2.2, by simpa using a2.2.2.2.2⟩
        by_cases h4 : l = l'
        · subst h4
          rw [decide_eq_true rfl] at C
          obtain ⟨q, hq⟩ : ∃ q, decide (p = p') = q := ⟨_, rfl⟩
          rw [show decide (k = k ∧ (t = t ∧ r = r) ∧ l = l ∧ p = p') = q by rw [← hq]; simp]
          have q5 : (p == p') = q := by rw [← hq]; simp [BEq.beq]
          clear hu hv hq
          go_enter Try.func35, Try.ntmps35
          go_wp2_with fail
          refine (C.out _ B0.out).mono ?_
          rintro e w1 ⟨rfl, b1⟩
          obtain ⟨c1, c2⟩ := KK.out _ b1
          have B1 := Lib.hid (bt B0.out b1)
          clear b1
          go_wp2
          go_ret
          exact ⟨rfl, B1.out⟩
        · rw [decide_eq_false h4] at C
          rw [decide_eq_false (fun h => h4 h.2.2.1)]
          clear hu hv h4
          go_enter Try.func35, Try.ntmps35
          go_wp2_with fail
          refine (C.out _ B0.out).mono ?_
          rintro e w1 ⟨rfl, b1⟩
          have B1 := Lib.hid (bt B0.out b1)
          clear b1
          go_wp2
          go_ret
          exact ⟨rfl, B1.out⟩
      · rw [decide_eq_false (fun h => h3 h.2.1.2)]
        have q3 : ((r : Int) == (r' : Int)) = false := by simp; omega
        have q4 : decide (r = r') = false := decide_eq_false h3
        clear hu hv
        go_enter Try.func35, Try.ntmps35
        go_wp2
        go_ret
        exact ⟨rfl, B0.out⟩
    · rw [decide_eq_false (fun h => h2 h.2.1.1)]
      have q3 : ((t : Int) == (t' : Int)) = false := by simp; omega
      have q4 : decide (t = t') = false := decide_eq_false h2
      clear hu hv
      go_enter Try.func35, Try.ntmps35
      go_wp2
      go_ret
      exact ⟨rfl, B0.out⟩
  · rw [decide_eq_false (fun h => h1 h.1)]
    have q3 : ((k : Int) == (k' : Int)) = false := by simp; omega
    have q4 : decide (k = k') = false := decide_eq_false h1
    clear hu hv
    go_enter Try.func35, Try.ntmps35
    go_wp2
    go_ret
    exact ⟨rfl, B0.out⟩

set_option maxHeartbeats 4000000 in
theorem oTwin_any {v : Value} {o : Opn} {w : World} (hv : Runs w v o.pl) (hl : o.pl.length ≤ 8796093022208) :
    Calls Try.prog 45 #[opv o v] w fun e w' => ∃ v', e = .returned (opv o v') ∧ w'.ownsRow w.heap.size 31 3 v' o.pl.length (runs o.pl) ∧ Below w.heap.size w w' := by
  obtain ⟨k, t, r, l, p, hk, ht, hr, hp⟩ := o
  unfold opv
  simp only at hv hl ⊢
  have C : Hid (∀ W : World, Below w.heap.size w W → Calls Try.prog 61 #[v] W fun e w' => ∃ v', e = .returned v' ∧ w'.ownsRow W.heap.size 31 3 v' l.length (runs l) ∧ Below W.heap.size W w') := fun W hW => ptwin_any (hv.keeps hW) hl
  have KK : Hid (∀ W : World, Below ((w.alloc (.cells #[.int .u8 (k : Int), .int .u32 (t : Int), .int .u8 (r : Int), v, .int .i64 p] 54)).alloc (.cells #[.int .u8 0, .int .u32 0, .int .u8 0, .slice none 0 0, .int .i64 0] 54)).heap.size ((w.alloc (.cells #[.int .u8 (k : Int), .int .u32 (t : Int), .int .u8 (r : Int), v, .int .i64 p] 54)).alloc (.cells #[.int .u8 0, .int .u32 0, .int .u8 0, .slice none 0 0, .int .i64 0] 54)) W →
      W.heap[w.heap.size]? = some (.cells #[.int .u8 (k : Int), .int .u32 (t : Int), .int .u8 (r : Int), v, .int .i64 p] 54) ∧ W.heap[w.heap.size + 1]? = some (.cells #[.int .u8 0, .int .u32 0, .int .u8 0, .slice none 0 0, .int .i64 0] 54)) := fun W hW =>
    ⟨blk_below hW (blk_old (blk_new rfl)), blk_below hW (blk_new (by simp))⟩
  have B0 : Hid (Below w.heap.size w ((w.alloc (.cells #[.int .u8 (k : Int), .int .u32 (t : Int), .int .u8 (r : Int), v, .int .i64 p] 54)).alloc (.cells #[.int .u8 0, .int .u32 0, .int .u8 0, .slice none 0 0, .int .i64 0] 54))) := ((Below.refl _ _).alloc (Nat.le_refl _) _).alloc (by simp) _
  clear hv hl
  go_enter Try.func45, Try.ntmps45
  go_wp2_with fail
  refine (C.out _ B0.out).mono ?_
  rintro e w1 ⟨v1, rfl, o1, b1⟩
  obtain ⟨ao, cap, rfl⟩ : ∃ ao cap, v1 = .slice ao l.length cap := Sees.shape (Sees.own o1)
  obtain ⟨k1, k2⟩ := KK.out _ b1
  have B1 := Lib.hid (bt B0.out b1)
  have O1 : Hid (w1.ownsRow (w.heap.size + 2) 31 3 (.slice ao l.length cap) l.length (runs l)) := op_base o1 (by simp)
  have k3 := heap_setCell_same w1 w.heap.size 3 _ _ (.slice ao l.length cap) k1
  have k4 : (w1.setCell ⟨w.heap.size, 3, none⟩ (.slice ao l.length cap)).heap[w.heap.size + 1]? = some (.cells #[.int .u8 0, .int .u32 0, .int .u8 0, .slice none 0 0, .int .i64 0] 54) := by
    rw [heap_setCell_other _ _ _ _ (by simp)]
    exact k2
  have f1 := free5 k1 3
  have HK := Lib.hid k3
  have HK4 := Lib.hid k4
  obtain ⟨c0, c1, c2, c3, c4⟩ := cells5 k1
  obtain ⟨d0, d1, d2, d3, d4⟩ := cells5 k2
  have OS : Hid ((w1.setCell ⟨w.heap.size, 3, none⟩ (.slice ao l.length cap)).ownsRow (w.heap.size + 2) 31 3 (.slice ao l.length cap) l.length (runs l)) := op_set O1.out (by omega)
  have BS : Hid (Below w.heap.size w (w1.setCell ⟨w.heap.size, 3, none⟩ (.slice ao l.length cap))) := B1.out.setCell (p := ⟨w.heap.size, 3, none⟩) (Nat.le_refl _) _
  have f2 : ∀ o, w1.frozen? ⟨w.heap.size + 1, o, none⟩ = false := fun o => free5 k2 o
  clear o1 b1 k1 k2 k3 k4
  go_wp2_with fail
  obtain ⟨W, hW⟩ : ∃ W, W = put5 (w1.setCell ⟨w.heap.size, 3, none⟩ (.slice ao l.length cap)) (w.heap.size + 1) (.int .u8 (k : Int)) (.int .u32 (t : Int)) (.int .u8 (r : Int)) (.slice ao l.length cap) (.int .i64 p) := ⟨_, rfl⟩
  have OW := put5_own (.int .u8 (k : Int)) (.int .u32 (t : Int)) (.int .u8 (r : Int)) (.slice ao l.length cap) (.int .i64 p) OS.out (show w.heap.size + 1 < w.heap.size + 2 by omega)
  have BW := put5_below (.int .u8 (k : Int)) (.int .u32 (t : Int)) (.int .u8 (r : Int)) (.slice ao l.length cap) (.int .i64 p) (show w.heap.size ≤ w.heap.size + 1 by omega) BS.out
  obtain ⟨e0, e1, e2, e3, e4⟩ := cells5 (put5_same (.int .u8 (k : Int)) (.int .u32 (t : Int)) (.int .u8 (r : Int)) (.slice ao l.length cap) (.int .i64 p) HK4.out)
  rw [← hW] at OW BW e0 e1 e2 e3 e4
  unfold put5 at hW
  rw [← hW]
  exact bodyPost_ret (v := .agg #[.int .u8 (k : Int), .int .u32 (t : Int), .int .u8 (r : Int), .slice ao l.length cap, .int .i64 p]) (by simp [results, Try.results45, go_sem, e0, e1, e2, e3, e4]) rfl ⟨_, rfl, op_base OW (by omega), BW⟩

end Go.Proofs.Ytohiidgdpecbdaa.Ops

/- What Under answers, as lists: its runs are each short. Conditions: none. -/
namespace Go.Proofs.Ytohiidgdpecbdaa.Place
open Go.RowKit Stamp
attribute [local go_sem ↓] Go.wp_at_zero Go.wp_at_succ

end Go.Proofs.Ytohiidgdpecbdaa.Place

/- Places: a stamp put behind, beginnings, rising stamps, a child's place in the order. Conditions: none. -/
namespace Go.Proofs.Ytohiidgdpecbdaa.Place
open Go.RowKit Stamp

/-- A place that is not the beginning, as its last run behind the others. -/
theorem split_last {l : List Run} (h : 0 < l.length) : l = l.take (l.length - 1) ++ [l.getD (l.length - 1) zrun] := by
  have h2 : l.take (l.length - 1 + 1) = l := List.take_of_length_le (by omega)
  rw [List.take_succ_eq_append_getElem (by omega)] at h2
  rw [show l.getD (l.length - 1) zrun = l[l.length - 1] by simp [List.getD, List.getElem?_eq_getElem (show l.length - 1 < l.length by omega)]]
  exact h2.symm
theorem up_last (t r : Nat) : ∀ n, 1 ≤ n → (up t r n).getLast? = some (mk (t + n - 1) r) := by
  intro n hn
  obtain ⟨k, rfl⟩ : ∃ k, n = k + 1 := ⟨n - 1, by omega⟩
  rw [up_snoc, List.getLast?_append]
  simp
/-- The last run's last stamp is the last of all. -/
theorem last_all {l : List Run} (hc : Chain l) (h : 0 < l.length) : (all l).getLast? = some (mk ((l.getD (l.length - 1) zrun).t + (l.getD (l.length - 1) zrun).m.toNat - 1) (l.getD (l.length - 1) zrun).r) := by
  have hs := split_last h
  have ho := chain_one hc (k := l.length - 1) (by omega)
  obtain ⟨x, hx⟩ : ∃ x, x = l.getD (l.length - 1) zrun := ⟨_, rfl⟩
  rw [← hx] at hs ho ⊢
  obtain ⟨n, hn, n1, n2, n3, n4⟩ := ho.nat
  rw [hs, all_append, List.getLast?_append]
  have : all [x] = up x.t x.r n := by simp [all, n3]
  rw [this, up_last _ _ _ n1, n3]
  simp
end Go.Proofs.Ytohiidgdpecbdaa.Place

/- octavo/op.Needs, octavoref09: May, Check, Many, Stands, Needs: what each answers. Conditions: the places' cells are runs. -/
namespace Go.Proofs.Ytohiidgdpecbdaa.Ops
open Go.RowKit Stamp Go.Proofs.Ytohiidgdpecbdaa.Place
attribute [local go_sem ↓] Go.wp_at_zero Go.wp_at_succ

/-- How many of the stamps of its place it doesn't stand on. -/
def offs (o : Opn) : Nat := if ownB o = true then 1 else 0
theorem all_pos {l : List Run} (h : mayB l = true) : 1 ≤ (all l).length ∧ (all l).length ≤ 4096 ∧ ((all l).length : Int) = long l := by
  have hM := (mayB_iff l).1 h
  have h1 := long_len hM.2.2.1
  have h2 := hM.2.2.2
  refine ⟨?_, by omega, h1⟩
  rcases Nat.lt_or_ge 0 (all l).length with h3 | h3
  · exact h3
  · exfalso
    have h4 : all l = [] := List.length_eq_zero_iff.1 (by omega)
    have h5 := (all_nil hM.2.2.1).1 h4
    have := hM.1
    rw [h5] at this
    simp at this
theorem mayO_parts {o : Opn} (h : mayO o = true) : may o.t o.r = true ∧ mayB o.pl = true ∧ kindB o = true := by
  unfold mayO at h
  simp only [Bool.and_eq_true] at h
  exact ⟨h.1, h.2.1, h.2.2⟩
end Go.Proofs.Ytohiidgdpecbdaa.Ops

/- Lists of operations: what a slice value holds, places of the call's own. Conditions: none. -/
namespace Go.Proofs.Ytohiidgdpecbdaa.Codes
open Go.RowKit Go.WideShapes Go.Proofs.Ytohiidgdpecbdaa.Place Ops

def zop : Opn := ⟨0, 0, 0, [], 0, by decide, by decide, by decide, by decide⟩
instance : DecidableEq Opn := fun a b => decidable_of_iff (sameB a b = true) (sameB_iff a b)
theorem op_info : (Try.prog.info? 54).map (fun i => (i.zero, i.size, i.bytes)) = some (some (.agg #[.int .u8 0, .int .u32 0, .int .u8 0, .slice none 0 0, .int .i64 0]), 5, 48) := by kernel_rfl
/-- Operations in cells, each place of the call's own. -/
def HoldP (w : World) (base : Nat) : List Value → List Opn → Prop
  | cs, [] => cs = []
  | cs, o :: l => ∃ v d, cs = [.int .u8 (o.k : Int), .int .u32 (o.t : Int), .int .u8 (o.r : Int), v, .int .i64 o.p] ++ d ∧ w.ownsRow base 31 3 v o.pl.length (runs o.pl) ∧ HoldP w base d l
theorem HoldP.rows {w : World} {base : Nat} : ∀ {cs : List Value} {l : List Opn}, HoldP w base cs l → opE.rows w cs l
  | _, [], h => h
  | _, _ :: _, ⟨v, d, h1, h2, h3⟩ => ⟨_, d, h1, ⟨v, rfl, Runs.own h2⟩, HoldP.rows h3⟩
theorem HoldP.keeps {w w' : World} {base : Nat} (hb : Below w.heap.size w w') : ∀ {cs : List Value} {l : List Opn}, HoldP w base cs l → HoldP w' base cs l
  | _, [], h => h
  | _, _ :: _, ⟨v, d, h1, h2, h3⟩ => ⟨v, d, h1, own_stays h2 hb, HoldP.keeps hb h3⟩
theorem HoldP.append {w : World} {base : Nat} : ∀ {cs ds : List Value} {l m : List Opn}, HoldP w base cs l → HoldP w base ds m → HoldP w base (cs ++ ds) (l ++ m)
  | cs, _, [], _, h, h2 => by rw [show cs = [] from h]; exact h2
  | _, ds, _ :: _, _, ⟨v, d, h1, h3, h4⟩, h2 => ⟨v, d ++ ds, by rw [h1, List.append_assoc], h3, HoldP.append h4 h2⟩
theorem HoldP.base {w : World} {b b' : Nat} (hb : b' ≤ b) : ∀ {cs : List Value} {l : List Opn}, HoldP w b cs l → HoldP w b' cs l
  | _, [], h => h
  | _, _ :: _, ⟨v, d, h1, h2, h3⟩ => ⟨v, d, h1, op_base h2 hb, HoldP.base hb h3⟩
theorem HoldP.grown {w w' : World} {base sz n B : Nat} {v : Value} {rs : List Value} (hg : w.grownBy w' v.ownBlock) (hv : w.ownsRow B 54 sz v n rs) : ∀ {cs : List Value} {l : List Opn}, HoldP w base cs l → HoldP w' base cs l
  | _, [], h => h
  | _, _ :: _, ⟨u, d, h1, h2, h3⟩ => by
    refine ⟨u, d, h1, ?_, HoldP.grown hg hv h3⟩
    refine ⟨h2.1, h2.2.imp id fun ⟨g, cap, cur, e1, e2, e3, e4⟩ => ⟨g, cap, cur, e1, e2, ?_, e4⟩⟩
    exact blk_grown hg (own_ne hv e3 (by intro c h; injection h with h1 h2 h3; exact absurd h2 (by decide))) e3
/-- A list of the call's own, its places too. -/
def OwnL (w : World) (base : Nat) (v : Value) (l : List Opn) : Prop := ∃ cs, w.ownsRow base 54 5 v l.length cs ∧ HoldP w base cs l
theorem OwnL.opl {w : World} {base : Nat} {v : Value} {l : List Opn} (h : OwnL w base v l) : OpL w v l := by
  obtain ⟨cs, h1, h2⟩ := h
  exact ⟨cs, Sees.own h1, h2.rows⟩
theorem OwnL.keeps {w w' : World} {base : Nat} {v : Value} {l : List Opn} (h : OwnL w base v l) (hb : Below w.heap.size w w') : OwnL w' base v l := by
  obtain ⟨cs, h1, h2⟩ := h
  exact ⟨cs, own_stays h1 hb, h2.keeps hb⟩
theorem OwnL.nil (w : World) (base : Nat) : OwnL w base (.slice none 0 0) [] := ⟨[], World.ownsRow_nil _ _ _ _, rfl⟩
theorem OwnL.base {w : World} {b b' : Nat} {v : Value} {l : List Opn} (h : OwnL w b v l) (hb : b' ≤ b) : OwnL w b' v l := by
  obtain ⟨cs, h1, h2⟩ := h
  exact ⟨cs, op_base h1 hb, h2.base hb⟩
/-- One more behind a list: what is appended, and to where. -/
theorem OwnL.snoc {W W8 w5 : World} {base m : Nat} {v v5 u : Value} {cs : List Value} {l : List Opn} {o : Opn} (h1 : W.ownsRow base 54 5 v l.length cs) (h2 : HoldP W base cs l) (hb : Below W.heap.size W W8)
    (hu : W8.ownsRow base 31 3 u o.pl.length (runs o.pl)) (g5 : W8.grownBy w5 v.ownBlock) (o5 : w5.ownsRow base 54 5 v5 m (cs ++ [.int .u8 (o.k : Int), .int .u32 (o.t : Int), .int .u8 (o.r : Int), u, .int .i64 o.p])) (hm : m = l.length + 1) : OwnL w5 base v5 (l ++ [o]) := by
  have hx := own_stays h1 hb
  refine ⟨_, by rw [List.length_append, List.length_singleton, ← hm]; exact o5, ?_⟩
  refine HoldP.append (HoldP.grown g5 hx (h2.keeps hb)) ?_
  exact HoldP.grown g5 hx ⟨u, [], rfl, hu, rfl⟩
theorem five_one (o : Opn) (u : Value) (hu : ∃ ao n cap, u = .slice ao n cap) : ∀ x ∈ [Value.int .u8 (o.k : Int), .int .u32 (o.t : Int), .int .u8 (o.r : Int), u, .int .i64 o.p], x.oneCell' = true := by
  obtain ⟨ao, n, cap, rfl⟩ := hu
  intro x hx
  simp only [List.mem_cons, List.not_mem_nil, or_false] at hx
  rcases hx with rfl | rfl | rfl | rfl | rfl <;> rfl
/-- What five cells hold, at a place of a block. -/
def FiveAt (w : World) (g o : Nat) (c0 c1 c2 c3 c4 : Value) : Prop := g < w.heap.size ∧ w.cell? ⟨g, o, none⟩ = some c0 ∧ w.cell? ⟨g, o + 1, none⟩ = some c1 ∧ w.cell? ⟨g, o + 2, none⟩ = some c2 ∧ w.cell? ⟨g, o + 3, none⟩ = some c3 ∧ w.cell? ⟨g, o + 4, none⟩ = some c4
theorem FiveAt.keeps {w w' : World} {g o : Nat} {c0 c1 c2 c3 c4 : Value} (p : FiveAt w g o c0 c1 c2 c3 c4) (hb : Below w.heap.size w w') : FiveAt w' g o c0 c1 c2 c3 c4 :=
  ⟨Nat.lt_of_lt_of_le p.1 hb.size, (hb.cell (p := ⟨g, o, none⟩) p.1).trans p.2.1, (hb.cell (p := ⟨g, o + 1, none⟩) p.1).trans p.2.2.1, (hb.cell (p := ⟨g, o + 2, none⟩) p.1).trans p.2.2.2.1, (hb.cell (p := ⟨g, o + 3, none⟩) p.1).trans p.2.2.2.2.1, (hb.cell (p := ⟨g, o + 4, none⟩) p.1).trans p.2.2.2.2.2⟩
end Go.Proofs.Ytohiidgdpecbdaa.Codes

/- Spans of times, in plain words: which may be, their times, one way of writing, one put to them, one taken away, how many. Conditions: none. -/
namespace Go.Proofs.Ytohiidgdpecbdaa.Spans

/-- A span: from a time to a time. -/
structure Sp where
  f : Nat
  t : Nat
  hf : f < 4294967296
  ht : t < 4294967296
theorem Sp.ext' {a b : Sp} (h1 : a.f = b.f) (h2 : a.t = b.t) : a = b := by
  obtain ⟨f, t, _, _⟩ := a; obtain ⟨g, u, _, _⟩ := b
  simp only at h1 h2
  subst h1 h2
  rfl
theorem Sp.eq_iff {a b : Sp} : a = b ↔ a.f = b.f ∧ a.t = b.t := ⟨fun h => by rw [h]; exact ⟨rfl, rfl⟩, fun h => Sp.ext' h.1 h.2⟩
instance : DecidableEq Sp := fun a b => if h : a.f = b.f ∧ a.t = b.t then isTrue (Sp.eq_iff.2 h) else isFalse (fun e => h (Sp.eq_iff.1 e))
def zsp : Sp := ⟨0, 0, by decide, by decide⟩
/-- A span of two numbers, whatever they are. -/
def mk (f t : Nat) : Sp := ⟨f % 4294967296, t % 4294967296, Nat.mod_lt _ (by decide), Nat.mod_lt _ (by decide)⟩
theorem mk_t {f t : Nat} (h : t < 4294967296) : (mk f t).t = t := Nat.mod_eq_of_lt h

/-- May a span be, by itself? -/
def Ok (x : Sp) : Prop := 1 ≤ x.f ∧ x.f ≤ x.t ∧ x.t ≤ 1073741824
instance (x : Sp) : Decidable (Ok x) := inferInstanceAs (Decidable (_ ∧ _))
/-- May spans be, but for how many? -/
def Fine : List Sp → Prop
  | [] => True
  | [x] => Ok x
  | x :: y :: l => Ok x ∧ x.t + 2 ≤ y.f ∧ Fine (y :: l)
theorem Fine.head {x : Sp} {l : List Sp} (h : Fine (x :: l)) : Ok x := by
  cases l with
  | nil => exact h
  | cons y l => exact h.1
theorem Fine.tail {x : Sp} {l : List Sp} (h : Fine (x :: l)) : Fine l := by
  cases l with
  | nil => trivial
  | cons y l => exact h.2.2
theorem Fine.all : ∀ {l : List Sp}, Fine l → ∀ x ∈ l, Ok x
  | [], _, x, hx => by simp at hx
  | y :: l, h, x, hx => by
    rw [List.mem_cons] at hx
    rcases hx with rfl | hx
    · exact h.head
    · exact Fine.all h.tail x hx
theorem Fine.far : ∀ {x : Sp} {l : List Sp}, Fine (x :: l) → ∀ y ∈ l, x.t + 2 ≤ y.f
  | _, [], _, y, hy => by simp at hy
  | x, z :: l, h, y, hy => by
    rw [List.mem_cons] at hy
    rcases hy with rfl | hy
    · exact h.2.1
    · have h1 := Fine.far h.2.2 y hy
      have h2 := h.2.1
      have h3 := h.2.2.head
      unfold Ok at h3
      omega
theorem Fine.cons {x : Sp} {l : List Sp} (hx : Ok x) (hl : Fine l) (h : ∀ y ∈ l, x.t + 2 ≤ y.f) : Fine (x :: l) := by
  cases l with
  | nil => exact hx
  | cons y l => exact ⟨hx, h y (by simp), hl⟩
/-- Has it the time? -/
def In (l : List Sp) (n : Nat) : Prop := ∃ x ∈ l, x.f ≤ n ∧ n ≤ x.t
def inB : List Sp → Nat → Bool
  | [], _ => false
  | x :: l, n => decide (x.f ≤ n ∧ n ≤ x.t) || inB l n
theorem inB_iff : ∀ (l : List Sp) (n : Nat), inB l n = true ↔ In l n
  | [], n => by simp [inB, In]
  | x :: l, n => by
    have ih := inB_iff l n
    unfold In at ih ⊢
    simp [inB, ih]
instance (l : List Sp) (n : Nat) : Decidable (In l n) := decidable_of_iff _ (inB_iff l n)
theorem in_nil (n : Nat) : ¬ In [] n := by simp [In]
theorem in_cons {x : Sp} {l : List Sp} {n : Nat} : In (x :: l) n ↔ (x.f ≤ n ∧ n ≤ x.t) ∨ In l n := by simp [In]
theorem in_far {x : Sp} {l : List Sp} (h : Fine (x :: l)) {n : Nat} (hn : In l n) : x.t + 2 ≤ n := by
  obtain ⟨y, hy, h1, _⟩ := hn
  have := h.far y hy
  omega
/-! ### One put to them -/

/-! ### One taken away -/

/-- What is left of one. -/
def rem (y x : Sp) : List Sp :=
  if y.t < x.f ∨ x.t < y.f then [y] else (if y.f < x.f then [mk y.f (x.f - 1)] else []) ++ (if x.t < y.t then [mk (x.t + 1) y.t] else [])
def del : List Sp → Sp → List Sp
  | [], _ => []
  | y :: l, x => rem y x ++ del l x
/-! ### All of one put to another one, taken away -/

def left : List Sp → List Sp → List Sp
  | a, [] => a
  | a, x :: b => left (del a x) b
/-! ### How many times -/

def many : List Sp → Nat
  | [] => 0
  | x :: l => x.t - x.f + 1 + many l
end Go.Proofs.Ytohiidgdpecbdaa.Spans

/- Spans, as Bools, and taken one by one. Conditions: none. -/
namespace Go.Proofs.Ytohiidgdpecbdaa.Spans

def fineB : List Sp → Bool
  | [] => true
  | [x] => decide (Ok x)
  | x :: y :: l => decide (Ok x) && (decide (x.t + 2 ≤ y.f) && fineB (y :: l))
theorem fineB_iff : ∀ l : List Sp, fineB l = true ↔ Fine l
  | [] => by simp [fineB, Fine]
  | [x] => by simp [fineB, Fine]
  | x :: y :: l => by simp [fineB, Fine, fineB_iff (y :: l)]
/-- May spans be? -/
def mayB (l : List Sp) : Bool := fineB l && decide (l.length ≤ 1024)
theorem mayB_iff (l : List Sp) : mayB l = true ↔ Fine l ∧ l.length ≤ 1024 := by simp [mayB, fineB_iff]
theorem mayB_no {l : List Sp} (h : ¬ Fine l) : mayB l = false := by
  cases hb : mayB l
  · rfl
  · exact absurd ((mayB_iff l).1 hb).1 h
end Go.Proofs.Ytohiidgdpecbdaa.Spans

/- Clocks as lists of a replica and its spans, in Lean alone: one way of writing, joins, what is left, how many, up to when. -/
namespace Go.Proofs.Ytohiidgdpecbdaa.Clocks
open Go.Proofs.Ytohiidgdpecbdaa.Spans

/-- A replica and its spans. -/
abbrev Tm := Nat × List Sp

/-- Replicas from lo on, ascending, each with spans that may be. -/
def Up : Nat → List Tm → Prop
  | _, [] => True
  | lo, x :: c => lo ≤ x.1 ∧ x.1 < 8 ∧ x.2 ≠ [] ∧ mayB x.2 = true ∧ Up (x.1 + 1) c
/-- The greatest time of spans, and of a clock. -/
def top : List Sp → Nat
  | [] => 0
  | x :: l => max x.t (top l)
end Go.Proofs.Ytohiidgdpecbdaa.Clocks

/- Clocks taken one by one, whether they may be, as a Bool; the clock of stamps, and the stamps of a clock. Conditions: none. -/
namespace Go.Proofs.Ytohiidgdpecbdaa.Clocks
open Go.Proofs.Ytohiidgdpecbdaa.Spans

theorem up_front : ∀ {c d : List Tm} {lo : Nat}, Up lo (c ++ d) → Up lo c
  | [], _, _, _ => trivial
  | _ :: _, _, _, h => ⟨h.1, h.2.1, h.2.2.1, h.2.2.2.1, up_front h.2.2.2.2⟩
theorem up_take {c : List Tm} {lo : Nat} (h : Up lo c) (k : Nat) : Up lo (c.take k) := by
  have := List.take_append_drop k c
  rw [← this] at h
  exact up_front h
theorem up_snoc : ∀ {c : List Tm} {x : Tm} {lo : Nat}, Up lo c → (∀ y ∈ c, y.1 < x.1) → lo ≤ x.1 → x.1 < 8 → x.2 ≠ [] → mayB x.2 = true → Up lo (c ++ [x])
  | [], x, lo, _, _, h1, h2, h3, h4 => ⟨h1, h2, h3, h4, trivial⟩
  | y :: c, x, lo, h, hl, h1, h2, h3, h4 => by
    have := hl y (by simp)
    exact ⟨h.1, h.2.1, h.2.2.1, h.2.2.2.1, up_snoc h.2.2.2.2 (fun z hz => hl z (by simp [hz])) (by omega) h2 h3 h4⟩
/-- The clock of a stamp. -/
def one (a : Id) : List Tm := [(a.r, [mk a.t a.t])]
/-- May a stamp be? -/
def mayI (a : Id) : Prop := 1 ≤ a.t ∧ a.t ≤ 1073741824 ∧ a.r < 8
instance (a : Id) : Decidable (mayI a) := inferInstanceAs (Decidable (_ ∧ _))
theorem list_snoc_ind {α : Type} {P : List α → Prop} (h0 : P []) (h1 : ∀ l a, P l → P (l ++ [a])) (l : List α) : P l := by
  have go : ∀ (n : Nat) (l : List α), l.length = n → P l := by
    intro n
    induction n with
    | zero => intro l h; rw [List.length_eq_zero_iff.1 h]; exact h0
    | succ n ih =>
      intro l h
      rcases List.eq_nil_or_concat l with rfl | ⟨m, x, rfl⟩
      · simp at h
      · rw [List.concat_eq_append] at h ⊢
        exact h1 m x (ih m (by simpa using h))
  exact go l.length l rfl
/-! ### No more than both -/
/-! ### The stamps of a clock -/
end Go.Proofs.Ytohiidgdpecbdaa.Clocks

/- What clocks' calls answer, as plain functions; what follows. Conditions: none. -/
namespace Go.Proofs.Ytohiidgdpecbdaa.Clocks
open Go.Proofs.Ytohiidgdpecbdaa.Spans

/-- How many spans in all. -/
def tot : List Tm → Nat
  | [] => 0
  | x :: c => x.2.length + tot c
/-! ### Joining -/
end Go.Proofs.Ytohiidgdpecbdaa.Clocks
