/- Rows of numbers that are put in order where they stand: what stays, what comes to be in order. Conditions: none. A row of 32-bit numbers of the call's own, put in order where it stands: its cells; cmp.Less. Conditions: none. slices.insertionSortOrdered over 32-bit numbers: it puts in order. Conditions: the row is the call's own. math/bits.Len of numbers up to 1024: how many digits they have. Conditions: as said. slices.Sort over 32-bit numbers, of at most twelve of them, and of none: it puts in order. Conditions: the row is the call's own. octavo/clock.inShort: what it answers. Conditions: the row is the call's own; its numbers are times; slices.Sort puts so many in order. -/
import Derived.Test.YtgjbnbojjgbmcaaGreatChecked
import Derived.WalkKit
import Derived.WalkSpells
import Derived.WalkLawsBesides
import Derived.Laws.BytesArg
import Derived.Lib.Hide
import Derived.Deep.LoopGhost
import Derived.Laws.AppendOwnNone
import Derived.Laws.OwnMore
import Derived.WideShapes
import Derived.RegionTactic
import Derived.Deep.DrawnRows
import Derived.Deep.QuietTactic
import Derived.BigQuiet
import Derived.Deep.DeepCutAuto
import Derived.IntWalk
import Derived.Deep.RegionHeld3
import Derived.Lib.Tables
import Derived.RowKit
import Derived.Shelf.Abstract
import Derived.RangeFuncBox
import Derived.RangeFuncLeaves
import Derived.RangeFuncNested
import Derived.RangeFuncBound
import Derived.RangeFuncCalls
import Derived.OwnWalkIn
import Derived.TacticsInMore
import Derived.LoopNIn
import Derived.LoopIn
import Derived.Maps.Own
import Derived.Maps.OwnOps
import Derived.Maps.Views
import Derived.Test.YtgjbnbojjgbmcaaGreatPk01
import Derived.Test.YtgjbnbojjgbmcaaGreatPk15
import Derived.Test.YtgjbnbojjgbmcaaGreatPk16
import Derived.Test.YtgjbnbojjgbmcaaGreatPk20
import Derived.Test.YtgjbnbojjgbmcaaGreatPk09
import Derived.Test.YtgjbnbojjgbmcaaGreatPk24
import Derived.Test.YtgjbnbojjgbmcaaGreatPk23
import Derived.Test.YtgjbnbojjgbmcaaGreatPk04

namespace Go.Proofs.YtgjbnbojjgbmcaaGreat.Srt
/-- Between a and b the same ones in whatever order; elsewhere nothing has turned. -/
structure Sw (a b : Nat) (xs ys : List Nat) : Prop where
  len : ys.length = xs.length
  out : ∀ i, i < a ∨ b ≤ i → ys.getD i 0 = xs.getD i 0
  tto : ∀ i, a ≤ i → i < b → ∃ j, a ≤ j ∧ j < b ∧ ys.getD i 0 = xs.getD j 0
  fro : ∀ j, a ≤ j → j < b → ∃ i, a ≤ i ∧ i < b ∧ xs.getD j 0 = ys.getD i 0
theorem Sw.refl (a b : Nat) (xs : List Nat) : Sw a b xs xs := ⟨rfl, fun _ _ => rfl, fun i h1 h2 => ⟨i, h1, h2, rfl⟩, fun j h1 h2 => ⟨j, h1, h2, rfl⟩⟩
theorem Sw.trans {a b : Nat} {xs ys zs : List Nat} (h : Sw a b xs ys) (k : Sw a b ys zs) : Sw a b xs zs := by
  refine ⟨k.len.trans h.len, fun i hi => (k.out i hi).trans (h.out i hi), fun i h1 h2 => ?_, fun j h1 h2 => ?_⟩
  · obtain ⟨p, p1, p2, p3⟩ := k.tto i h1 h2
    obtain ⟨q, q1, q2, q3⟩ := h.tto p p1 p2
    exact ⟨q, q1, q2, p3.trans q3⟩
  · obtain ⟨p, p1, p2, p3⟩ := h.fro j h1 h2
    obtain ⟨q, q1, q2, q3⟩ := k.fro p p1 p2
    exact ⟨q, q1, q2, p3.trans q3⟩
theorem Sw.mono {a b a' b' : Nat} {xs ys : List Nat} (h : Sw a b xs ys) (ha : a' ≤ a) (hb : b ≤ b') : Sw a' b' xs ys := by
  refine ⟨h.len, fun i hi => h.out i (by omega), fun i h1 h2 => ?_, fun j h1 h2 => ?_⟩
  · by_cases hi : a ≤ i ∧ i < b
    · obtain ⟨j, j1, j2, j3⟩ := h.tto i hi.1 hi.2
      exact ⟨j, by omega, by omega, j3⟩
    · exact ⟨i, h1, h2, h.out i (by omega)⟩
  · by_cases hj : a ≤ j ∧ j < b
    · obtain ⟨i, i1, i2, i3⟩ := h.fro j hj.1 hj.2
      exact ⟨i, by omega, by omega, i3⟩
    · exact ⟨j, h1, h2, (h.out j (by omega)).symm⟩
theorem Sw.all {a b : Nat} {xs ys : List Nat} (h : Sw a b xs ys) {P : Nat → Prop} (hp : ∀ i, a ≤ i → i < b → P (xs.getD i 0)) : ∀ i, a ≤ i → i < b → P (ys.getD i 0) := fun i h1 h2 => by
  obtain ⟨j, j1, j2, j3⟩ := h.tto i h1 h2
  rw [j3]
  exact hp j j1 j2
theorem getD_mem {xs : List Nat} {i : Nat} (h : i < xs.length) : xs.getD i 0 ∈ xs := by
  rw [List.getD, List.getElem?_eq_getElem h]
  exact List.getElem_mem _
theorem mem_getD {xs : List Nat} {v : Nat} (h : v ∈ xs) : ∃ i, i < xs.length ∧ xs.getD i 0 = v := by
  obtain ⟨i, hi, e⟩ := List.mem_iff_getElem.1 h
  exact ⟨i, hi, by rw [List.getD, List.getElem?_eq_getElem hi]; exact e⟩
theorem Sw.mem {xs ys : List Nat} (h : Sw 0 xs.length xs ys) (v : Nat) : v ∈ ys ↔ v ∈ xs := by
  constructor
  · intro hv
    obtain ⟨i, hi, rfl⟩ := mem_getD hv
    obtain ⟨j, _, j2, j3⟩ := h.tto i (by omega) (by rw [← h.len]; exact hi)
    rw [j3]
    exact getD_mem j2
  · intro hv
    obtain ⟨i, hi, rfl⟩ := mem_getD hv
    obtain ⟨j, _, j2, j3⟩ := h.fro i (by omega) hi
    rw [j3]
    exact getD_mem (by rw [h.len]; exact j2)
/-- Two exchanged: the value of j at i, then that of i at j. -/
def ex (xs : List Nat) (i j : Nat) : List Nat := (xs.set i (xs.getD j 0)).set j (xs.getD i 0)
theorem ex_len (xs : List Nat) (i j : Nat) : (ex xs i j).length = xs.length := by simp [ex]
theorem ex_get {xs : List Nat} {i j : Nat} (hi : i < xs.length) (hj : j < xs.length) (k : Nat) : (ex xs i j).getD k 0 = if k = j then xs.getD i 0 else if k = i then xs.getD j 0 else xs.getD k 0 := by
  unfold ex
  by_cases h1 : k = j
  · subst h1
    rw [if_pos rfl]
    simp only [List.getD, List.getElem?_set, List.length_set]
    simp [hj]
  · rw [if_neg h1]
    by_cases h2 : k = i
    · subst h2
      rw [if_pos rfl]
      simp only [List.getD, List.getElem?_set, List.length_set]
      simp [hi, show ¬ j = k from fun e => h1 e.symm]
    · rw [if_neg h2]
      simp only [List.getD, List.getElem?_set, List.length_set]
      simp [show ¬ j = k from fun e => h1 e.symm, show ¬ i = k from fun e => h2 e.symm]
theorem Sw.ex {a b i j : Nat} {xs : List Nat} (h1 : a ≤ i) (h2 : i < b) (h3 : a ≤ j) (h4 : j < b) (hb : b ≤ xs.length) : Sw a b xs (ex xs i j) := by
  have g := ex_get (xs := xs) (i := i) (j := j) (by omega) (by omega)
  refine ⟨ex_len _ _ _, fun k hk => ?_, fun k k1 k2 => ?_, fun k k1 k2 => ?_⟩
  · rw [g, if_neg (by omega), if_neg (by omega)]
  · by_cases e : k = j
    · exact ⟨i, h1, h2, by rw [g, if_pos e]⟩
    · by_cases e2 : k = i
      · exact ⟨j, h3, h4, by rw [g, if_neg e, if_pos e2]⟩
      · exact ⟨k, k1, k2, by rw [g, if_neg e, if_neg e2]⟩
  · by_cases e : k = i
    · exact ⟨j, h3, h4, by rw [g, if_pos rfl, e]⟩
    · by_cases e2 : k = j
      · refine ⟨i, h1, h2, ?_⟩
        rw [g]
        by_cases e3 : i = j
        · rw [if_pos e3, e2, e3]
        · rw [if_neg e3, if_pos rfl, e2]
      · exact ⟨k, k1, k2, by rw [g, if_neg e2, if_neg e]⟩
/-- In order between a and b. -/
def Inc (a b : Nat) (xs : List Nat) : Prop := ∀ i j, a ≤ i → i ≤ j → j < b → xs.getD i 0 ≤ xs.getD j 0
theorem inc_one {a b : Nat} {xs : List Nat} (h : b ≤ a + 1) : Inc a b xs := fun i j h1 h2 h3 => by
  obtain rfl : i = j := by omega
  exact Nat.le_refl _
theorem inc_succ {a i : Nat} {xs : List Nat} (h : Inc a i xs) (hn : a < i → xs.getD (i - 1) 0 ≤ xs.getD i 0) : Inc a (i + 1) xs := fun p q h1 h2 h3 => by
  by_cases hq : q < i
  · exact h p q h1 h2 hq
  · obtain rfl : q = i := by omega
    by_cases hp : p = q
    · subst hp; exact Nat.le_refl _
    · exact Nat.le_trans (h p (q - 1) h1 (by omega) (by omega)) (hn (by omega))
theorem inc_same {a b : Nat} {xs ys : List Nat} (h : Inc a b xs) (e : ∀ i, a ≤ i → i < b → ys.getD i 0 = xs.getD i 0) : Inc a b ys := fun i j h1 h2 h3 => by
  rw [e i h1 (by omega), e j (by omega) h3]
  exact h i j h1 h2 h3
/-- Up to i in order, but for the one at j, which may be too small for its place. -/
def Ins (a j i : Nat) (xs : List Nat) : Prop := ∀ p q, a ≤ p → p < q → q ≤ i → q ≠ j → xs.getD p 0 ≤ xs.getD q 0
theorem ins_start {a i : Nat} {xs : List Nat} (h : Inc a i xs) : Ins a i i xs := fun p q h1 h2 h3 h4 => h p q h1 (by omega) (by omega)
theorem ins_step {a j i : Nat} {xs : List Nat} (h : Ins a j i xs) (h1 : a < j) (h2 : j ≤ i) (hi : i < xs.length) (hl : xs.getD j 0 < xs.getD (j - 1) 0) : Ins a (j - 1) i (ex xs j (j - 1)) := fun p q p1 p2 p3 p4 => by
  have g := ex_get (xs := xs) (i := j) (j := j - 1) (by omega) (by omega)
  rw [g p, g q, if_neg p4]
  by_cases hq : q = j
  · rw [if_pos hq]
    by_cases hp : p = j - 1
    · rw [if_pos hp]; omega
    · rw [if_neg hp, if_neg (by omega)]
      exact h p (j - 1) p1 (by omega) (by omega) (by omega)
  · rw [if_neg hq]
    by_cases hp : p = j - 1
    · rw [if_pos hp]
      exact h j q (by omega) (by omega) p3 hq
    · rw [if_neg hp]
      by_cases hp2 : p = j
      · rw [if_pos hp2]
        exact h (j - 1) q (by omega) (by omega) p3 hq
      · rw [if_neg hp2]
        exact h p q p1 p2 p3 hq
theorem ins_end {a j i : Nat} {xs : List Nat} (h : Ins a j i xs) (h1 : a ≤ j) (h2 : j ≤ i) (hl : a < j → xs.getD (j - 1) 0 ≤ xs.getD j 0) : Inc a (i + 1) xs := fun p q p1 p2 p3 => by
  by_cases e : p = q
  · subst e; exact Nat.le_refl _
  · by_cases hq : q = j
    · subst hq
      by_cases hp : p = q - 1
      · subst hp; exact hl (by omega)
      · exact Nat.le_trans (h p (q - 1) p1 (by omega) (by omega) (by omega)) (hl (by omega))
    · exact h p q p1 (by omega) (by omega) hq
/-- From lo on each is at least as great as its children, ahead of hi. -/
def Hp (f lo hi : Nat) (xs : List Nat) : Prop := ∀ i c, lo ≤ i → (c = 2 * i + 1 ∨ c = 2 * i + 2) → c < hi → xs.getD (f + c) 0 ≤ xs.getD (f + i) 0
/-- The same, but for r, whose children are no greater than its parent. -/
def Hr (f lo hi r : Nat) (xs : List Nat) : Prop := (∀ i c, lo ≤ i → i ≠ r → (c = 2 * i + 1 ∨ c = 2 * i + 2) → c < hi → xs.getD (f + c) 0 ≤ xs.getD (f + i) 0) ∧
  ∀ i c, lo ≤ i → (r = 2 * i + 1 ∨ r = 2 * i + 2) → (c = 2 * r + 1 ∨ c = 2 * r + 2) → c < hi → xs.getD (f + c) 0 ≤ xs.getD (f + i) 0
theorem hr_start {f lo hi : Nat} {xs : List Nat} (h : Hp f (lo + 1) hi xs) : Hr f lo hi lo xs :=
  ⟨fun i c h1 h2 h3 h4 => h i c (by omega) h3 h4, fun i c h1 h2 _ _ => by omega⟩
theorem hr_end {f lo hi r : Nat} {xs : List Nat} (h : Hr f lo hi r xs) (hl : ∀ c, (c = 2 * r + 1 ∨ c = 2 * r + 2) → c < hi → xs.getD (f + c) 0 ≤ xs.getD (f + r) 0) : Hp f lo hi xs := fun i c h1 h2 h3 => by
  by_cases e : i = r
  · subst e; exact hl c h2 h3
  · exact h.1 i c h1 e h2 h3
theorem hr_step {f lo hi r c : Nat} {xs : List Nat} (h : Hr f lo hi r xs) (hlo : lo ≤ r) (hc : c = 2 * r + 1 ∨ c = 2 * r + 2) (hch : c < hi) (hn : f + hi ≤ xs.length) (hl : xs.getD (f + r) 0 < xs.getD (f + c) 0)
    (hm : ∀ d, (d = 2 * r + 1 ∨ d = 2 * r + 2) → d < hi → xs.getD (f + d) 0 ≤ xs.getD (f + c) 0) : Hr f lo hi c (ex xs (f + r) (f + c)) := by
  have g := ex_get (xs := xs) (i := f + r) (j := f + c) (by omega) (by omega)
  have gr : (ex xs (f + r) (f + c)).getD (f + r) 0 = xs.getD (f + c) 0 := by rw [g, if_neg (by omega), if_pos rfl]
  have gc : (ex xs (f + r) (f + c)).getD (f + c) 0 = xs.getD (f + r) 0 := by rw [g, if_pos rfl]
  have go : ∀ k, k ≠ r → k ≠ c → (ex xs (f + r) (f + c)).getD (f + k) 0 = xs.getD (f + k) 0 := fun k k1 k2 => by rw [g, if_neg (by omega), if_neg (by omega)]
  refine ⟨fun i d h1 h2 h3 h4 => ?_, fun i d h1 h2 h3 h4 => ?_⟩
  · by_cases e : i = r
    · subst e
      rw [gr]
      by_cases e2 : d = c
      · subst e2; rw [gc]; omega
      · rw [go d (by omega) e2]
        exact hm d h3 h4
    · rw [go i e h2]
      by_cases e2 : d = r
      · subst e2
        rw [gr]
        exact h.2 i c h1 h3 hc hch
      · by_cases e3 : d = c
        · omega
        · rw [go d e2 e3]
          exact h.1 i d h1 e h3 h4
  · obtain rfl : i = r := by omega
    rw [gr, go d (by omega) (by omega)]
    exact h.1 c d (by omega) (by omega) h3 h4
theorem hp_top {f hi : Nat} {xs : List Nat} (h : Hp f 0 hi xs) : ∀ k i, i ≤ k → i < hi → xs.getD (f + i) 0 ≤ xs.getD f 0
  | 0, i, h1, _ => by
    obtain rfl : i = 0 := by omega
    exact Nat.le_refl _
  | k + 1, i, h1, h2 => by
    by_cases h0 : i = 0
    · subst h0; exact Nat.le_refl _
    · have h3 := h ((i - 1) / 2) i (by omega) (by omega) h2
      have h4 := hp_top h k ((i - 1) / 2) (by omega) (by omega)
      omega
/-- The ones from f to f + i are a heap, those behind in order, and no less than these. -/
def Tail (f i hi : Nat) (xs : List Nat) : Prop := Inc (f + i) (f + hi) xs ∧ ∀ p q, p < i → i ≤ q → q < hi → xs.getD (f + p) 0 ≤ xs.getD (f + q) 0
theorem tail_start (f hi : Nat) (xs : List Nat) : Tail f hi hi xs := ⟨inc_one (by omega), fun p q h1 h2 h3 => by omega⟩
theorem tail_step {f i hi : Nat} {xs ys : List Nat} (h : Tail f (i + 1) hi xs) (hh : Hp f 0 (i + 1) xs) (hi' : i < hi) (hn : f + hi ≤ xs.length) (hs : Sw f (f + i) (ex xs f (f + i)) ys) : Tail f i hi ys := by
  have g := ex_get (xs := xs) (i := f) (j := f + i) (by omega) (by omega)
  have yi : ∀ q, i ≤ q → ys.getD (f + q) 0 = (ex xs f (f + i)).getD (f + q) 0 := fun q hq => hs.out _ (.inr (by omega))
  have xi : (ex xs f (f + i)).getD (f + i) 0 = xs.getD f 0 := by rw [g, if_pos rfl]
  have xq : ∀ q, i < q → (ex xs f (f + i)).getD (f + q) 0 = xs.getD (f + q) 0 := fun q hq => by rw [g, if_neg (by omega), if_neg (by omega)]
  have xp : ∀ p, f ≤ p → p < f + i → (ex xs f (f + i)).getD p 0 ≤ xs.getD f 0 ∧ ∀ q, i < q → q < hi → (ex xs f (f + i)).getD p 0 ≤ xs.getD (f + q) 0 := fun p p1 p2 => by
    rw [g, if_neg (by omega)]
    by_cases e : p = f
    · rw [if_pos e]
      exact ⟨hp_top hh i i (by omega) (by omega), fun q q1 q2 => h.2 i q (by omega) (by omega) q2⟩
    · rw [if_neg e]
      obtain ⟨k, rfl⟩ : ∃ k, p = f + k := ⟨p - f, by omega⟩
      exact ⟨hp_top hh k k (by omega) (by omega), fun q q1 q2 => h.2 k q (by omega) (by omega) q2⟩
  have yp := hs.all (P := fun v => v ≤ xs.getD f 0 ∧ ∀ q, i < q → q < hi → v ≤ xs.getD (f + q) 0) xp
  refine ⟨fun p q h1 h2 h3 => ?_, fun p q h1 h2 h3 => ?_⟩
  · obtain ⟨k, rfl⟩ : ∃ k, p = f + k := ⟨p - f, by omega⟩
    obtain ⟨m, rfl⟩ : ∃ m, q = f + m := ⟨q - f, by omega⟩
    rw [yi k (by omega), yi m (by omega)]
    by_cases e : k = i
    · subst e
      rw [xi]
      by_cases e2 : m = k
      · subst e2; rw [xi]; exact Nat.le_refl _
      · rw [xq m (by omega)]
        have := h.2 0 m (by omega) (by omega) (by omega)
        simpa using this
    · rw [xq k (by omega), xq m (by omega)]
      exact h.1 _ _ (by omega) (by omega) (by omega)
  · have := yp (f + p) (by omega) (by omega)
    rw [yi q h2]
    by_cases e : q = i
    · subst e; rw [xi]; exact this.1
    · rw [xq q (by omega)]; exact this.2 q (by omega) h3
theorem hp_swap {f i : Nat} {xs : List Nat} (hh : Hp f 0 (i + 1) xs) (hn : f + i < xs.length) : Hp f 1 i (ex xs f (f + i)) := fun p c h1 h2 h3 => by
  have g := ex_get (xs := xs) (i := f) (j := f + i) (by omega) (by omega)
  rw [g, g, if_neg (by omega), if_neg (by omega), if_neg (by omega), if_neg (by omega)]
  exact hh p c (by omega) h2 (by omega)
end Go.Proofs.YtgjbnbojjgbmcaaGreat.Srt

namespace Go.Proofs.YtgjbnbojjgbmcaaGreat.Srt
open Go.RowKit
def us (xs : List Nat) : List Value := xs.map fun (x : Nat) => .int .u32 (x : Int)
theorem us_len (xs : List Nat) : (us xs).length = xs.length := by simp [us]
theorem us_get (xs : List Nat) (j : Nat) (h : j < xs.length) : (us xs)[j]? = some (.int .u32 ((xs.getD j 0 : Nat) : Int)) := by
  simp [us, List.getD, List.getElem?_eq_getElem h]
theorem us_set (xs : List Nat) (k v : Nat) : us (xs.set k v) = (us xs).set k (.int .u32 (v : Int)) := by simp [us, List.map_set]
theorem us_append (xs ys : List Nat) : us (xs ++ ys) = us xs ++ us ys := by simp [us]
/-- The row. -/
def Row (w : World) (B g n cap : Nat) (xs : List Nat) : Prop := w.ownsRow B 26 1 (.slice (some ⟨g, 0, none⟩) n cap) n (us xs)
theorem Row.len {w : World} {B g n cap : Nat} {xs : List Nat} (h : Row w B g n cap xs) : xs.length = n := by
  have := h.1
  rw [us_len] at this
  omega
theorem Row.cell {w : World} {B g n cap : Nat} {xs : List Nat} (h : Row w B g n cap xs) (k : Nat) (hk : k < n) : w.cell? ⟨g, k, none⟩ = some (.int .u32 ((xs.getD k 0 : Nat) : Int)) := by
  have := World.ownsRow.cellAt h k (by omega)
  rw [this]
  exact us_get xs k (by rw [h.len]; exact hk)
theorem Row.free {w : World} {B g n cap : Nat} {xs : List Nat} (h : Row w B g n cap xs) (k : Nat) : w.frozen? ⟨g, k, none⟩ = false := World.ownsRow.frozenAt h k
theorem Row.lt {w : World} {B g n cap : Nat} {xs : List Nat} (h : Row w B g n cap xs) : g < w.heap.size := (World.ownsRow.lt h g rfl).2
theorem Row.draw {w : World} {B g n cap : Nat} {xs : List Nat} (h : Row w B g n cap xs) (k : Nat) : Row (w.drewN k) B g n cap xs := h
theorem Row.keeps {w w' : World} {B g n cap : Nat} {xs : List Nat} (h : Row w B g n cap xs) (hb : Below w.heap.size w w') : Row w' B g n cap xs := own_stays h hb
theorem Row.other {w w' : World} {B g h n cap : Nat} {xs : List Nat} (hr : Row w B g n cap xs) (hg : w.grownBy w' (some h)) (hne : g ≠ h) : Row w' B g n cap xs :=
  World.ownsRow.kept hr hg (.inr (fun e => hne (by simpa [Value.ownBlock] using e)))
theorem grown_tr {a b c : World} {row : Option Nat} (h : a.grownBy b row) (k : b.grownBy c row) : a.grownBy c row :=
  ⟨k.os.trans h.os, k.tape.trans h.tape, k.output.trans h.output, Nat.le_trans h.size k.size, fun i hi hr => (k.block i (Nat.lt_of_lt_of_le hi h.size) hr).trans (h.block i hi hr)⟩
theorem grown_draw {a b : World} {row : Option Nat} (h : a.grownBy b row) (k : Nat) : a.grownBy (b.drewN k) row := ⟨h.os, h.tape, h.output, h.size, h.block⟩
theorem grown_of {w w' : World} (h : Below w.heap.size w w') (row : Option Nat) : w.grownBy w' row := ⟨h.os, h.tape, h.output, h.size, fun i hi _ => h.block i hi⟩
/-- Behind the first store of an exchange the other place still holds what it held, or what was just laid there, which is the same. -/
theorem Row.sec {w : World} {B g n cap : Nat} {xs : List Nat} (h : Row w B g n cap xs) (i j : Nat) (hi : i < n) (hj : j < n) :
    (w.setCell ⟨g, i, none⟩ (.int .u32 ((xs.getD j 0 : Nat) : Int))).cell? ⟨g, j, none⟩ = some (.int .u32 ((xs.getD j 0 : Nat) : Int)) ∧ (w.setCell ⟨g, i, none⟩ (.int .u32 ((xs.getD j 0 : Nat) : Int))).frozen? ⟨g, j, none⟩ = false := by
  have h1 : Row (w.setCell ⟨g, i, none⟩ (.int .u32 ((xs.getD j 0 : Nat) : Int))) B g n cap (xs.set i (xs.getD j 0)) := by
    have h2 := (World.ownsRow.stored h i (.int .u32 ((xs.getD j 0 : Nat) : Int))).1
    rw [← us_set] at h2
    exact h2
  refine ⟨?_, h1.free j⟩
  rw [h1.cell j hj]
  have hl := h.len
  simp only [List.getD, List.getElem?_set]
  by_cases e : i = j
  · subst e
    simp [hl, hi]
  · rw [if_neg e]
/-- Two exchanged. -/
theorem Row.ex {w : World} {B g n cap : Nat} {xs : List Nat} (h : Row w B g n cap xs) (i j : Nat) :
    Row ((w.setCell ⟨g, i, none⟩ (.int .u32 ((xs.getD j 0 : Nat) : Int))).setCell ⟨g, j, none⟩ (.int .u32 ((xs.getD i 0 : Nat) : Int))) B g n cap (ex xs i j) ∧
      w.grownBy ((w.setCell ⟨g, i, none⟩ (.int .u32 ((xs.getD j 0 : Nat) : Int))).setCell ⟨g, j, none⟩ (.int .u32 ((xs.getD i 0 : Nat) : Int))) (some g) := by
  have h1 := World.ownsRow.stored h i (.int .u32 ((xs.getD j 0 : Nat) : Int))
  have h2 := World.ownsRow.stored h1.1 j (.int .u32 ((xs.getD i 0 : Nat) : Int))
  refine ⟨?_, grown_tr h1.2 h2.2⟩
  show World.ownsRow _ _ _ _ _ _ _
  unfold Srt.ex
  rw [us_set, us_set]
  exact h2.1
theorem nan_no (x : Nat) (w : World) : Calls Tryz.prog 216 #[.int .u32 (x : Int)] w fun e w' => e = .returned (.bool false) ∧ w' = w := by
  go_enter Tryz.func216, Tryz.ntmps216
  go_wp2
  go_ret
  exact ⟨by simp, rfl⟩
theorem less_any (x y : Nat) (w : World) : Calls Tryz.prog 210 #[.int .u32 (x : Int), .int .u32 (y : Int)] w fun e w' => e = .returned (.bool (decide (x < y))) ∧ w' = w := by
  have N := Lib.hid (nan_no x)
  by_cases h : x < y
  · have t1 : decide ((x : Int) < (y : Int)) = true := decide_eq_true (by omega)
    have t2 : decide (x < y) = true := decide_eq_true h
    rw [t2]
    go_enter Tryz.func210, Tryz.ntmps210
    go_wp2_with fail
    refine (N.out _).mono ?_
    rintro e w1 ⟨rfl, rfl⟩
    go_wp2
    go_ret
    exact ⟨rfl, rfl⟩
  · have t1 : decide ((x : Int) < (y : Int)) = false := decide_eq_false (by omega)
    have t2 : decide (x < y) = false := decide_eq_false h
    rw [t2]
    go_enter Tryz.func210, Tryz.ntmps210
    go_wp2_with fail
    refine (N.out _).mono ?_
    rintro e w1 ⟨rfl, rfl⟩
    go_wp2
    go_ret
    exact ⟨rfl, rfl⟩
theorem less_is {x y : Nat} {b : Bool} (h : decide (x < y) = b) (w : World) : Calls Tryz.prog 210 #[.int .u32 (x : Int), .int .u32 (y : Int)] w fun e w' => e = .returned (.bool b) ∧ w' = w := by
  rw [← h]; exact less_any x y w
end Go.Proofs.YtgjbnbojjgbmcaaGreat.Srt

namespace Go.Proofs.YtgjbnbojjgbmcaaGreat.Srt
open Go.RowKit
attribute [local go_sem ↓] Go.wp_at_zero Go.wp_at_succ
set_option maxRecDepth 100000 in
set_option maxHeartbeats 4000000 in
theorem insertion_any {B g n cap a b : Nat} {xs : List Nat} {w : World} (hr : Row w B g n cap xs) (hab : a ≤ b) (hb : b ≤ n) (hn : n ≤ 1000000) :
    Calls Tryz.prog 204 #[.slice (some ⟨g, 0, none⟩) n cap, .int .i64 (a : Int), .int .i64 (b : Int)] w fun e w' => e = .returned (.tuple #[]) ∧
      ∃ ys, Row w' B g n cap ys ∧ w.grownBy w' (some g) ∧ Sw a b xs ys ∧ Inc a b ys := by
  have HR := Lib.hid hr
  have G0 := Lib.hid (World.grownBy.refl w (some g))
  have S0 := Lib.hid (Sw.refl a b xs)
  have I0 := Lib.hid (inc_one (a := a) (b := a + 1) (xs := xs) (Nat.le_refl _))
  have e0 : IntKind.i64.wrap ((a : Int) + 1) = (a : Int) + 1 := IntWalk.i64_in _ (by omega)
  clear hr
  go_enter Tryz.func204, Tryz.ntmps204
  go_wp2
  go_loopw [6] (fun i wr => ∃ (k : Nat) (ys : List Nat), a + 1 ≤ k ∧ (k ≤ b ∨ k = a + 1) ∧ i = .int .i64 (k : Int) ∧ Hid (Row wr B g n cap ys) ∧ Hid (w.grownBy wr (some g)) ∧ Hid (Sw a b xs ys) ∧ Hid (Inc a k ys)) (fun i _ => b - (intOf i).toNat)
  case atStart => exact ⟨a + 1, xs, by omega, .inr rfl, by go_num, HR, G0, S0, I0⟩
  case round =>
    clear HR G0 S0 I0 e0
    obtain ⟨k, ys, hk1, hk2, rfl, hR, hG, hS, hI⟩ := hrel
    by_cases hkb : k < b
    · have q1 : decide (k < b) = true := decide_eq_true hkb
      have q2 : decide ((k : Int) < (b : Int)) = true := decide_eq_true (by omega)
      have N0 := Lib.hid (ins_start hI.out)
      have ek : IntKind.i64.wrap ((k : Int) + 1) = (k : Int) + 1 := IntWalk.i64_in _ (by omega)
      clear hI
      go_wp2
      go_loopw [7] (fun j wr => ∃ (m : Nat) (ys : List Nat), a ≤ m ∧ m ≤ k ∧ j = .int .i64 (m : Int) ∧ Hid (Row wr B g n cap ys) ∧ Hid (w.grownBy wr (some g)) ∧ Hid (Sw a b xs ys) ∧ Hid (Ins a m k ys)) (fun j _ => (intOf j).toNat)
      case atStart => exact ⟨k, ys, by omega, by omega, rfl, hR, hG, hS, N0⟩
      case round =>
        clear hR hG hS N0
        obtain ⟨m, ys, hm1, hm2, rfl, hR, hG, hS, hN⟩ := hrel
        obtain ⟨wo, rfl⟩ : ∃ wo : World, wo = wr := ⟨_, rfl⟩
        by_cases ham : a < m
        · have p1 : decide (a < m) = true := decide_eq_true ham
          have p2 : decide ((a : Int) < (m : Int)) = true := decide_eq_true (by omega)
          obtain ⟨j, hj⟩ : ∃ j, j = m - 1 := ⟨_, rfl⟩
          have i1 : (m : Int) - 1 = (j : Int) := by omega
          have i2 : IntKind.i64.wrap (j : Int) = (j : Int) := IntWalk.i64_in _ (by omega)
          have i3 : (0 : Int) ≤ (j : Int) := by omega
          have i4 : (j : Int) < (n : Int) := by omega
          have i5 : (0 : Int) ≤ (m : Int) := by omega
          have i6 : (m : Int) < (n : Int) := by omega
          obtain ⟨x, hx⟩ : ∃ x, x = ys.getD m 0 := ⟨_, rfl⟩
          obtain ⟨y, hy⟩ : ∃ y, y = ys.getD j 0 := ⟨_, rfl⟩
          have c1 := hR.out.cell m (by omega)
          have c2 := hR.out.cell j (by omega)
          have f1 := hR.out.free m
          have f2 := hR.out.free j
          rw [← hx] at c1
          rw [← hy] at c2
          obtain ⟨q, hq⟩ : ∃ q, decide (x < y) = q := ⟨_, rfl⟩
          have LS := Lib.hid (less_is hq)
          have HX := Lib.hid hx
          have HY := Lib.hid hy
          have HJ := Lib.hid hj
          have HQ := Lib.hid hq
          clear hx hy hj hq
          cases q
          · have HI : Hid (Inc a (k + 1) ys) := ins_end hN.out hm1 hm2 (fun _ => by
              have h := of_decide_eq_false HQ.out
              rw [HX.out, HY.out, HJ.out] at h
              omega)
            clear hN
            go_wp2
            go_quiet ((go_at_call 210; refine Calls.quiet_of_same (LS.out _)))
            go_wp2
            go_roundw
            case rel => exact ⟨k + 1, ys, by omega, by omega, by go_num, hR.out.draw _, grown_draw hG.out _, hS, HI⟩
            case measure => simp [intOf]; omega
          · have hlt := of_decide_eq_true HQ.out
            have hlen := hR.out.len
            have HS2 : Hid (Sw a b xs (ex ys m j)) := hS.out.trans (Sw.ex (by omega) (by omega) (by omega) (by omega) (by omega))
            have HN2 : Hid (Ins a j k (ex ys m j)) := by
              have h := ins_step hN.out ham hm2 (by omega) (by rw [← HX.out, show m - 1 = j by omega, ← HY.out]; exact hlt)
              rw [show m - 1 = j by omega] at h
              exact h
            have HE : Hid (∀ N, Row (((wo.drewN N).setCell ⟨g, m, none⟩ (.int .u32 (y : Int))).setCell ⟨g, j, none⟩ (.int .u32 (x : Int))) B g n cap (ex ys m j) ∧ w.grownBy (((wo.drewN N).setCell ⟨g, m, none⟩ (.int .u32 (y : Int))).setCell ⟨g, j, none⟩ (.int .u32 (x : Int))) (some g)) := fun N => by
              have h := (hR.out.draw N).ex m j
              rw [← HX.out, ← HY.out] at h
              exact ⟨h.1, grown_tr (grown_draw hG.out N) h.2⟩
            clear hN
            go_wp2
            go_quiet ((go_at_call 210; refine Calls.quiet_of_same (LS.out _)))
            go_wp2
            go_region
            go_wp2
            go_roundw
            case rel => exact ⟨j, ex ys m j, by omega, by omega, by go_num, Lib.hid (HE.out _).1, Lib.hid (HE.out _).2, HS2, HN2⟩
            case measure => simp [intOf]; omega
        · obtain rfl : a = m := by omega
          have p1 : decide (a < a) = false := decide_eq_false (by omega)
          have p2 : decide ((a : Int) < (a : Int)) = false := decide_eq_false (by omega)
          have HI : Hid (Inc a (k + 1) ys) := ins_end hN.out hm1 hm2 (fun h => by omega)
          clear hN
          go_wp2
          go_quiet (fail)
          go_wp2
          go_roundw
          case rel => exact ⟨k + 1, ys, by omega, by omega, by go_num, hR.out.draw _, grown_draw hG.out _, hS, HI⟩
          case measure => simp [intOf]; omega
    · have q1 : decide (k < b) = false := decide_eq_false hkb
      have q2 : decide ((k : Int) < (b : Int)) = false := decide_eq_false (by omega)
      have HI : Hid (Inc a b ys) := by
        rcases hk2 with h | h
        · obtain rfl : k = b := by omega
          exact hI.out
        · exact inc_one (by omega)
      clear hI
      go_wp2
      go_end0
      exact ⟨rfl, ys, hR.out, hG.out, hS.out, HI.out⟩
end Go.Proofs.YtgjbnbojjgbmcaaGreat.Srt

namespace Go.Proofs.YtgjbnbojjgbmcaaGreat.Srt
open Go.RowKit
attribute [local go_sem ↓] Go.wp_at_zero Go.wp_at_succ
set_option maxRecDepth 100000 in
theorem len8_low (x : Nat) (h : x < 256) : ∃ k : Nat, Lib.len8 (x : Int) = (k : Int) ∧ Dig x k := by
  have all : ∀ x : Fin 256, Lib.len8 (x.val : Int) = ((Lib.len8 (x.val : Int)).toNat : Int) ∧ Dig x.val (Lib.len8 (x.val : Int)).toNat := by decide +kernel
  exact ⟨_, all ⟨x, h⟩⟩
set_option maxRecDepth 100000 in
theorem len8_high (x : Nat) (hx : x ≤ 1024) (h0 : 256 ≤ x) : ∃ k : Nat, Lib.len8 ((x : Int) / 256) = (k : Int) ∧ Dig x (8 + k) := by
  have all : ∀ x : Fin 1025, 256 ≤ x.val → Lib.len8 ((x.val : Int) / 256) = ((Lib.len8 ((x.val : Int) / 256)).toNat : Int) ∧ Dig x.val (8 + (Lib.len8 ((x.val : Int) / 256)).toNat) := by
    clear h0 hx x
    decide +kernel
  exact ⟨_, all ⟨x, by omega⟩ h0⟩
theorem w64 (k : Nat) (h : k ≤ 11) : wrap64 (wrap64 (k : Int)) = (k : Int) := by
  unfold wrap64
  omega
theorem w64h (k : Nat) (h : 8 + k ≤ 11) : wrap64 (8 + wrap64 (k : Int)) = ((8 + k : Nat) : Int) := by
  unfold wrap64
  omega
set_option maxRecDepth 100000 in
theorem len64_any (x : Nat) (hx : x ≤ 1024) (w : World) : Calls Tryz.prog 160 #[.int .u64 (x : Int)] w fun e w' => (∃ k : Nat, e = .returned (.int .i64 (k : Int)) ∧ Dig x k) ∧ w' = w := by
  have t1 : decide ((4294967296 : Int) ≤ (x : Int)) = false := decide_eq_false (by omega)
  have t1' : decide (4294967296 ≤ x) = false := decide_eq_false (by omega)
  have t2 : decide ((65536 : Int) ≤ (x : Int)) = false := decide_eq_false (by omega)
  have t2' : decide (65536 ≤ x) = false := decide_eq_false (by omega)
  by_cases h : 256 ≤ x
  · have t3 : decide ((256 : Int) ≤ (x : Int)) = true := decide_eq_true (by omega)
    have t3' : decide (256 ≤ x) = true := decide_eq_true h
    obtain ⟨k, hk, hd⟩ := len8_high x hx h
    have c0 : (0 : Int) ≤ (x : Int) / 256 := by omega
    have c1 : (x : Int) / 256 ≤ 255 := by omega
    go_enter Tryz.func160, Tryz.ntmps160
    go_wp2
    go_ret
    exact ⟨⟨_, congrArg (fun v => Ending.returned (.int .i64 v)) (w64h _ hd.1), hd⟩, rfl⟩
  · have t3 : decide ((256 : Int) ≤ (x : Int)) = false := decide_eq_false (by omega)
    have t3' : decide (256 ≤ x) = false := decide_eq_false (by omega)
    obtain ⟨k, hk, hd⟩ := len8_low x (by omega)
    have c0 : (0 : Int) ≤ (x : Int) := by omega
    have c1 : (x : Int) ≤ 255 := by omega
    go_enter Tryz.func160, Tryz.ntmps160
    go_wp2
    go_ret
    exact ⟨⟨_, congrArg (fun v => Ending.returned (.int .i64 v)) (w64 _ hd.1), hd⟩, rfl⟩
theorem len_any (x : Nat) (hx : x ≤ 1024) (w : World) : Calls Tryz.prog 108 #[.int .u64 (x : Int)] w fun e w' => (∃ k : Nat, e = .returned (.int .i64 (k : Int)) ∧ Dig x k) ∧ w' = w := by
  have L := Lib.hid (len64_any x hx)
  go_enter Tryz.func108, Tryz.ntmps108
  go_wp2_with fail
  refine (L.out _).mono ?_
  rintro e w1 ⟨⟨k, rfl, hk⟩, rfl⟩
  go_wp2
  go_ret
  exact ⟨⟨k, rfl, hk⟩, rfl⟩
end Go.Proofs.YtgjbnbojjgbmcaaGreat.Srt

namespace Go.Proofs.YtgjbnbojjgbmcaaGreat.Srt
open Go.RowKit
attribute [local go_sem ↓] Go.wp_at_zero Go.wp_at_succ
/-- What a call that puts in order does, of at most K numbers. -/
def SortC (K : Nat) : Prop := ∀ (B g n cap : Nat) (xs : List Nat) (w : World), Row w B g n cap xs → n ≤ K →
  Calls Tryz.prog 195 #[.slice (some ⟨g, 0, none⟩) n cap] w fun e w' => e = .returned (.tuple #[]) ∧ ∃ ys, Row w' B g n cap ys ∧ w.grownBy w' (some g) ∧ Sw 0 n xs ys ∧ Inc 0 n ys
set_option maxRecDepth 100000 in
set_option maxHeartbeats 2000000 in
theorem pdq_small {B g n cap a b : Nat} {xs : List Nat} {w : World} (hr : Row w B g n cap xs) (hab : a ≤ b) (hb : b ≤ n) (hn : n ≤ 1000000) (h12 : b ≤ a + 12) (l : Int) :
    Calls Tryz.prog 202 #[.slice (some ⟨g, 0, none⟩) n cap, .int .i64 (a : Int), .int .i64 (b : Int), .int .i64 l] w fun e w' => e = .returned (.tuple #[]) ∧
      ∃ ys, Row w' B g n cap ys ∧ w.grownBy w' (some g) ∧ Sw a b xs ys ∧ Inc a b ys := by
  have C := Lib.hid (insertion_any hr hab hb hn)
  obtain ⟨d, hd⟩ : ∃ d, d = b - a := ⟨_, rfl⟩
  have e1 : (b : Int) - (a : Int) = (d : Int) := by omega
  have e2 : IntKind.i64.wrap (d : Int) = (d : Int) := IntWalk.i64_in _ (by omega)
  have e3 : decide ((d : Int) ≤ 12) = true := decide_eq_true (by omega)
  have e4 : decide (d ≤ 12) = true := decide_eq_true (by omega)
  clear hr hd
  go_enter Tryz.func202, Tryz.ntmps202
  go_wp2
  go_loopw [1, 2] (fun i j wr => wr = w ∧ i = .int .i64 (a : Int) ∧ j = .int .i64 (b : Int)) (fun _ _ _ => 0)
  case atStart => exact ⟨rfl, rfl, rfl⟩
  case round =>
    obtain ⟨rfl, rfl, rfl⟩ := hrel
    go_wp2_with fail
    refine C.out.mono ?_
    rintro e w1 ⟨rfl, h⟩
    have H := Lib.hid h
    clear h
    go_wp2
    (try simp only [Exit.inBlock, Exit.then])
    refine bodyPost_ret (results_none rfl _ _ _) rfl ?_
    exact ⟨rfl, H.out⟩
set_option maxRecDepth 100000 in
set_option maxHeartbeats 2000000 in
theorem insertion_nil (w : World) : Calls Tryz.prog 204 #[.slice none 0 0, .int .i64 0, .int .i64 0] w fun e w' => e = .returned (.tuple #[]) ∧ w' = w := by
  go_enter Tryz.func204, Tryz.ntmps204
  go_wp2
  go_loopw [6] (fun i wr => wr = w ∧ i = .int .i64 1) (fun _ _ => 0)
  case atStart => exact ⟨rfl, rfl⟩
  case round =>
    obtain ⟨rfl, rfl⟩ := hrel
    go_wp2
    go_end0
    exact ⟨rfl, rfl⟩
set_option maxRecDepth 100000 in
set_option maxHeartbeats 2000000 in
theorem pdq_nil (l : Int) (w : World) : Calls Tryz.prog 202 #[.slice none 0 0, .int .i64 0, .int .i64 0, .int .i64 l] w fun e w' => e = .returned (.tuple #[]) ∧ w' = w := by
  have C := Lib.hid (insertion_nil w)
  go_enter Tryz.func202, Tryz.ntmps202
  go_wp2
  go_loopw [1, 2] (fun i j wr => wr = w ∧ i = .int .i64 0 ∧ j = .int .i64 0) (fun _ _ _ => 0)
  case atStart => exact ⟨rfl, rfl, rfl⟩
  case round =>
    obtain ⟨rfl, rfl, rfl⟩ := hrel
    go_wp2_with fail
    refine C.out.mono ?_
    rintro e w1 ⟨rfl, rfl⟩
    go_wp2
    (try simp only [Exit.inBlock, Exit.then])
    refine bodyPost_ret (results_none rfl _ _ _) rfl ?_
    exact ⟨rfl, rfl⟩
set_option maxRecDepth 100000 in
theorem sort_nil (w : World) : Calls Tryz.prog 195 #[.slice none 0 0] w fun e w' => e = .returned (.tuple #[]) ∧ w' = w := by
  have L := Lib.hid (len_any 0 (by omega))
  have P := Lib.hid (fun l => pdq_nil l w)
  go_enter Tryz.func195, Tryz.ntmps195
  go_wp2_with fail
  refine (L.out _).mono ?_
  rintro e w1 ⟨⟨k, rfl, hk⟩, rfl⟩
  go_wp2_with fail
  refine (P.out _).mono ?_
  rintro e w2 ⟨rfl, rfl⟩
  go_wp2
  go_end0
  exact ⟨rfl, rfl⟩
end Go.Proofs.YtgjbnbojjgbmcaaGreat.Srt

namespace Go.Proofs.YtgjbnbojjgbmcaaGreat.Clocks
open Go.RowKit Go.Proofs.YtgjbnbojjgbmcaaGreat.Spans
attribute [local go_sem ↓] Go.wp_at_zero Go.wp_at_succ
/-- A time behind spans. -/
def shT : List Sp → Nat → List Sp
  | [], t => [mk t t]
  | [x], t => if t ≤ x.t + 1 then [mk x.f t] else [x, mk t t]
  | x :: y :: l, t => x :: shT (y :: l) t
theorem shT_snoc : ∀ (l : List Sp) (x : Sp) (t : Nat), shT (l ++ [x]) t = if t ≤ x.t + 1 then l ++ [mk x.f t] else l ++ [x] ++ [mk t t]
  | [], x, t => rfl
  | [y], x, t => by
    show y :: shT [x] t = _
    unfold shT
    split <;> rfl
  | y :: z :: l, x, t => by
    have ih := shT_snoc (z :: l) x t
    show y :: shT (z :: (l ++ [x])) t = _
    rw [show z :: (l ++ [x]) = z :: l ++ [x] from rfl, ih]
    split <;> rfl
theorem sh_step {S : List Sp} {zs : List Nat} {t : Nat} (hf : Fine S) (hin : ∀ n, In S n ↔ n ∈ zs) (hle : ∀ z ∈ zs, z ≤ t) (h1 : 1 ≤ t) (h2 : t ≤ 1073741824) :
    Fine (shT S t) ∧ (∀ n, In (shT S t) n ↔ n ∈ zs ++ [t]) ∧ (shT S t).length ≤ S.length + 1 := by
  have hb : t < 4294967296 := by omega
  have mt : (mk t t).f = t ∧ (mk t t).t = t := ⟨mk_f hb, mk_t hb⟩
  have hok : Ok (mk t t) := by unfold Ok; rw [mt.1, mt.2]; omega
  rcases nil_or_snoc S with rfl | ⟨m, x, rfl⟩
  · refine ⟨hok, fun n => ?_, by simp [shT]⟩
    show In [mk t t] n ↔ _
    rw [in_cons, mt.1, mt.2, List.mem_append, ← hin, List.mem_singleton]
    constructor
    · rintro (h | h)
      · exact .inr (by omega)
      · exact absurd h (in_nil n)
    · rintro (h | h)
      · exact absurd h (in_nil n)
      · exact .inl (by omega)
  · have hx := fine_snoc_ok hf
    have hm := fine_front hf
    have hlast := fine_last hf
    have hxf := x.hf
    have hxz : x.t ≤ t := hle _ ((hin x.t).1 (in_append.2 (.inr (in_cons.2 (.inl ⟨by unfold Ok at hx; omega, Nat.le_refl _⟩)))))
    have hx' := hx
    unfold Ok at hx'
    rw [shT_snoc]
    split
    · rename_i hc
      have mx : (mk x.f t).f = x.f ∧ (mk x.f t).t = t := ⟨mk_f hxf, mk_t hb⟩
      refine ⟨fine_append hm (show Ok _ by unfold Ok; rw [mx.1, mx.2]; omega) (fun a ha b hb' => ?_), fun n => ?_, by simp⟩
      · rw [List.mem_singleton] at hb'
        subst hb'
        rw [mx.1]
        exact hlast a ha
      · rw [in_append, in_cons, mx.1, mx.2, List.mem_append, List.mem_singleton, ← hin, in_append, in_cons]
        constructor
        · rintro (h | h | h)
          · exact .inl (.inl h)
          · by_cases e : n = t
            · exact .inr e
            · exact .inl (.inr (.inl (by omega)))
          · exact absurd h (in_nil n)
        · rintro ((h | h | h) | h)
          · exact .inl h
          · exact .inr (.inl (by omega))
          · exact absurd h (in_nil n)
          · exact .inr (.inl (by omega))
    · rename_i hc
      refine ⟨fine_append hf hok (fun a ha b hb' => ?_), fun n => ?_, by simp⟩
      · rw [List.mem_singleton] at hb'
        subst hb'
        rw [mt.1]
        rcases List.mem_append.1 ha with ha | ha
        · have := hlast a ha; omega
        · rw [List.mem_singleton] at ha; subst ha; omega
      · rw [in_append, in_cons, mt.1, mt.2, List.mem_append, List.mem_singleton, ← hin]
        constructor
        · rintro (h | h | h)
          · exact .inl h
          · exact .inr (by omega)
          · exact absurd h (in_nil n)
        · rintro (h | h)
          · exact .inl h
          · exact .inr (.inl (by omega))
/-- The spans of times in order. -/
def short (ys : List Nat) : List Sp := ys.foldl shT []
theorem short_snoc (ys : List Nat) (t : Nat) : short (ys ++ [t]) = shT (short ys) t := by unfold short; rw [List.foldl_append]; rfl
theorem short_ok {ys : List Nat} (hi : Srt.Inc 0 ys.length ys) (hok : ∀ t ∈ ys, 1 ≤ t ∧ t ≤ 1073741824) : ∀ k, k ≤ ys.length → Fine (short (ys.take k)) ∧ (∀ n, In (short (ys.take k)) n ↔ n ∈ ys.take k) ∧ (short (ys.take k)).length ≤ k
  | 0, _ => ⟨trivial, fun n => by simp [short, in_nil], by simp [short]⟩
  | k + 1, hk => by
    obtain ⟨h1, h2, h3⟩ := short_ok hi hok k (by omega)
    have e : ys.take (k + 1) = ys.take k ++ [ys.getD k 0] := by
      rw [List.take_succ_eq_append_getElem (by omega)]
      simp [List.getD, List.getElem?_eq_getElem (show k < ys.length by omega)]
    have hm := hok _ (Srt.getD_mem (show k < ys.length by omega))
    have hle : ∀ z ∈ ys.take k, z ≤ ys.getD k 0 := fun z hz => by
      obtain ⟨i, hi1, rfl⟩ := Srt.mem_getD hz
      rw [List.length_take] at hi1
      have : (ys.take k).getD i 0 = ys.getD i 0 := by simp only [List.getD, List.getElem?_take]; rw [if_pos (by omega)]
      rw [this]
      exact hi i k (by omega) (by omega) (by omega)
    obtain ⟨g1, g2, g3⟩ := sh_step h1 h2 hle hm.1 hm.2
    rw [e, short_snoc]
    exact ⟨g1, g2, by omega⟩
/-- What inShort answers: the spans of just these times, of its own; the row alone is written. -/
def InS (v : Value) (xs : List Nat) (w : World) (e : Ending) (w' : World) : Prop :=
  ∃ v' S, e = .returned v' ∧ w'.ownsRow w.heap.size 174 2 v' S.length (sps S) ∧ Fine S ∧ (∀ n, In S n ↔ n ∈ xs) ∧ S.length ≤ xs.length ∧ w.grownBy w' v.ownBlock
theorem inShort_nil (w : World) : Calls Tryz.prog 166 #[.slice none 0 0] w (InS (.slice none 0 0) [] w) := by
  have S := Lib.hid (Srt.sort_nil w)
  go_enter Tryz.func166, Tryz.ntmps166
  go_wp2_with fail
  refine S.out.mono ?_
  rintro e w1 ⟨rfl, rfl⟩
  go_wp2
  go_loopw [3, 11] (fun l i wr => wr = w1 ∧ l = .slice none 0 0 ∧ i = .int .i64 0) (fun _ _ _ => 0)
  case atStart => exact ⟨rfl, rfl, rfl⟩
  case round =>
    obtain ⟨rfl, rfl, rfl⟩ := hrel
    go_wp2
    go_ret
    exact ⟨_, [], rfl, World.ownsRow_nil _ _ _ _, trivial, fun n => by simp [in_nil], by simp, World.grownBy.refl _ _⟩
set_option maxRecDepth 100000 in
set_option maxHeartbeats 8000000 in
theorem inShort_row {K : Nat} (HS : Srt.SortC K) (hK : K ≤ 1000000) {B g n cap : Nat} {xs : List Nat} {w : World} (hr : Srt.Row w B g n cap xs) (hn : n ≤ K) (hok : ∀ t ∈ xs, 1 ≤ t ∧ t ≤ 1073741824) :
    Calls Tryz.prog 166 #[.slice (some ⟨g, 0, none⟩) n cap] w (InS (.slice (some ⟨g, 0, none⟩) n cap) xs w) := by
  have CS := Lib.hid (HS B g n cap xs w hr hn)
  have hxn := hr.len
  have hgw := hr.lt
  have HOK := Lib.hid hok
  clear hr hok
  go_enter Tryz.func166, Tryz.ntmps166
  go_wp2_with fail
  refine CS.out.mono ?_
  rintro e w1 ⟨rfl, ys, r1, g1, s1, i1⟩
  have hyn := r1.len
  have R1 := Lib.hid r1
  have G1 := Lib.hid g1
  have hsw : Srt.Sw 0 xs.length xs ys := by rw [hxn]; exact s1
  have MEM := Lib.hid (fun v => hsw.mem v)
  have hok2 : ∀ t ∈ ys, 1 ≤ t ∧ t ≤ 1073741824 := fun t ht => HOK.out t ((MEM.out t).1 ht)
  have SH := Lib.hid (short_ok (by rw [hyn]; exact i1) hok2)
  have OK2 := Lib.hid hok2
  have hsz1 : w.heap.size ≤ w1.heap.size := g1.size
  have O0 : Hid (w1.ownsRow w.heap.size 174 2 (.slice none 0 0) (short (ys.take 0)).length (sps (short (ys.take 0)))) := World.ownsRow_nil _ _ _ _
  have B0 := Lib.hid (Below.refl w.heap.size w1)
  have HXN := Lib.hid hxn
  have HYN := Lib.hid hyn
  clear r1 g1 s1 i1 hsw hok2 hxn hyn
  go_wp2
  go_loopw [3, 11] (fun o i wr => ∃ k : Nat, k ≤ n ∧ i = .int .i64 (k : Int) ∧ Hid (wr.ownsRow w.heap.size 174 2 o (short (ys.take k)).length (sps (short (ys.take k)))) ∧ Hid (Below w.heap.size w1 wr)) (fun _ i _ => n - (intOf i).toNat)
  case atStart => exact ⟨0, by omega, rfl, O0, B0⟩
  case round =>
    clear O0 B0
    obtain ⟨k, hk, rfl, hown, hbel⟩ := hrel
    obtain ⟨wo, rfl⟩ : ∃ wo : World, wo = wr := ⟨_, rfl⟩
    by_cases hkn : k < n
    · have q1 : decide (k < n) = true := by simpa using hkn
      have q2 : (0 : Int) ≤ (k : Int) := by omega
      have q3 : (k : Int) < (n : Int) := by omega
      have hkl : k < ys.length := by rw [HYN.out]; exact hkn
      have c0 := (hbel.out.cell (p := ⟨g, k, none⟩) hgw).trans (R1.out.cell k hkn)
      have e : ys.take (k + 1) = ys.take k ++ [ys.getD k 0] := by
        rw [List.take_succ_eq_append_getElem hkl]
        simp [List.getD, List.getElem?_eq_getElem hkl]
      have hsn := short_snoc (ys.take k) (ys.getD k 0)
      rw [← e] at hsn
      have hto := OK2.out _ (Srt.getD_mem hkl)
      obtain ⟨t, ht⟩ : ∃ t, t = ys.getD k 0 := ⟨_, rfl⟩
      rw [← ht] at c0 hsn hto
      obtain ⟨f1, f2, f3⟩ := SH.out k (by omega)
      obtain ⟨S, hS⟩ : ∃ S, S = short (ys.take k) := ⟨_, rfl⟩
      rw [← hS] at hown hsn f1 f2 f3
      have HSN := Lib.hid hsn
      have htb : t < 4294967296 := by omega
      have hszo : w.heap.size ≤ wo.heap.size := Nat.le_trans hsz1 hbel.out.size
      have SE : Hid (Sees (wo.alloc (.cells #[.int .u32 (t : Int), .int .u32 (t : Int)] 174)) (.slice (some ⟨wo.heap.size, 0, none⟩) 1 1) 2 1 (sps [mk t t])) := sees_sp (kb_new rfl) (by rw [mk_f htb]) (by rw [mk_t htb])
      have BX := Lib.hid ((Below.refl wo.heap.size wo).alloc (Nat.le_refl _) (.cells #[.int .u32 (t : Int), .int .u32 (t : Int)] 174))
      have HF1 := Lib.hid f1
      clear e hsn ht hS f1 f2
      rcases nil_or_snoc S with rfl | ⟨m, x, rfl⟩
      · have EQ : Hid (short (ys.take (k + 1)) = [mk t t]) := HSN.out
        have i1 : ((0 : Nat) : Int) - 1 = -1 := by decide
        have OX := Lib.hid (own_stays hown.out BX.out)
        obtain ⟨ao, ac, rfl⟩ := Sees.shape (Sees.own hown.out)
        clear hown HSN
        go_wp2_with (at_builtin; refine wpList_append_sees rfl (.tmp 35) (.tmp 39) 112 174 rfl Tryz.underlying112 span_info rfl (by decide) w.heap.size _ 0 [] rfl OX.out _ 1 _ rfl SE.out (sps_oneCell _) ?a1 ?a2 ?a3 ?_)
        case a1 => omega
        case a2 => omega
        case a3 => exact Nat.le_trans hszo BX.out.size
        rintro v5 w5 o5 g5 b5
        have O5 : Hid (w5.ownsRow w.heap.size 174 2 v5 (short (ys.take (k + 1))).length (sps (short (ys.take (k + 1))))) := by show World.ownsRow _ _ _ _ _ _ _; rw [EQ.out]; exact o5
        have B5 := Lib.hid (hbel.out.trans ((BX.out.mono hszo).trans b5))
        clear o5 g5 b5 OX SE BX
        go_wp2
        go_roundw
        case rel => exact ⟨k + 1, by omega, by go_num, O5, B5⟩
        case measure => simp [intOf]; omega
      · obtain ⟨j, hj⟩ : ∃ j, j = m.length := ⟨_, rfl⟩
        have hlen : (m ++ [x]).length = j + 1 := by simp [hj]
        have hget : (m ++ [x]).getD j zsp = x := by simp [hj]
        have hxo := fine_snoc_ok HF1.out
        have hset := sps_set_last m x t htb
        rw [← hj] at hset
        obtain ⟨ao, ac, rfl⟩ := Sees.shape (Sees.own hown.out)
        have hsee := Sps.at (Sps.own hown.out) j (by omega)
        rw [hget] at hsee
        have hv := hown.out
        rw [hlen] at hv f3 ⊢
        obtain ⟨q, hq⟩ : ∃ q, ao = some ⟨q, 0, none⟩ := by
          rcases hv.2 with ⟨h0, h1⟩ | ⟨q, c, cur, h0, _⟩
          · omega
          · cases h0; exact ⟨q, rfl⟩
        subst hq
        obtain ⟨b', off', he, hgl, hx0, hx1⟩ := hsee
        obtain ⟨rfl, rfl⟩ : q = b' ∧ 0 = off' := by simpa using he
        rw [Nat.zero_add] at hx0 hx1
        have hfz := hv.frozenAt (j * 2 + 1)
        have hqb : w.heap.size ≤ q := (hv.lt q rfl).1
        have hsn := HSN.out
        rw [shT_snoc] at hsn
        have HV := Lib.hid hv
        have HSET := Lib.hid hset
        have HJ := Lib.hid hj
        unfold Ok at hxo
        have i1 : ((j + 1 : Nat) : Int) - 1 = (j : Int) := by omega
        have i1' : (j : Int) + 1 - 1 = (j : Int) := by omega
        have i2 : IntKind.i64.wrap (j : Int) = (j : Int) := IntWalk.i64_in _ (by omega)
        have i3 : (0 : Int) ≤ (j : Int) := by omega
        have i4 : (j : Int) < ((j + 1 : Nat) : Int) := by omega
        have i4' : (j : Int) < (j : Int) + 1 := by omega
        have eT : IntKind.u32.wrap ((x.t : Int) + 1) = (x.t : Int) + 1 := by rw [IntKind.wrap_u32]; omega
        by_cases hc : t ≤ x.t + 1
        · have s1 : decide ((t : Int) ≤ (x.t : Int) + 1) = true := decide_eq_true (by omega)
          have s2 : decide (t ≤ x.t + 1) = true := decide_eq_true hc
          rw [if_pos hc] at hsn
          have O5 : Hid ((wo.setCell ⟨q, j * 2 + 1, none⟩ (.int .u32 (t : Int))).ownsRow w.heap.size 174 2 (.slice (some ⟨q, 0, none⟩) (j + 1) ac) (short (ys.take (k + 1))).length (sps (short (ys.take (k + 1))))) := by
            show World.ownsRow _ _ _ _ _ _ _
            rw [hsn, show (m ++ [mk x.f t]).length = j + 1 by simp [HJ.out], ← HSET.out]
            exact (HV.out.stored (j * 2 + 1) _).1
          have B5 : Hid (Below w.heap.size w1 (wo.setCell ⟨q, j * 2 + 1, none⟩ (.int .u32 (t : Int)))) := hbel.out.setCell (p := ⟨q, j * 2 + 1, none⟩) hqb _
          clear hsn hv hset hown HSN hlen hget he hj hxo
          obtain ⟨xf, xt, hxf, hxt⟩ := x
          simp only at hx0 hx1 s1 s2 eT
          go_wp2
          go_roundw
          case rel => exact ⟨k + 1, by omega, by go_num, O5, B5⟩
          case measure => simp [intOf]; omega
        · have s1 : decide ((t : Int) ≤ (x.t : Int) + 1) = false := decide_eq_false (by omega)
          have s2 : decide (t ≤ x.t + 1) = false := decide_eq_false hc
          rw [if_neg hc] at hsn
          have EQ := Lib.hid hsn
          have OX := Lib.hid (own_stays HV.out BX.out)
          clear hsn hv hset hown HSN hlen hget he hj hxo
          obtain ⟨xf, xt, hxf, hxt⟩ := x
          simp only at hx0 hx1 s1 s2 eT
          go_wp2_with (at_builtin; refine wpList_append_sees rfl (.tmp 35) (.tmp 39) 112 174 rfl Tryz.underlying112 span_info rfl (by decide) w.heap.size (.slice (some ⟨q, 0, none⟩) (j + 1) ac) (j + 1) (sps (m ++ [⟨xf, xt, hxf, hxt⟩])) rfl OX.out _ 1 _ rfl SE.out (sps_oneCell _) ?a1 ?a2 ?a3 ?_)
          case a1 => omega
          case a2 => omega
          case a3 => exact Nat.le_trans hszo (Nat.le_succ _)
          rintro v5 w5 o5 g5 b5
          have O5 : Hid (w5.ownsRow w.heap.size 174 2 v5 (short (ys.take (k + 1))).length (sps (short (ys.take (k + 1))))) := by
            show World.ownsRow _ _ _ _ _ _ _
            rw [EQ.out, sps_append (m ++ [_]), List.length_append, show (m ++ [(⟨xf, xt, hxf, hxt⟩ : Sp)]).length = j + 1 by simp [HJ.out]]
            exact o5
          have B5 := Lib.hid (hbel.out.trans ((BX.out.mono hszo).trans b5))
          clear o5 g5 b5 OX SE BX
          go_wp2
          go_roundw
          case rel => exact ⟨k + 1, by omega, by go_num, O5, B5⟩
          case measure => simp [intOf]; omega
    · have q1 : decide (k < n) = false := by simpa using hkn
      obtain rfl : k = n := by omega
      have hkk : ys.take k = ys := List.take_of_length_le (by rw [HYN.out]; exact Nat.le_refl _)
      obtain ⟨f1, f2, f3⟩ := SH.out k (by rw [HYN.out]; exact Nat.le_refl _)
      rw [hkk] at f1 f2 f3 hown
      have FIN : Hid (∀ n, In (short ys) n ↔ n ∈ xs) := fun n => by rw [f2 n]; exact MEM.out n
      have F1 := Lib.hid f1
      have GR : Hid (w.grownBy wo (some g)) := ⟨hbel.out.os.trans G1.out.os, hbel.out.tape.trans G1.out.tape, hbel.out.output.trans G1.out.output, Nat.le_trans hsz1 hbel.out.size, fun i hi hne => (hbel.out.block i hi).trans (G1.out.block i hi hne)⟩
      clear hkk f1 f2
      go_wp2
      go_ret
      exact ⟨_, short ys, rfl, hown.out, F1.out, FIN.out, by rw [HXN.out]; exact f3, GR.out⟩
end Go.Proofs.YtgjbnbojjgbmcaaGreat.Clocks
