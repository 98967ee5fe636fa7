/- Rows of numbers that are put in order where they stand: what stays, what comes to be in order. Conditions: none. -/
import Derived.Test.YtinglfhndlklaaaBytes
namespace Go.Proofs.Ytinglfhndlklaaa.Srt

/-- Between a and b the same ones in whatever order; elsewhere nothing has turned. -/
structure Sw (a b : Nat) (xs ys : List Nat) : Prop where
  len : ys.length = xs.length
  out : ∀ i, i < a ∨ b ≤ i → ys.getD i 0 = xs.getD i 0
  to : ∀ i, a ≤ i → i < b → ∃ j, a ≤ j ∧ j < b ∧ ys.getD i 0 = xs.getD j 0
  fro : ∀ j, a ≤ j → j < b → ∃ i, a ≤ i ∧ i < b ∧ xs.getD j 0 = ys.getD i 0
theorem Sw.refl (a b : Nat) (xs : List Nat) : Sw a b xs xs := ⟨rfl, fun _ _ => rfl, fun i h1 h2 => ⟨i, h1, h2, rfl⟩, fun j h1 h2 => ⟨j, h1, h2, rfl⟩⟩
theorem Sw.trans {a b : Nat} {xs ys zs : List Nat} (h : Sw a b xs ys) (k : Sw a b ys zs) : Sw a b xs zs := by
  refine ⟨k.len.trans h.len, fun i hi => (k.out i hi).trans (h.out i hi), fun i h1 h2 => ?_, fun j h1 h2 => ?_⟩
  · obtain ⟨p, p1, p2, p3⟩ := k.to i h1 h2
    obtain ⟨q, q1, q2, q3⟩ := h.to p p1 p2
    exact ⟨q, q1, q2, p3.trans q3⟩
  · obtain ⟨p, p1, p2, p3⟩ := h.fro j h1 h2
    obtain ⟨q, q1, q2, q3⟩ := k.fro p p1 p2
    exact ⟨q, q1, q2, p3.trans q3⟩
theorem Sw.mono {a b a' b' : Nat} {xs ys : List Nat} (h : Sw a b xs ys) (ha : a' ≤ a) (hb : b ≤ b') : Sw a' b' xs ys := by
  refine ⟨h.len, fun i hi => h.out i (by omega), fun i h1 h2 => ?_, fun j h1 h2 => ?_⟩
  · by_cases hi : a ≤ i ∧ i < b
    · obtain ⟨j, j1, j2, j3⟩ := h.to i hi.1 hi.2
      exact ⟨j, by omega, by omega, j3⟩
    · exact ⟨i, h1, h2, h.out i (by omega)⟩
  · by_cases hj : a ≤ j ∧ j < b
    · obtain ⟨i, i1, i2, i3⟩ := h.fro j hj.1 hj.2
      exact ⟨i, by omega, by omega, i3⟩
    · exact ⟨j, h1, h2, (h.out j (by omega)).symm⟩
theorem Sw.all {a b : Nat} {xs ys : List Nat} (h : Sw a b xs ys) {P : Nat → Prop} (hp : ∀ i, a ≤ i → i < b → P (xs.getD i 0)) : ∀ i, a ≤ i → i < b → P (ys.getD i 0) := fun i h1 h2 => by
  obtain ⟨j, j1, j2, j3⟩ := h.to i h1 h2
  rw [j3]
  exact hp j j1 j2
theorem getD_mem {xs : List Nat} {i : Nat} (h : i < xs.length) : xs.getD i 0 ∈ xs := by
  rw [List.getD, List.getElem?_eq_getElem h]
  exact List.getElem_mem _
theorem mem_getD {xs : List Nat} {v : Nat} (h : v ∈ xs) : ∃ i, i < xs.length ∧ xs.getD i 0 = v := by
  obtain ⟨i, hi, e⟩ := List.mem_iff_getElem.1 h
  exact ⟨i, hi, by rw [List.getD, List.getElem?_eq_getElem hi]; exact e⟩
theorem Sw.mem {xs ys : List Nat} (h : Sw 0 xs.length xs ys) (v : Nat) : v ∈ ys ↔ v ∈ xs := by
  constructor
  · intro hv
    obtain ⟨i, hi, rfl⟩ := mem_getD hv
    obtain ⟨j, _, j2, j3⟩ := h.to i (by omega) (by rw [← h.len]; exact hi)
    rw [j3]
    exact getD_mem j2
  · intro hv
    obtain ⟨i, hi, rfl⟩ := mem_getD hv
    obtain ⟨j, _, j2, j3⟩ := h.fro i (by omega) hi
    rw [j3]
    exact getD_mem (by rw [h.len]; exact j2)

/-- Two exchanged: the value of j at i, then that of i at j. -/
def ex (xs : List Nat) (i j : Nat) : List Nat := (xs.set i (xs.getD j 0)).set j (xs.getD i 0)
theorem ex_len (xs : List Nat) (i j : Nat) : (ex xs i j).length = xs.length := by simp [ex]
theorem ex_get {xs : List Nat} {i j : Nat} (hi : i < xs.length) (hj : j < xs.length) (k : Nat) : (ex xs i j).getD k 0 = if k = j then xs.getD i 0 else if k = i then xs.getD j 0 else xs.getD k 0 := by
  unfold ex
  by_cases h1 : k = j
  · subst h1
    rw [if_pos rfl]
    simp only [List.getD, List.getElem?_set, List.length_set]
    simp [hj]
  · rw [if_neg h1]
    by_cases h2 : k = i
    · subst h2
      rw [if_pos rfl]
      simp only [List.getD, List.getElem?_set, List.length_set]
      simp [hi, show ¬ j = k from fun e => h1 e.symm]
    · rw [if_neg h2]
      simp only [List.getD, List.getElem?_set, List.length_set]
      simp [show ¬ j = k from fun e => h1 e.symm, show ¬ i = k from fun e => h2 e.symm]
theorem Sw.ex {a b i j : Nat} {xs : List Nat} (h1 : a ≤ i) (h2 : i < b) (h3 : a ≤ j) (h4 : j < b) (hb : b ≤ xs.length) : Sw a b xs (ex xs i j) := by
  have g := ex_get (xs := xs) (i := i) (j := j) (by omega) (by omega)
  refine ⟨ex_len _ _ _, fun k hk => ?_, fun k k1 k2 => ?_, fun k k1 k2 => ?_⟩
  · rw [g, if_neg (by omega), if_neg (by omega)]
  · by_cases e : k = j
    · exact ⟨i, h1, h2, by rw [g, if_pos e]⟩
    · by_cases e2 : k = i
      · exact ⟨j, h3, h4, by rw [g, if_neg e, if_pos e2]⟩
      · exact ⟨k, k1, k2, by rw [g, if_neg e, if_neg e2]⟩
  · by_cases e : k = i
    · exact ⟨j, h3, h4, by rw [g, if_pos rfl, e]⟩
    · by_cases e2 : k = j
      · refine ⟨i, h1, h2, ?_⟩
        rw [g]
        by_cases e3 : i = j
        · rw [if_pos e3, e2, e3]
        · rw [if_neg e3, if_pos rfl, e2]
      · exact ⟨k, k1, k2, by rw [g, if_neg e2, if_neg e]⟩

/-- In order between a and b. -/
def Inc (a b : Nat) (xs : List Nat) : Prop := ∀ i j, a ≤ i → i ≤ j → j < b → xs.getD i 0 ≤ xs.getD j 0
theorem inc_one {a b : Nat} {xs : List Nat} (h : b ≤ a + 1) : Inc a b xs := fun i j h1 h2 h3 => by
  obtain rfl : i = j := by omega
  exact Nat.le_refl _
theorem inc_succ {a i : Nat} {xs : List Nat} (h : Inc a i xs) (hn : a < i → xs.getD (i - 1) 0 ≤ xs.getD i 0) : Inc a (i + 1) xs := fun p q h1 h2 h3 => by
  by_cases hq : q < i
  · exact h p q h1 h2 hq
  · obtain rfl : q = i := by omega
    by_cases hp : p = q
    · subst hp; exact Nat.le_refl _
    · exact Nat.le_trans (h p (q - 1) h1 (by omega) (by omega)) (hn (by omega))
theorem inc_same {a b : Nat} {xs ys : List Nat} (h : Inc a b xs) (e : ∀ i, a ≤ i → i < b → ys.getD i 0 = xs.getD i 0) : Inc a b ys := fun i j h1 h2 h3 => by
  rw [e i h1 (by omega), e j (by omega) h3]
  exact h i j h1 h2 h3
/-- Up to i in order, but for the one at j, which may be too small for its place. -/
def Ins (a j i : Nat) (xs : List Nat) : Prop := ∀ p q, a ≤ p → p < q → q ≤ i → q ≠ j → xs.getD p 0 ≤ xs.getD q 0
theorem ins_start {a i : Nat} {xs : List Nat} (h : Inc a i xs) : Ins a i i xs := fun p q h1 h2 h3 h4 => h p q h1 (by omega) (by omega)
theorem ins_step {a j i : Nat} {xs : List Nat} (h : Ins a j i xs) (h1 : a < j) (h2 : j ≤ i) (hi : i < xs.length) (hl : xs.getD j 0 < xs.getD (j - 1) 0) : Ins a (j - 1) i (ex xs j (j - 1)) := fun p q p1 p2 p3 p4 => by
  have g := ex_get (xs := xs) (i := j) (j := j - 1) (by omega) (by omega)
  rw [g p, g q, if_neg p4]
  by_cases hq : q = j
  · rw [if_pos hq]
    by_cases hp : p = j - 1
    · rw [if_pos hp]; omega
    · rw [if_neg hp, if_neg (by omega)]
      exact h p (j - 1) p1 (by omega) (by omega) (by omega)
  · rw [if_neg hq]
    by_cases hp : p = j - 1
    · rw [if_pos hp]
      exact h j q (by omega) (by omega) p3 hq
    · rw [if_neg hp]
      by_cases hp2 : p = j
      · rw [if_pos hp2]
        exact h (j - 1) q (by omega) (by omega) p3 hq
      · rw [if_neg hp2]
        exact h p q p1 p2 p3 hq
theorem ins_end {a j i : Nat} {xs : List Nat} (h : Ins a j i xs) (h1 : a ≤ j) (h2 : j ≤ i) (hl : a < j → xs.getD (j - 1) 0 ≤ xs.getD j 0) : Inc a (i + 1) xs := fun p q p1 p2 p3 => by
  by_cases e : p = q
  · subst e; exact Nat.le_refl _
  · by_cases hq : q = j
    · subst hq
      by_cases hp : p = q - 1
      · subst hp; exact hl (by omega)
      · exact Nat.le_trans (h p (q - 1) p1 (by omega) (by omega) (by omega)) (hl (by omega))
    · exact h p q p1 (by omega) (by omega) hq

/-! ### Heaps -/
/-- From lo on each is at least as great as its children, ahead of hi. -/
def Hp (f lo hi : Nat) (xs : List Nat) : Prop := ∀ i c, lo ≤ i → (c = 2 * i + 1 ∨ c = 2 * i + 2) → c < hi → xs.getD (f + c) 0 ≤ xs.getD (f + i) 0
/-- The same, but for r, whose children are no greater than its parent. -/
def Hr (f lo hi r : Nat) (xs : List Nat) : Prop := (∀ i c, lo ≤ i → i ≠ r → (c = 2 * i + 1 ∨ c = 2 * i + 2) → c < hi → xs.getD (f + c) 0 ≤ xs.getD (f + i) 0) ∧
  ∀ i c, lo ≤ i → (r = 2 * i + 1 ∨ r = 2 * i + 2) → (c = 2 * r + 1 ∨ c = 2 * r + 2) → c < hi → xs.getD (f + c) 0 ≤ xs.getD (f + i) 0
theorem hr_start {f lo hi : Nat} {xs : List Nat} (h : Hp f (lo + 1) hi xs) : Hr f lo hi lo xs :=
  ⟨fun i c h1 h2 h3 h4 => h i c (by omega) h3 h4, fun i c h1 h2 _ _ => by omega⟩
theorem hr_end {f lo hi r : Nat} {xs : List Nat} (h : Hr f lo hi r xs) (hl : ∀ c, (c = 2 * r + 1 ∨ c = 2 * r + 2) → c < hi → xs.getD (f + c) 0 ≤ xs.getD (f + r) 0) : Hp f lo hi xs := fun i c h1 h2 h3 => by
  by_cases e : i = r
  · subst e; exact hl c h2 h3
  · exact h.1 i c h1 e h2 h3
theorem hr_step {f lo hi r c : Nat} {xs : List Nat} (h : Hr f lo hi r xs) (hlo : lo ≤ r) (hc : c = 2 * r + 1 ∨ c = 2 * r + 2) (hch : c < hi) (hn : f + hi ≤ xs.length) (hl : xs.getD (f + r) 0 < xs.getD (f + c) 0)
    (hm : ∀ d, (d = 2 * r + 1 ∨ d = 2 * r + 2) → d < hi → xs.getD (f + d) 0 ≤ xs.getD (f + c) 0) : Hr f lo hi c (ex xs (f + r) (f + c)) := by
  have g := ex_get (xs := xs) (i := f + r) (j := f + c) (by omega) (by omega)
  have gr : (ex xs (f + r) (f + c)).getD (f + r) 0 = xs.getD (f + c) 0 := by rw [g, if_neg (by omega), if_pos rfl]
  have gc : (ex xs (f + r) (f + c)).getD (f + c) 0 = xs.getD (f + r) 0 := by rw [g, if_pos rfl]
  have go : ∀ k, k ≠ r → k ≠ c → (ex xs (f + r) (f + c)).getD (f + k) 0 = xs.getD (f + k) 0 := fun k k1 k2 => by rw [g, if_neg (by omega), if_neg (by omega)]
  refine ⟨fun i d h1 h2 h3 h4 => ?_, fun i d h1 h2 h3 h4 => ?_⟩
  · by_cases e : i = r
    · subst e
      rw [gr]
      by_cases e2 : d = c
      · subst e2; rw [gc]; omega
      · rw [go d (by omega) e2]
        exact hm d h3 h4
    · rw [go i e h2]
      by_cases e2 : d = r
      · subst e2
        rw [gr]
        exact h.2 i c h1 h3 hc hch
      · by_cases e3 : d = c
        · omega
        · rw [go d e2 e3]
          exact h.1 i d h1 e h3 h4
  · obtain rfl : i = r := by omega
    rw [gr, go d (by omega) (by omega)]
    exact h.1 c d (by omega) (by omega) h3 h4
theorem hp_top {f hi : Nat} {xs : List Nat} (h : Hp f 0 hi xs) : ∀ k i, i ≤ k → i < hi → xs.getD (f + i) 0 ≤ xs.getD f 0
  | 0, i, h1, _ => by
    obtain rfl : i = 0 := by omega
    exact Nat.le_refl _
  | k + 1, i, h1, h2 => by
    by_cases h0 : i = 0
    · subst h0; exact Nat.le_refl _
    · have h3 := h ((i - 1) / 2) i (by omega) (by omega) h2
      have h4 := hp_top h k ((i - 1) / 2) (by omega) (by omega)
      omega
/-- The ones from f to f + i are a heap, those behind in order, and no less than these. -/
def Tail (f i hi : Nat) (xs : List Nat) : Prop := Inc (f + i) (f + hi) xs ∧ ∀ p q, p < i → i ≤ q → q < hi → xs.getD (f + p) 0 ≤ xs.getD (f + q) 0
theorem tail_start (f hi : Nat) (xs : List Nat) : Tail f hi hi xs := ⟨inc_one (by omega), fun p q h1 h2 h3 => by omega⟩
theorem tail_step {f i hi : Nat} {xs ys : List Nat} (h : Tail f (i + 1) hi xs) (hh : Hp f 0 (i + 1) xs) (hi' : i < hi) (hn : f + hi ≤ xs.length) (hs : Sw f (f + i) (ex xs f (f + i)) ys) : Tail f i hi ys := by
  have g := ex_get (xs := xs) (i := f) (j := f + i) (by omega) (by omega)
  have yi : ∀ q, i ≤ q → ys.getD (f + q) 0 = (ex xs f (f + i)).getD (f + q) 0 := fun q hq => hs.out _ (.inr (by omega))
  have xi : (ex xs f (f + i)).getD (f + i) 0 = xs.getD f 0 := by rw [g, if_pos rfl]
  have xq : ∀ q, i < q → (ex xs f (f + i)).getD (f + q) 0 = xs.getD (f + q) 0 := fun q hq => by rw [g, if_neg (by omega), if_neg (by omega)]
  have xp : ∀ p, f ≤ p → p < f + i → (ex xs f (f + i)).getD p 0 ≤ xs.getD f 0 ∧ ∀ q, i < q → q < hi → (ex xs f (f + i)).getD p 0 ≤ xs.getD (f + q) 0 := fun p p1 p2 => by
    rw [g, if_neg (by omega)]
    by_cases e : p = f
    · rw [if_pos e]
      exact ⟨hp_top hh i i (by omega) (by omega), fun q q1 q2 => h.2 i q (by omega) (by omega) q2⟩
    · rw [if_neg e]
      obtain ⟨k, rfl⟩ : ∃ k, p = f + k := ⟨p - f, by omega⟩
      exact ⟨hp_top hh k k (by omega) (by omega), fun q q1 q2 => h.2 k q (by omega) (by omega) q2⟩
  have yp := hs.all (P := fun v => v ≤ xs.getD f 0 ∧ ∀ q, i < q → q < hi → v ≤ xs.getD (f + q) 0) xp
  refine ⟨fun p q h1 h2 h3 => ?_, fun p q h1 h2 h3 => ?_⟩
  · obtain ⟨k, rfl⟩ : ∃ k, p = f + k := ⟨p - f, by omega⟩
    obtain ⟨m, rfl⟩ : ∃ m, q = f + m := ⟨q - f, by omega⟩
    rw [yi k (by omega), yi m (by omega)]
    by_cases e : k = i
    · subst e
      rw [xi]
      by_cases e2 : m = k
      · subst e2; rw [xi]; exact Nat.le_refl _
      · rw [xq m (by omega)]
        have := h.2 0 m (by omega) (by omega) (by omega)
        simpa using this
    · rw [xq k (by omega), xq m (by omega)]
      exact h.1 _ _ (by omega) (by omega) (by omega)
  · have := yp (f + p) (by omega) (by omega)
    rw [yi q h2]
    by_cases e : q = i
    · subst e; rw [xi]; exact this.1
    · rw [xq q (by omega)]; exact this.2 q (by omega) h3
theorem hp_swap {f i : Nat} {xs : List Nat} (hh : Hp f 0 (i + 1) xs) (hn : f + i < xs.length) : Hp f 1 i (ex xs f (f + i)) := fun p c h1 h2 h3 => by
  have g := ex_get (xs := xs) (i := f) (j := f + i) (by omega) (by omega)
  rw [g, g, if_neg (by omega), if_neg (by omega), if_neg (by omega), if_neg (by omega)]
  exact hh p c (by omega) h2 (by omega)
end Go.Proofs.Ytinglfhndlklaaa.Srt
