/- Clocks taken one by one, whether they may be, as a Bool; the clock of stamps, and the stamps of a clock. Conditions: none. -/
import Derived.Test.YtinglfhndlklaaaClockMath
import Derived.Test.YtinglfhndlklaaaIds
namespace Go.Proofs.Ytinglfhndlklaaa.Clocks
open Go.Proofs.Ytinglfhndlklaaa.Spans

def ztm : Tm := (0, [])
def upB : Nat → List Tm → Bool
  | _, [] => true
  | lo, x :: c => decide (lo ≤ x.1 ∧ x.1 < 8 ∧ x.2 ≠ []) && (mayB x.2 && upB (x.1 + 1) c)
theorem upB_iff : ∀ (c : List Tm) (lo : Nat), upB lo c = true ↔ Up lo c
  | [], _ => by simp [upB, Up]
  | x :: c, lo => by
    unfold upB Up
    rw [Bool.and_eq_true, Bool.and_eq_true, decide_eq_true_iff, upB_iff c (x.1 + 1)]
    constructor
    · rintro ⟨⟨h1, h2, h3⟩, h4, h5⟩; exact ⟨h1, h2, h3, h4, h5⟩
    · rintro ⟨h1, h2, h3, h4, h5⟩; exact ⟨⟨h1, h2, h3⟩, h4, h5⟩
/-- May the clock be? -/
def mayC (c : List Tm) : Bool := upB 0 c
theorem mayC_iff (c : List Tm) : mayC c = true ↔ Cok c := upB_iff c 0
theorem mayC_no {c : List Tm} (h : ¬ Cok c) : mayC c = false := by
  cases hb : mayC c
  · rfl
  · exact absurd ((mayC_iff c).1 hb) h
theorem up_all : ∀ {c : List Tm} {lo : Nat}, Up lo c → ∀ x ∈ c, lo ≤ x.1 ∧ x.1 < 8 ∧ x.2 ≠ [] ∧ mayB x.2 = true
  | [], _, _, x, hx => by simp at hx
  | y :: c, lo, h, x, hx => by
    rw [List.mem_cons] at hx
    rcases hx with rfl | hx
    · exact ⟨h.1, h.2.1, h.2.2.1, h.2.2.2.1⟩
    · have := up_all h.2.2.2.2 x hx
      have h1 := h.1
      exact ⟨by omega, this.2⟩
theorem up_front : ∀ {c d : List Tm} {lo : Nat}, Up lo (c ++ d) → Up lo c
  | [], _, _, _ => trivial
  | _ :: _, _, _, h => ⟨h.1, h.2.1, h.2.2.1, h.2.2.2.1, up_front h.2.2.2.2⟩
theorem up_take {c : List Tm} {lo : Nat} (h : Up lo c) (k : Nat) : Up lo (c.take k) := by
  have := List.take_append_drop k c
  rw [← this] at h
  exact up_front h
theorem up_snoc : ∀ {c : List Tm} {x : Tm} {lo : Nat}, Up lo c → (∀ y ∈ c, y.1 < x.1) → lo ≤ x.1 → x.1 < 8 → x.2 ≠ [] → mayB x.2 = true → Up lo (c ++ [x])
  | [], x, lo, _, _, h1, h2, h3, h4 => ⟨h1, h2, h3, h4, trivial⟩
  | y :: c, x, lo, h, hl, h1, h2, h3, h4 => by
    have := hl y (by simp)
    exact ⟨h.1, h.2.1, h.2.2.1, h.2.2.2.1, up_snoc h.2.2.2.2 (fun z hz => hl z (by simp [hz])) (by omega) h2 h3 h4⟩
theorem up_next : ∀ {c : List Tm} {lo k : Nat}, Up lo c → k + 1 < c.length → (c.getD k ztm).1 < (c.getD (k + 1) ztm).1
  | [], _, k, _, h => by simp at h
  | [x], _, k, _, h => by simp at h
  | x :: y :: c, _, 0, h, _ => by
    have h1 : x.1 + 1 ≤ y.1 := h.2.2.2.2.1
    show x.1 < y.1
    omega
  | x :: y :: c, _, k + 1, h, hk => by
    have := up_next (c := y :: c) (k := k) h.2.2.2.2 (by simpa using hk)
    simpa using this
theorem up_most : ∀ {c : List Tm} {lo : Nat}, Up lo c → ∀ a ∈ c, a.1 ≤ (c.getD (c.length - 1) ztm).1
  | [], _, _, a, ha => by simp at ha
  | [x], _, _, a, ha => by simp only [List.mem_singleton] at ha; subst ha; simp
  | x :: y :: c, lo, h, a, ha => by
    have ih := up_most h.2.2.2.2
    have e : (x :: y :: c).getD ((x :: y :: c).length - 1) ztm = (y :: c).getD ((y :: c).length - 1) ztm := by simp
    rw [e]
    rw [List.mem_cons] at ha
    rcases ha with rfl | ha
    · have h1 := ih y (by simp)
      have h2 := h.2.2.2.2.1
      omega
    · exact ih a ha
theorem tm_take_snoc (c : List Tm) (k : Nat) (h : k < c.length) : c.take (k + 1) = c.take k ++ [c.getD k ztm] := by
  rw [List.take_succ_eq_append_getElem h]
  simp [List.getD, List.getElem?_eq_getElem h]
theorem tm_mem {c : List Tm} {k : Nat} (h : k < c.length) : c.getD k ztm ∈ c := by
  rw [List.getD, List.getElem?_eq_getElem h]
  exact List.getElem_mem _
theorem up_take_succ {c : List Tm} {k : Nat} (h : k < c.length) (hc : Up 0 (c.take k)) (h1 : (c.getD k ztm).1 < 8) (h2 : (c.getD k ztm).2 ≠ []) (h3 : mayB (c.getD k ztm).2 = true)
    (h4 : k = 0 ∨ (c.getD (k - 1) ztm).1 < (c.getD k ztm).1) : Up 0 (c.take (k + 1)) := by
  rw [tm_take_snoc c k h]
  refine up_snoc hc (fun a ha => ?_) (Nat.zero_le _) h1 h2 h3
  rcases h4 with rfl | h4
  · simp at ha
  · have h5 := up_most hc a ha
    have hk : 0 < k := by
      cases k with
      | zero => simp at ha
      | succ k => omega
    rw [List.length_take, Nat.min_eq_left (by omega)] at h5
    have e : (c.take k).getD (k - 1) ztm = c.getD (k - 1) ztm := by
      simp [List.getD, show k - 1 < k by omega]
    rw [e] at h5
    omega
theorem spn_hit : ∀ {c : List Tm} {k r : Nat}, (∀ j, j < k → (c.getD j ztm).1 ≠ r) → k < c.length → (c.getD k ztm).1 = r → spn c r = (c.getD k ztm).2
  | [], k, _, _, h, _ => by simp at h
  | x :: c, 0, r, _, _, h => by
    unfold spn
    rw [if_pos (by simpa using h)]
    simp
  | x :: c, k + 1, r, hn, hk, h => by
    unfold spn
    have h0 := hn 0 (by omega)
    rw [if_neg (by simpa using h0)]
    have := spn_hit (c := c) (k := k) (r := r) (fun j hj => by have := hn (j + 1) (by omega); simpa using this) (by simpa using hk) (by simpa using h)
    simpa using this
theorem spn_miss : ∀ {c : List Tm} {r : Nat}, (∀ j, j < c.length → (c.getD j ztm).1 ≠ r) → spn c r = []
  | [], _, _ => rfl
  | x :: c, r, h => by
    unfold spn
    have h0 := h 0 (by simp)
    rw [if_neg (by simpa using h0)]
    exact spn_miss fun j hj => by have := h (j + 1) (by simpa using hj); simpa using this
theorem manyC_snoc (c : List Tm) (x : Tm) : manyC (c ++ [x]) = manyC c + many x.2 := by
  induction c with
  | nil => simp [manyC]
  | cons y c ih => simp only [List.cons_append, manyC, ih]; omega
theorem top_snoc (l : List Sp) (x : Sp) : top (l ++ [x]) = max (top l) x.t := by
  induction l with
  | nil => simp [top]
  | cons y l ih => simp only [List.cons_append, top, ih]; omega
theorem topC_snoc (c : List Tm) (x : Tm) : topC (c ++ [x]) = max (topC c) (top x.2) := by
  induction c with
  | nil => simp [topC]
  | cons y c ih => simp only [List.cons_append, topC, ih]; omega
theorem clkFrom_snoc (g : Nat → List Sp) : ∀ (k lo : Nat), clkFrom g lo (k + 1) = clkFrom g lo k ++ (if g (lo + k) = [] then [] else [(lo + k, g (lo + k))])
  | 0, lo => by
    simp only [clkFrom, Nat.add_zero, List.nil_append]
  | k + 1, lo => by
    have ih := clkFrom_snoc g k (lo + 1)
    rw [show lo + (k + 1) = lo + 1 + k by omega]
    show (if g lo = [] then clkFrom g (lo + 1) (k + 1) else (lo, g lo) :: clkFrom g (lo + 1) (k + 1)) = (if g lo = [] then clkFrom g (lo + 1) k else (lo, g lo) :: clkFrom g (lo + 1) k) ++ _
    rw [ih]
    by_cases q : g lo = []
    · rw [if_pos q, if_pos q]
    · rw [if_neg q, if_neg q, List.cons_append]
theorem clkFrom_len (g : Nat → List Sp) : ∀ (k lo : Nat), (clkFrom g lo k).length ≤ k
  | 0, _ => Nat.le_refl _
  | k + 1, lo => by
    have := clkFrom_len g k (lo + 1)
    unfold clkFrom
    split
    · omega
    · simp; omega

/-- The clock of a stamp. -/
def one (a : Id) : List Tm := [(a.r, [mk a.t a.t])]
/-- Two together, one without another one. -/
def bothC (a b : List Tm) : List Tm := clk fun r => both (spn a r) (spn b r)
def leftC (a b : List Tm) : List Tm := clk fun r => left (spn a r) (spn b r)
/-- No replica has too many spans. -/
def Few (a b : List Tm) : Prop := ∀ r, (spn a r).length + (spn b r).length ≤ 1024
theorem few_may {a b : List Tm} (ha : Cok a) (hb : Cok b) (h : Few a b) (r : Nat) : mayB (both (spn a r) (spn b r)) = true := by
  have h1 := (mayB_iff _).1 (spn_may ha r)
  have h2 := (mayB_iff _).1 (spn_may hb r)
  exact (mayB_iff _).2 ⟨(both_ok h1.1 h2.1.all).1, Nat.le_trans (both_len _ _) (h r)⟩
theorem few_may_left {a b : List Tm} (ha : Cok a) (hb : Cok b) (h : Few a b) (r : Nat) : mayB (left (spn a r) (spn b r)) = true := by
  have h1 := (mayB_iff _).1 (spn_may ha r)
  have h2 := (mayB_iff _).1 (spn_may hb r)
  exact (mayB_iff _).2 ⟨(left_ok h1.1 h2.1.all).1, Nat.le_trans (left_len h1.1 h2.1.all) (h r)⟩
theorem bothC_ok {a b : List Tm} (ha : Cok a) (hb : Cok b) (h : Few a b) : Cok (bothC a b) := clk_ok (few_may ha hb h)
theorem leftC_ok {a b : List Tm} (ha : Cok a) (hb : Cok b) (h : Few a b) : Cok (leftC a b) := clk_ok (few_may_left ha hb h)
theorem spn_bothC {a b : List Tm} (ha : Cok a) (hb : Cok b) (r : Nat) : spn (bothC a b) r = both (spn a r) (spn b r) := by
  unfold bothC
  rw [spn_clk]
  split
  · rfl
  · rw [spn_high ha (by omega), spn_high hb (by omega)]; rfl
theorem spn_leftC {a b : List Tm} (ha : Cok a) (hb : Cok b) (r : Nat) : spn (leftC a b) r = left (spn a r) (spn b r) := by
  unfold leftC
  rw [spn_clk]
  split
  · rfl
  · rw [spn_high ha (by omega), spn_high hb (by omega)]; rfl
/-- May a stamp be? -/
def mayI (a : Id) : Prop := 1 ≤ a.t ∧ a.t ≤ 1073741824 ∧ a.r < 8
instance (a : Id) : Decidable (mayI a) := inferInstanceAs (Decidable (_ ∧ _))
theorem one_sp {a : Id} (h : mayI a) : Ok (mk a.t a.t) := by
  have := a.ht
  unfold mayI at h
  unfold Ok
  rw [mk_f this, mk_t this]
  omega
theorem one_ok {a : Id} (h : mayI a) : Cok (one a) :=
  ⟨Nat.zero_le _, h.2.2, by simp, (mayB_iff _).2 ⟨one_sp h, by simp⟩, trivial⟩
theorem spn_one (a : Id) (r : Nat) : spn (one a) r = if a.r = r then [mk a.t a.t] else [] := by
  unfold one spn
  rfl
theorem spn_one_len (a : Id) (r : Nat) : (spn (one a) r).length ≤ 1 := by
  rw [spn_one]; split <;> simp

/-- The clock of some stamps. -/
def among : List Id → List Tm
  | l => l.foldl (fun c a => bothC c (one a)) []
theorem among_snoc (l : List Id) (a : Id) : among (l ++ [a]) = bothC (among l) (one a) := by unfold among; rw [List.foldl_append]; rfl
theorem list_snoc_ind {α : Type} {P : List α → Prop} (h0 : P []) (h1 : ∀ l a, P l → P (l ++ [a])) (l : List α) : P l := by
  have go : ∀ (n : Nat) (l : List α), l.length = n → P l := by
    intro n
    induction n with
    | zero => intro l h; rw [List.length_eq_zero_iff.1 h]; exact h0
    | succ n ih =>
      intro l h
      rcases List.eq_nil_or_concat l with rfl | ⟨m, x, rfl⟩
      · simp at h
      · rw [List.concat_eq_append] at h ⊢
        exact h1 m x (ih m (by simpa using h))
  exact go l.length l rfl
theorem among_ok (l : List Id) : (∀ a ∈ l, mayI a) → l.length ≤ 1024 → Cok (among l) ∧ (∀ r, (spn (among l) r).length ≤ l.length) ∧
    ∀ r n, In (spn (among l) r) n ↔ ∃ a ∈ l, a.r = r ∧ a.t = n := by
  refine list_snoc_ind (P := fun l => (∀ a ∈ l, mayI a) → l.length ≤ 1024 → Cok (among l) ∧ (∀ r, (spn (among l) r).length ≤ l.length) ∧ ∀ r n, In (spn (among l) r) n ↔ ∃ a ∈ l, a.r = r ∧ a.t = n) ?_ ?_ l
  · intro _ _
    refine ⟨trivial, fun r => Nat.zero_le _, fun r n => ?_⟩
    show In [] n ↔ _
    constructor
    · exact fun h => absurd h (in_nil n)
    · rintro ⟨a, ha, _⟩; simp at ha
  · intro l x ih hm hl
    rw [List.length_append, List.length_singleton] at hl
    obtain ⟨i1, i2, i3⟩ := ih (fun a ha => hm a (by simp [ha])) (by omega)
    have hx := hm x (by simp)
    have ho := one_ok hx
    have hfew : Few (among l) (one x) := fun r => by have := i2 r; have := spn_one_len x r; omega
    rw [among_snoc]
    refine ⟨bothC_ok i1 ho hfew, fun r => ?_, fun r n => ?_⟩
    · rw [spn_bothC i1 ho]
      have h1 := both_len (spn (one x) r) (spn (among l) r)
      have h2 := spn_one_len x r
      have h3 := i2 r
      rw [List.length_append, List.length_singleton]
      omega
    · have h1 := (mayB_iff _).1 (spn_may i1 r)
      have h2 := (mayB_iff _).1 (spn_may ho r)
      rw [spn_bothC i1 ho, (both_ok h1.1 h2.1.all).2 n, i3, spn_one]
      have hxt := x.ht
      constructor
      · rintro (⟨a, h3, h4⟩ | h3)
        · exact ⟨a, by simp [h3], h4⟩
        · by_cases q : x.r = r
          · rw [if_pos q, in_cons, mk_f hxt, mk_t hxt] at h3
            rcases h3 with h3 | h3
            · exact ⟨x, by simp, q, by omega⟩
            · exact absurd h3 (in_nil n)
          · rw [if_neg q] at h3; exact absurd h3 (in_nil n)
      · rintro ⟨a, h3, h4, h5⟩
        rw [List.mem_append, List.mem_singleton] at h3
        rcases h3 with h3 | rfl
        · exact .inl ⟨a, h3, h4, h5⟩
        · right
          rw [if_pos h4, in_cons, mk_f hxt, mk_t hxt]
          left; omega

/-! ### No more than both -/
theorem cnt_le {p q r : Nat → Bool} (h : ∀ k, r k = (p k || q k)) : ∀ n, cnt r n ≤ cnt p n + cnt q n
  | 0 => Nat.le_refl _
  | n + 1 => by
    have ih := cnt_le h n
    have e := h n
    unfold cnt
    rw [e]
    cases hp : p n <;> cases hq : q n <;> simp <;> omega
theorem many_both {x y : List Sp} (hx : Fine x) (hy : Fine y) : many (both x y) ≤ many x + many y := by
  have h := both_ok hx hy.all
  rw [many_cnt hx, many_cnt hy, many_cnt h.1]
  refine cnt_le (fun k => ?_) _
  rw [Bool.eq_iff_iff, Bool.or_eq_true, inB_iff, inB_iff, inB_iff]
  exact h.2 k
theorem sumFrom_le {g p q : Nat → List Sp} (h : ∀ r, many (g r) ≤ many (p r) + many (q r)) : ∀ (k lo : Nat), sumFrom g lo k ≤ sumFrom p lo k + sumFrom q lo k
  | 0, _ => Nat.le_refl _
  | k + 1, lo => by
    have h1 := h lo
    have h2 := sumFrom_le h k (lo + 1)
    unfold sumFrom
    omega
theorem manyC_clk {c : List Tm} (h : Cok c) : manyC c = sumFrom (spn c) 0 8 := by
  have h1 := clk_spn h
  unfold clk at h1
  rw [← manyC_clkFrom, h1]
theorem manyC_both {a b : List Tm} (ha : Cok a) (hb : Cok b) : manyC (bothC a b) ≤ manyC a + manyC b := by
  rw [manyC_clk ha, manyC_clk hb]
  unfold bothC clk
  rw [manyC_clkFrom]
  exact sumFrom_le (fun r => many_both ((mayB_iff _).1 (spn_may ha r)).1 ((mayB_iff _).1 (spn_may hb r)).1) 8 0
theorem manyC_one (a : Id) : manyC (one a) = 1 := by
  simp [one, manyC, many, mk_f a.ht, mk_t a.ht]
theorem among_many (l : List Id) : (∀ a ∈ l, mayI a) → l.length ≤ 1024 → manyC (among l) ≤ l.length := by
  refine list_snoc_ind (P := fun l => (∀ a ∈ l, mayI a) → l.length ≤ 1024 → manyC (among l) ≤ l.length) ?_ ?_ l
  · intro _ _; exact Nat.le_refl _
  · intro l x ih hm hl
    rw [List.length_append, List.length_singleton] at hl ⊢
    have i := ih (fun a ha => hm a (by simp [ha])) (by omega)
    have h1 := (among_ok l (fun a ha => hm a (by simp [ha])) (by omega)).1
    have h2 := manyC_both h1 (one_ok (hm x (by simp)))
    rw [manyC_one] at h2
    rw [among_snoc]
    omega

/-! ### The stamps of a clock -/
def idOf (r t : Nat) : Id := ⟨t % 4294967296, r % 256, Nat.mod_lt _ (by decide), Nat.mod_lt _ (by decide)⟩
theorem idOf_t {r t : Nat} (h : t < 4294967296) : (idOf r t).t = t := Nat.mod_eq_of_lt h
theorem idOf_r {r t : Nat} (h : r < 256) : (idOf r t).r = r := Nat.mod_eq_of_lt h
/-- From a time on, so many. -/
def runI (r : Nat) : Nat → Nat → List Id
  | _, 0 => []
  | t, k + 1 => idOf r t :: runI r (t + 1) k
theorem runI_len (r : Nat) : ∀ (k t : Nat), (runI r t k).length = k
  | 0, _ => rfl
  | k + 1, t => by simp [runI, runI_len r k]
theorem runI_snoc (r : Nat) : ∀ (k t : Nat), runI r t (k + 1) = runI r t k ++ [idOf r (t + k)]
  | 0, t => rfl
  | k + 1, t => by
    have ih := runI_snoc r k (t + 1)
    rw [show t + (k + 1) = t + 1 + k by omega]
    show idOf r t :: runI r (t + 1) (k + 1) = idOf r t :: runI r (t + 1) k ++ _
    rw [ih, List.cons_append]
theorem mem_runI (r : Nat) : ∀ (k t : Nat) (a : Id), a ∈ runI r t k ↔ ∃ n, t ≤ n ∧ n < t + k ∧ a = idOf r n
  | 0, t, a => by
    simp only [runI, List.not_mem_nil, false_iff]
    rintro ⟨n, h1, h2, _⟩; omega
  | k + 1, t, a => by
    simp only [runI, List.mem_cons, mem_runI r k (t + 1) a]
    constructor
    · rintro (h | ⟨n, h1, h2, h3⟩)
      · exact ⟨t, Nat.le_refl _, by omega, h⟩
      · exact ⟨n, by omega, by omega, h3⟩
    · rintro ⟨n, h1, h2, h3⟩
      by_cases q : n = t
      · subst q; exact .inl h3
      · exact .inr ⟨n, by omega, by omega, h3⟩
def spI (r : Nat) : List Sp → List Id
  | [] => []
  | x :: l => runI r x.f (x.t + 1 - x.f) ++ spI r l
/-- All of a clock. -/
def allI : List Tm → List Id
  | [] => []
  | x :: c => spI x.1 x.2 ++ allI c
theorem spI_snoc (r : Nat) (l : List Sp) (x : Sp) : spI r (l ++ [x]) = spI r l ++ runI r x.f (x.t + 1 - x.f) := by
  induction l with
  | nil => simp [spI]
  | cons y l ih => simp only [List.cons_append, spI, ih, List.append_assoc]
theorem allI_snoc (c : List Tm) (x : Tm) : allI (c ++ [x]) = allI c ++ spI x.1 x.2 := by
  induction c with
  | nil => simp [allI]
  | cons y c ih => simp only [List.cons_append, allI, ih, List.append_assoc]
theorem spI_len (r : Nat) : ∀ {l : List Sp}, (∀ x ∈ l, Ok x) → (spI r l).length = many l
  | [], _ => rfl
  | x :: l, h => by
    have hx := h x (by simp)
    unfold Ok at hx
    rw [spI, List.length_append, runI_len, spI_len r (fun y hy => h y (by simp [hy])), many]
    omega
theorem allI_len : ∀ {c : List Tm}, (∀ x ∈ c, ∀ y ∈ x.2, Ok y) → (allI c).length = manyC c
  | [], _ => rfl
  | x :: c, h => by rw [allI, List.length_append, spI_len _ (h x (by simp)), allI_len (fun y hy => h y (by simp [hy])), manyC]
theorem cok_all {c : List Tm} {lo : Nat} (h : Up lo c) : ∀ x ∈ c, ∀ y ∈ x.2, Ok y := fun x hx => ((mayB_iff _).1 (up_all h x hx).2.2.2).1.all
theorem mem_spI (r : Nat) (a : Id) : ∀ {l : List Sp}, a ∈ spI r l ↔ ∃ n, In l n ∧ a = idOf r n
  | [] => by
    simp only [spI, List.not_mem_nil, false_iff]
    rintro ⟨n, h, _⟩; exact in_nil n h
  | x :: l => by
    rw [spI, List.mem_append, mem_runI, mem_spI r a (l := l)]
    constructor
    · rintro (⟨n, h1, h2, h3⟩ | ⟨n, h1, h2⟩)
      · exact ⟨n, in_cons.2 (.inl ⟨h1, by omega⟩), h3⟩
      · exact ⟨n, in_cons.2 (.inr h1), h2⟩
    · rintro ⟨n, h1, h2⟩
      rcases in_cons.1 h1 with h1 | h1
      · exact .inl ⟨n, h1.1, by omega, h2⟩
      · exact .inr ⟨n, h1, h2⟩
theorem spn_cons (x : Tm) (c : List Tm) (r : Nat) : spn (x :: c) r = if x.1 = r then x.2 else spn c r := rfl
theorem mem_allI (a : Id) : ∀ {c : List Tm} {lo : Nat}, Up lo c → (a ∈ allI c ↔ In (spn c a.r) a.t)
  | [], _, _ => by
    simp only [allI, List.not_mem_nil, false_iff]
    exact in_nil _
  | x :: c, lo, h => by
    have hf := ((mayB_iff _).1 h.2.2.2.1).1
    rw [allI, List.mem_append, mem_spI, mem_allI a h.2.2.2.2, spn_cons]
    have hx8 := h.2.1
    have key : ∀ n, In x.2 n → a = idOf x.1 n → x.1 = a.r ∧ n = a.t := fun n h1 h2 => by
      have hb := in_bound hf h1
      have e1 := idOf_r (r := x.1) (t := n) (by omega)
      have e2 := idOf_t (r := x.1) (t := n) (by omega)
      rw [h2, e1, e2]
      exact ⟨rfl, rfl⟩
    by_cases q : x.1 = a.r
    · rw [if_pos q, spn_low h.2.2.2.2 (show a.r < x.1 + 1 by omega)]
      constructor
      · rintro (⟨n, h1, h2⟩ | h1)
        · rw [← (key n h1 h2).2]; exact h1
        · exact absurd h1 (in_nil _)
      · intro h1
        refine .inl ⟨a.t, h1, Id.ext' ?_ ?_⟩
        · exact (idOf_t a.ht).symm
        · rw [q]; exact (idOf_r a.hr).symm
    · rw [if_neg q]
      constructor
      · rintro (⟨n, h1, h2⟩ | h1)
        · exact absurd (key n h1 h2).1 q
        · exact h1
      · exact .inr
theorem allI_may {c : List Tm} (h : Cok c) : ∀ a ∈ allI c, mayI a := by
  intro a ha
  have h1 := (mem_allI a h).1 ha
  have h2 := in_bound ((mayB_iff _).1 (spn_may h a.r)).1 h1
  refine ⟨h2.1, h2.2, ?_⟩
  by_cases q : a.r < 8
  · exact q
  · rw [spn_high h (by omega)] at h1; exact absurd h1 (in_nil _)
/-- Two clocks with the same stamps are the same. -/
theorem cok_ext {c d : List Tm} (hc : Cok c) (hd : Cok d) (h : ∀ r n, In (spn c r) n ↔ In (spn d r) n) : c = d :=
  up_ext hc hd fun r => uniq ((mayB_iff _).1 (spn_may hc r)).1 ((mayB_iff _).1 (spn_may hd r)).1 (h r)
/-- The clock of a clock's stamps is that. -/
theorem among_all {c : List Tm} (h : Cok c) (hm : manyC c ≤ 1024) : among (allI c) = c := by
  have hl := allI_len (cok_all h)
  obtain ⟨h1, _, h3⟩ := among_ok (allI c) (allI_may h) (by omega)
  refine cok_ext h1 h fun r n => ?_
  rw [h3]
  constructor
  · rintro ⟨a, ha, rfl, rfl⟩
    exact (mem_allI a h).1 ha
  · intro hn
    have hb := in_bound ((mayB_iff _).1 (spn_may h r)).1 hn
    have hr : r < 8 := by
      by_cases q : r < 8
      · exact q
      · rw [spn_high h (by omega)] at hn; exact absurd hn (in_nil _)
    have e1 := idOf_r (r := r) (t := n) (by omega)
    have e2 := idOf_t (r := r) (t := n) (by omega)
    refine ⟨idOf r n, (mem_allI _ h).2 ?_, e1, e2⟩
    rw [e1, e2]; exact hn
end Go.Proofs.Ytinglfhndlklaaa.Clocks
