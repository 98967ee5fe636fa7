/- Spans of times, in plain words: which may be, their times, one way of writing, one put to them, one taken away, how many. Conditions: none. -/
import Derived.RowKit
namespace Go.Proofs.Ytinglfhndlklaaa.Spans

/-- A span: from a time to a time. -/
structure Sp where
  f : Nat
  t : Nat
  hf : f < 4294967296
  ht : t < 4294967296
theorem Sp.ext' {a b : Sp} (h1 : a.f = b.f) (h2 : a.t = b.t) : a = b := by
  obtain ⟨f, t, _, _⟩ := a; obtain ⟨g, u, _, _⟩ := b
  simp only at h1 h2
  subst h1 h2
  rfl
theorem Sp.eq_iff {a b : Sp} : a = b ↔ a.f = b.f ∧ a.t = b.t := ⟨fun h => by rw [h]; exact ⟨rfl, rfl⟩, fun h => Sp.ext' h.1 h.2⟩
instance : DecidableEq Sp := fun a b => if h : a.f = b.f ∧ a.t = b.t then isTrue (Sp.eq_iff.2 h) else isFalse (fun e => h (Sp.eq_iff.1 e))
def zsp : Sp := ⟨0, 0, by decide, by decide⟩
/-- A span of two numbers, whatever they are. -/
def mk (f t : Nat) : Sp := ⟨f % 4294967296, t % 4294967296, Nat.mod_lt _ (by decide), Nat.mod_lt _ (by decide)⟩
theorem mk_f {f t : Nat} (h : f < 4294967296) : (mk f t).f = f := Nat.mod_eq_of_lt h
theorem mk_t {f t : Nat} (h : t < 4294967296) : (mk f t).t = t := Nat.mod_eq_of_lt h

/-- May a span be, by itself? -/
def Ok (x : Sp) : Prop := 1 ≤ x.f ∧ x.f ≤ x.t ∧ x.t ≤ 1073741824
instance (x : Sp) : Decidable (Ok x) := inferInstanceAs (Decidable (_ ∧ _))
/-- May spans be, but for how many? -/
def Fine : List Sp → Prop
  | [] => True
  | [x] => Ok x
  | x :: y :: l => Ok x ∧ x.t + 2 ≤ y.f ∧ Fine (y :: l)
theorem Fine.head {x : Sp} {l : List Sp} (h : Fine (x :: l)) : Ok x := by
  cases l with
  | nil => exact h
  | cons y l => exact h.1
theorem Fine.tail {x : Sp} {l : List Sp} (h : Fine (x :: l)) : Fine l := by
  cases l with
  | nil => trivial
  | cons y l => exact h.2.2
theorem Fine.all : ∀ {l : List Sp}, Fine l → ∀ x ∈ l, Ok x
  | [], _, x, hx => by simp at hx
  | y :: l, h, x, hx => by
    rw [List.mem_cons] at hx
    rcases hx with rfl | hx
    · exact h.head
    · exact Fine.all h.tail x hx
theorem Fine.far : ∀ {x : Sp} {l : List Sp}, Fine (x :: l) → ∀ y ∈ l, x.t + 2 ≤ y.f
  | _, [], _, y, hy => by simp at hy
  | x, z :: l, h, y, hy => by
    rw [List.mem_cons] at hy
    rcases hy with rfl | hy
    · exact h.2.1
    · have h1 := Fine.far h.2.2 y hy
      have h2 := h.2.1
      have h3 := h.2.2.head
      unfold Ok at h3
      omega
theorem Fine.cons {x : Sp} {l : List Sp} (hx : Ok x) (hl : Fine l) (h : ∀ y ∈ l, x.t + 2 ≤ y.f) : Fine (x :: l) := by
  cases l with
  | nil => exact hx
  | cons y l => exact ⟨hx, h y (by simp), hl⟩
theorem fine_append : ∀ {l m : List Sp}, Fine l → Fine m → (∀ a ∈ l, ∀ b ∈ m, a.t + 2 ≤ b.f) → Fine (l ++ m)
  | [], m, _, h, _ => h
  | x :: l, m, h1, h2, h => by
    rw [List.cons_append]
    refine Fine.cons h1.head (fine_append h1.tail h2 (fun a ha b hb => h a (by simp [ha]) b hb)) (fun y hy => ?_)
    rw [List.mem_append] at hy
    rcases hy with hy | hy
    · exact h1.far y hy
    · exact h x (by simp) y hy

/-- Has it the time? -/
def In (l : List Sp) (n : Nat) : Prop := ∃ x ∈ l, x.f ≤ n ∧ n ≤ x.t
def inB : List Sp → Nat → Bool
  | [], _ => false
  | x :: l, n => decide (x.f ≤ n ∧ n ≤ x.t) || inB l n
theorem inB_iff : ∀ (l : List Sp) (n : Nat), inB l n = true ↔ In l n
  | [], n => by simp [inB, In]
  | x :: l, n => by
    have ih := inB_iff l n
    unfold In at ih ⊢
    simp [inB, ih]
instance (l : List Sp) (n : Nat) : Decidable (In l n) := decidable_of_iff _ (inB_iff l n)
theorem in_nil (n : Nat) : ¬ In [] n := by simp [In]
theorem in_cons {x : Sp} {l : List Sp} {n : Nat} : In (x :: l) n ↔ (x.f ≤ n ∧ n ≤ x.t) ∨ In l n := by simp [In]
theorem in_append {l m : List Sp} {n : Nat} : In (l ++ m) n ↔ In l n ∨ In m n := by
  induction l with
  | nil => simp [in_nil]
  | cons x l ih => rw [List.cons_append, in_cons, in_cons, ih]; constructor <;> (intro h; rcases h with h | h) <;> first | exact .inl (.inl h) | exact .inl h | (rcases h with h | h; exact .inl (.inr h); exact .inr h) | exact .inr (.inl h) | exact .inr (.inr h) | (rcases h with h | h; exact .inl h; exact .inr (.inl h)) | skip
theorem in_far {x : Sp} {l : List Sp} (h : Fine (x :: l)) {n : Nat} (hn : In l n) : x.t + 2 ≤ n := by
  obtain ⟨y, hy, h1, _⟩ := hn
  have := h.far y hy
  omega
theorem in_bound {l : List Sp} (h : Fine l) {n : Nat} (hn : In l n) : 1 ≤ n ∧ n ≤ 1073741824 := by
  obtain ⟨y, hy, h1, h2⟩ := hn
  have := h.all y hy
  unfold Ok at this
  omega

/-- A set is written in one way alone. -/
theorem uniq : ∀ {l m : List Sp}, Fine l → Fine m → (∀ n, In l n ↔ In m n) → l = m
  | [], [], _, _, _ => rfl
  | [], y :: m, _, h2, h => by
    have h3 := h2.head
    unfold Ok at h3
    exact absurd ((h y.f).2 (in_cons.2 (.inl ⟨by omega, by omega⟩))) (in_nil _)
  | x :: l, [], h1, _, h => by
    have h3 := h1.head
    unfold Ok at h3
    exact absurd ((h x.f).1 (in_cons.2 (.inl ⟨by omega, by omega⟩))) (in_nil _)
  | x :: l, y :: m, h1, h2, h => by
    have hx := h1.head
    have hy := h2.head
    unfold Ok at hx hy
    have least : ∀ {x y : Sp} {l m : List Sp}, Fine (x :: l) → Fine (y :: m) → Ok x → (∀ n, In (x :: l) n → In (y :: m) n) → y.f ≤ x.f := by
      intro x y l m h1 h2 hx h
      have := h x.f (in_cons.2 (.inl ⟨Nat.le_refl _, hx.2.1⟩))
      rcases in_cons.1 this with h3 | h3
      · exact h3.1
      · have h4 := in_far h2 h3
        have h5 := h2.head
        unfold Ok at h5
        omega
    have most : ∀ {x y : Sp} {l m : List Sp}, Fine (x :: l) → Fine (y :: m) → x.f = y.f → (∀ n, In (y :: m) n → In (x :: l) n) → y.t ≤ x.t := by
      intro x y l m h1 h2 hf h
      have hx := h1.head
      have hy := h2.head
      unfold Ok at hx hy
      by_cases hlt : x.t < y.t
      · have := h (x.t + 1) (in_cons.2 (.inl ⟨by omega, by omega⟩))
        rcases in_cons.1 this with h3 | h3
        · omega
        · have h4 := in_far h1 h3
          omega
      · omega
    have hf : x.f = y.f := by
      have a := least h1 h2 h1.head (fun n => (h n).1)
      have b := least h2 h1 h2.head (fun n => (h n).2)
      omega
    have ht : x.t = y.t := by
      have a := most h1 h2 hf (fun n => (h n).2)
      have b := most h2 h1 hf.symm (fun n => (h n).1)
      omega
    have e : x = y := Sp.ext' hf ht
    subst e
    congr 1
    refine uniq h1.tail h2.tail (fun n => ?_)
    constructor
    · intro hn
      have h3 := in_far h1 hn
      rcases in_cons.1 ((h n).1 (in_cons.2 (.inr hn))) with h4 | h4
      · omega
      · exact h4
    · intro hn
      have h3 := in_far h2 hn
      rcases in_cons.1 ((h n).2 (in_cons.2 (.inr hn))) with h4 | h4
      · omega
      · exact h4

/-! ### One put to them -/

/-- Two spans that touch, as one. -/
def mrg (y x : Sp) : Sp := ⟨min x.f y.f, max x.t y.t, by have := x.hf; omega, by have := x.ht; have := y.ht; omega⟩
/-- One put to spans, in order. -/
def ins : List Sp → Sp → List Sp
  | [], x => [x]
  | y :: l, x => if y.t + 1 < x.f then y :: ins l x else if x.t + 1 < y.f then x :: y :: l else ins l (mrg y x)
theorem mrg_ok {x y : Sp} (hx : Ok x) (hy : Ok y) : Ok (mrg y x) := by
  unfold Ok mrg at *; simp only; omega
theorem in_mrg {x y : Sp} (h1 : ¬ y.t + 1 < x.f) (h2 : ¬ x.t + 1 < y.f) (n : Nat) : ((mrg y x).f ≤ n ∧ n ≤ (mrg y x).t) ↔ (y.f ≤ n ∧ n ≤ y.t) ∨ (x.f ≤ n ∧ n ≤ x.t) := by
  unfold mrg; simp only; omega
theorem in_ins : ∀ {l : List Sp} {x : Sp}, Fine l → Ok x → ∀ n, In (ins l x) n ↔ In l n ∨ (x.f ≤ n ∧ n ≤ x.t)
  | [], x, _, _, n => by
    simp only [ins, in_cons]
    have := in_nil n
    constructor
    · rintro (h | h)
      · exact .inr h
      · exact absurd h this
    · rintro (h | h)
      · exact absurd h this
      · exact .inl h
  | y :: l, x, h, hx, n => by
    unfold ins
    by_cases h1 : y.t + 1 < x.f
    · rw [if_pos h1, in_cons, in_cons, in_ins h.tail hx n]
      constructor
      · rintro (h2 | h2 | h2)
        · exact .inl (.inl h2)
        · exact .inl (.inr h2)
        · exact .inr h2
      · rintro ((h2 | h2) | h2)
        · exact .inl h2
        · exact .inr (.inl h2)
        · exact .inr (.inr h2)
    · rw [if_neg h1]
      by_cases h2 : x.t + 1 < y.f
      · rw [if_pos h2, in_cons]
        exact ⟨fun h => h.symm, fun h => h.symm⟩
      · rw [if_neg h2, in_ins h.tail (mrg_ok hx h.head) n, in_mrg h1 h2 n, in_cons]
        constructor
        · rintro (h3 | h3 | h3)
          · exact .inl (.inr h3)
          · exact .inl (.inl h3)
          · exact .inr h3
        · rintro ((h3 | h3) | h3)
          · exact .inr (.inl h3)
          · exact .inl h3
          · exact .inr (.inr h3)
theorem ins_low : ∀ {l : List Sp} {x : Sp} {b : Nat}, (∀ y ∈ l, b ≤ y.f) → b ≤ x.f → ∀ y ∈ ins l x, b ≤ y.f
  | [], x, b, _, h2, y, hy => by simp only [ins, List.mem_singleton] at hy; subst hy; exact h2
  | z :: l, x, b, h1, h2, y, hy => by
    unfold ins at hy
    by_cases g1 : z.t + 1 < x.f
    · rw [if_pos g1, List.mem_cons] at hy
      rcases hy with rfl | hy
      · exact h1 y (by simp)
      · exact ins_low (fun u hu => h1 u (by simp [hu])) h2 y hy
    · rw [if_neg g1] at hy
      by_cases g2 : x.t + 1 < z.f
      · rw [if_pos g2, List.mem_cons] at hy
        rcases hy with rfl | hy
        · exact h2
        · exact h1 y hy
      · rw [if_neg g2] at hy
        refine ins_low (fun u hu => h1 u (by simp [hu])) ?_ y hy
        have := h1 z (by simp)
        unfold mrg; simp only; omega
theorem ins_fine : ∀ {l : List Sp} {x : Sp}, Fine l → Ok x → Fine (ins l x)
  | [], _, _, hx => hx
  | y :: l, x, h, hx => by
    unfold ins
    by_cases h1 : y.t + 1 < x.f
    · rw [if_pos h1]
      exact Fine.cons h.head (ins_fine h.tail hx) (ins_low h.far (by omega))
    · rw [if_neg h1]
      by_cases h2 : x.t + 1 < y.f
      · rw [if_pos h2]
        exact ⟨hx, by omega, h⟩
      · rw [if_neg h2]
        exact ins_fine h.tail (mrg_ok hx h.head)
theorem ins_len : ∀ (l : List Sp) (x : Sp), (ins l x).length ≤ l.length + 1
  | [], _ => by simp [ins]
  | y :: l, x => by
    unfold ins
    by_cases h1 : y.t + 1 < x.f
    · rw [if_pos h1]; have := ins_len l x; simp; omega
    · rw [if_neg h1]
      by_cases h2 : x.t + 1 < y.f
      · rw [if_pos h2]; simp
      · rw [if_neg h2]; have := ins_len l (mrg y x); simp; omega
/-- The same in three goes: those ahead, the ones that touch, those behind. -/
def gat : List Sp → Sp → Sp
  | [], x => x
  | y :: l, x => if x.f ≤ y.t + 1 ∧ y.f ≤ x.t + 1 then gat l (mrg y x) else gat l x
def three (l : List Sp) (x : Sp) : List Sp := l.filter (fun y => decide (y.t + 1 < x.f)) ++ gat l x :: l.filter (fun y => decide ((gat l x).t + 1 < y.f))
theorem gat_t : ∀ (l : List Sp) (x : Sp), x.t ≤ (gat l x).t
  | [], x => Nat.le_refl _
  | y :: l, x => by
    unfold gat
    split
    · have := gat_t l (mrg y x)
      unfold mrg at this ⊢
      simp only at this ⊢
      omega
    · exact gat_t l x
theorem filter_none {l : List Sp} {p : Sp → Bool} (h : ∀ y ∈ l, p y = false) : l.filter p = [] := by
  rw [List.filter_eq_nil_iff]
  intro y hy
  rw [h y hy]
  simp
theorem filter_all {l : List Sp} {p : Sp → Bool} (h : ∀ y ∈ l, p y = true) : l.filter p = l := List.filter_eq_self.2 h
theorem gat_far : ∀ {l : List Sp} {x : Sp}, (∀ y ∈ l, x.t + 1 < y.f) → gat l x = x
  | [], _, _ => rfl
  | y :: l, x, h => by
    unfold gat
    have := h y (by simp)
    rw [if_neg (by omega)]
    exact gat_far (fun z hz => h z (by simp [hz]))
theorem three_ins : ∀ {l : List Sp} {x : Sp}, Fine l → Ok x → three l x = ins l x
  | [], x, _, _ => rfl
  | y :: l, x, h, hx => by
    have hy := h.head
    have hok := h.tail.all
    have hfar := h.far
    unfold Ok at hx hy
    unfold ins
    by_cases h1 : y.t + 1 < x.f
    · rw [if_pos h1, ← three_ins h.tail hx]
      have hg : gat (y :: l) x = gat l x := by
        show (if x.f ≤ y.t + 1 ∧ y.f ≤ x.t + 1 then gat l (mrg y x) else gat l x) = _
        rw [if_neg (by omega)]
      have ht := gat_t l x
      unfold three
      rw [hg, List.filter_cons, if_pos (by simpa using h1), List.filter_cons, if_neg (by simp; omega), List.cons_append]
    · rw [if_neg h1]
      by_cases h2 : x.t + 1 < y.f
      · rw [if_pos h2]
        have hall : ∀ z ∈ y :: l, x.t + 1 < z.f := by
          intro z hz
          rw [List.mem_cons] at hz
          rcases hz with rfl | hz
          · exact h2
          · have := hfar z hz; omega
        unfold three
        rw [gat_far hall, filter_none, filter_all]
        · rfl
        · intro z hz; simpa using hall z hz
        · intro z hz
          have h3 := hall z hz
          have h4 := h.all z hz
          unfold Ok at h4
          simp; omega
      · rw [if_neg h2, ← three_ins h.tail (mrg_ok hx hy)]
        have hg : gat (y :: l) x = gat l (mrg y x) := by
          show (if x.f ≤ y.t + 1 ∧ y.f ≤ x.t + 1 then gat l (mrg y x) else gat l x) = _
          rw [if_pos (by omega)]
        have ht := gat_t l (mrg y x)
        have hm : y.t ≤ (mrg y x).t ∧ (mrg y x).f ≤ x.f := by unfold mrg; simp only; omega
        unfold three
        have e1 : (y :: l).filter (fun z => decide (z.t + 1 < x.f)) = [] := by
          refine filter_none (fun z hz => ?_)
          rw [List.mem_cons] at hz
          rcases hz with rfl | hz
          · simpa using h1
          · have h3 := hfar z hz
            have h4 := hok z hz
            unfold Ok at h4
            simp; omega
        have e2 : l.filter (fun z => decide (z.t + 1 < (mrg y x).f)) = [] := by
          refine filter_none (fun z hz => ?_)
          have h3 := hfar z hz
          have h4 := hok z hz
          unfold Ok at h4
          simp; omega
        rw [hg, e1, e2, List.filter_cons, if_neg (by simp; omega)]

/-! ### One taken away -/

/-- What is left of one. -/
def rem (y x : Sp) : List Sp :=
  if y.t < x.f ∨ x.t < y.f then [y] else (if y.f < x.f then [mk y.f (x.f - 1)] else []) ++ (if x.t < y.t then [mk (x.t + 1) y.t] else [])
def del : List Sp → Sp → List Sp
  | [], _ => []
  | y :: l, x => rem y x ++ del l x
theorem rem_in {y x : Sp} (hy : Ok y) (hx : Ok x) (n : Nat) : In (rem y x) n ↔ (y.f ≤ n ∧ n ≤ y.t) ∧ ¬ (x.f ≤ n ∧ n ≤ x.t) := by
  unfold Ok at hx hy
  have h0 := in_nil n
  unfold rem
  by_cases h1 : y.t < x.f ∨ x.t < y.f
  · rw [if_pos h1, in_cons]
    constructor
    · rintro (h | h)
      · exact ⟨h, by omega⟩
      · exact absurd h h0
    · intro h; exact .inl h.1
  · rw [if_neg h1, in_append]
    by_cases h2 : y.f < x.f
    · rw [if_pos h2, in_cons, mk_f (by omega), mk_t (by omega)]
      by_cases h3 : x.t < y.t
      · rw [if_pos h3, in_cons, mk_f (by omega), mk_t (by omega)]
        constructor
        · rintro ((h | h) | (h | h))
          · omega
          · exact absurd h h0
          · omega
          · exact absurd h h0
        · intro h
          by_cases h4 : n < x.f
          · exact .inl (.inl (by omega))
          · exact .inr (.inl (by omega))
      · rw [if_neg h3]
        constructor
        · rintro ((h | h) | h)
          · omega
          · exact absurd h h0
          · exact absurd h h0
        · intro h; exact .inl (.inl (by omega))
    · rw [if_neg h2]
      by_cases h3 : x.t < y.t
      · rw [if_pos h3, in_cons, mk_f (by omega), mk_t (by omega)]
        constructor
        · rintro (h | h | h)
          · exact absurd h h0
          · omega
          · exact absurd h h0
        · intro h; exact .inr (.inl (by omega))
      · rw [if_neg h3]
        constructor
        · rintro (h | h) <;> exact absurd h h0
        · intro h; omega
theorem rem_fine {y x : Sp} (hy : Ok y) (hx : Ok x) : Fine (rem y x) ∧ ∀ z ∈ rem y x, y.f ≤ z.f ∧ z.t ≤ y.t := by
  have hyo := hy
  unfold Ok at hx hy
  unfold rem
  by_cases h1 : y.t < x.f ∨ x.t < y.f
  · rw [if_pos h1]
    exact ⟨hyo, fun z hz => by simp only [List.mem_singleton] at hz; subst hz; omega⟩
  · rw [if_neg h1]
    have oa : y.f < x.f → Ok (mk y.f (x.f - 1)) := fun h => by unfold Ok; rw [mk_f (by omega), mk_t (by omega)]; omega
    have ob : x.t < y.t → Ok (mk (x.t + 1) y.t) := fun h => by unfold Ok; rw [mk_f (by omega), mk_t (by omega)]; omega
    by_cases h2 : y.f < x.f
    · rw [if_pos h2]
      by_cases h3 : x.t < y.t
      · rw [if_pos h3]
        refine ⟨⟨oa h2, by rw [mk_t (by omega), mk_f (by omega)]; omega, ob h3⟩, fun z hz => ?_⟩
        simp only [List.cons_append, List.nil_append, List.mem_cons, List.not_mem_nil, or_false] at hz
        rcases hz with rfl | rfl
        · rw [mk_f (by omega), mk_t (by omega)]; omega
        · rw [mk_f (by omega), mk_t (by omega)]; omega
      · rw [if_neg h3]
        refine ⟨oa h2, fun z hz => ?_⟩
        simp only [List.append_nil, List.mem_singleton] at hz
        subst hz
        rw [mk_f (by omega), mk_t (by omega)]; omega
    · rw [if_neg h2]
      by_cases h3 : x.t < y.t
      · rw [if_pos h3]
        refine ⟨ob h3, fun z hz => ?_⟩
        simp only [List.nil_append, List.mem_singleton] at hz
        subst hz
        rw [mk_f (by omega), mk_t (by omega)]; omega
      · rw [if_neg h3]
        exact ⟨trivial, fun z hz => by simp at hz⟩
theorem del_in : ∀ {l : List Sp} {x : Sp}, Fine l → Ok x → ∀ n, In (del l x) n ↔ In l n ∧ ¬ (x.f ≤ n ∧ n ≤ x.t)
  | [], x, _, _, n => by simp [del, in_nil]
  | y :: l, x, h, hx, n => by
    unfold del
    rw [in_append, rem_in h.head hx, del_in h.tail hx, in_cons]
    constructor
    · rintro (h1 | h1)
      · exact ⟨.inl h1.1, h1.2⟩
      · exact ⟨.inr h1.1, h1.2⟩
    · rintro ⟨h1 | h1, h2⟩
      · exact .inl ⟨h1, h2⟩
      · exact .inr ⟨h1, h2⟩
theorem del_low : ∀ {l : List Sp} {x : Sp}, Fine l → Ok x → ∀ z ∈ del l x, ∃ y ∈ l, y.f ≤ z.f
  | [], x, _, _, z, hz => by simp [del] at hz
  | y :: l, x, h, hx, z, hz => by
    unfold del at hz
    rw [List.mem_append] at hz
    rcases hz with hz | hz
    · exact ⟨y, by simp, ((rem_fine h.head hx).2 z hz).1⟩
    · obtain ⟨u, h1, h2⟩ := del_low h.tail hx z hz
      exact ⟨u, by simp [h1], h2⟩
theorem del_fine : ∀ {l : List Sp} {x : Sp}, Fine l → Ok x → Fine (del l x)
  | [], _, _, _ => trivial
  | y :: l, x, h, hx => by
    unfold del
    refine fine_append (rem_fine h.head hx).1 (del_fine h.tail hx) (fun a ha b hb => ?_)
    have h1 := ((rem_fine h.head hx).2 a ha).2
    obtain ⟨u, h2, h3⟩ := del_low h.tail hx b hb
    have h4 := h.far u h2
    omega
theorem rem_len (y x : Sp) : (rem y x).length ≤ 2 := by
  unfold rem; split
  · simp
  · split <;> split <;> simp

/-! ### All of one put to another one, taken away -/

def both : List Sp → List Sp → List Sp
  | a, [] => a
  | a, x :: b => both (ins a x) b
def left : List Sp → List Sp → List Sp
  | a, [] => a
  | a, x :: b => left (del a x) b
theorem both_ok : ∀ {b a : List Sp}, Fine a → (∀ x ∈ b, Ok x) → Fine (both a b) ∧ ∀ n, In (both a b) n ↔ In a n ∨ In b n
  | [], a, h, _ => ⟨h, fun n => by simp [both, in_nil]⟩
  | x :: b, a, h, hb => by
    have hx := hb x (by simp)
    have ih := both_ok (b := b) (ins_fine h hx) (fun y hy => hb y (by simp [hy]))
    refine ⟨ih.1, fun n => ?_⟩
    show In (both (ins a x) b) n ↔ _
    rw [ih.2 n, in_ins h hx n, in_cons]
    constructor
    · rintro ((h1 | h1) | h1)
      · exact .inl h1
      · exact .inr (.inl h1)
      · exact .inr (.inr h1)
    · rintro (h1 | h1 | h1)
      · exact .inl (.inl h1)
      · exact .inl (.inr h1)
      · exact .inr h1
theorem left_ok : ∀ {b a : List Sp}, Fine a → (∀ x ∈ b, Ok x) → Fine (left a b) ∧ ∀ n, In (left a b) n ↔ In a n ∧ ¬ In b n
  | [], a, h, _ => ⟨h, fun n => by simp [left, in_nil]⟩
  | x :: b, a, h, hb => by
    have hx := hb x (by simp)
    have ih := left_ok (b := b) (del_fine h hx) (fun y hy => hb y (by simp [hy]))
    refine ⟨ih.1, fun n => ?_⟩
    show In (left (del a x) b) n ↔ _
    rw [ih.2 n, del_in h hx n, in_cons]
    constructor
    · rintro ⟨⟨h1, h2⟩, h3⟩
      exact ⟨h1, fun h4 => h4.elim h2 h3⟩
    · rintro ⟨h1, h2⟩
      exact ⟨⟨h1, fun h4 => h2 (.inl h4)⟩, fun h4 => h2 (.inr h4)⟩

/-! ### How many times -/

def many : List Sp → Nat
  | [] => 0
  | x :: l => x.t - x.f + 1 + many l
/-- How many numbers below one are so. -/
def cnt (p : Nat → Bool) : Nat → Nat
  | 0 => 0
  | n + 1 => cnt p n + if p n then 1 else 0
theorem cnt_none {p : Nat → Bool} : ∀ {n : Nat}, (∀ k, k < n → p k = false) → cnt p n = 0
  | 0, _ => rfl
  | n + 1, h => by unfold cnt; rw [h n (by omega), cnt_none (fun k hk => h k (by omega))]; rfl
theorem cnt_or {p q r : Nat → Bool} (h1 : ∀ k, r k = (p k || q k)) (h2 : ∀ k, ¬ (p k = true ∧ q k = true)) : ∀ n, cnt r n = cnt p n + cnt q n
  | 0 => rfl
  | n + 1 => by
    have ih := cnt_or h1 h2 n
    have e := h1 n
    have g := h2 n
    unfold cnt
    rw [ih, e]
    cases hp : p n <;> cases hq : q n
    · simp
    · simp; omega
    · simp; omega
    · exact absurd ⟨hp, hq⟩ g
theorem cnt_span (f t : Nat) : ∀ n, t < n → f ≤ t → cnt (fun k => decide (f ≤ k ∧ k ≤ t)) n = t - f + 1 := by
  have low : ∀ n, n ≤ t + 1 → cnt (fun k => decide (f ≤ k ∧ k ≤ t)) n = n - f := by
    intro n
    induction n with
    | zero => intro _; simp [cnt]
    | succ n ih =>
      intro h
      unfold cnt
      rw [ih (by omega)]
      by_cases g : f ≤ n
      · rw [if_pos (by simp; omega)]; omega
      · rw [if_neg (by simp; omega)]; omega
  intro n
  induction n with
  | zero => intro h; omega
  | succ n ih =>
    intro h1 h2
    by_cases g : t < n
    · unfold cnt
      rw [ih g h2, if_neg (by simp; omega)]
    · have : n = t := by omega
      subst this
      rw [low (n + 1) (by omega)]
      omega
theorem many_cnt : ∀ {l : List Sp}, Fine l → many l = cnt (inB l) 1073741825
  | [], _ => (cnt_none (fun _ _ => rfl)).symm
  | x :: l, h => by
    have hx := h.head
    unfold Ok at hx
    have e := cnt_or (r := inB (x :: l)) (p := fun k => decide (x.f ≤ k ∧ k ≤ x.t)) (q := inB l) (fun k => rfl) (fun k => by
      rintro ⟨h1, h2⟩
      have h3 := in_far h ((inB_iff l k).1 h2)
      have h4 := of_decide_eq_true h1
      omega) 1073741825
    rw [e, cnt_span _ _ _ (by omega) hx.2.1, ← many_cnt h.tail]
    rfl
/-- Two sets without a time in both have as many as their join. -/
theorem many_join {l m j : List Sp} (h1 : Fine l) (h2 : Fine m) (h3 : Fine j) (hj : ∀ n, In j n ↔ In l n ∨ In m n) (hn : ∀ n, ¬ (In l n ∧ In m n)) : many j = many l + many m := by
  rw [many_cnt h1, many_cnt h2, many_cnt h3]
  refine cnt_or (fun k => ?_) (fun k => ?_) _
  · rw [Bool.eq_iff_iff, Bool.or_eq_true, inB_iff, inB_iff, inB_iff]
    exact hj k
  · rw [inB_iff, inB_iff]
    exact hn k
end Go.Proofs.Ytinglfhndlklaaa.Spans
