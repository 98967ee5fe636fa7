/- Spans of times, in plain words: which may be, their times, one way of writing, one put to them, one taken away, how many. Conditions: none. -/
import Derived.RowKit
import Derived.Test.YtdackenaknieaaaGreatPt01
import Derived.Test.YtdackenaknieaaaGreatPt07

namespace Go.Proofs.YtdackenaknieaaaGreat.Spans

/-- A span: from a time to a time. -/
structure Sp where
  f : Nat
  t : Nat
  hf : f < 4294967296
  ht : t < 4294967296
theorem Sp.ext' {a b : Sp} (h1 : a.f = b.f) (h2 : a.t = b.t) : a = b := by
  obtain ⟨f, t, _, _⟩ := a; obtain ⟨g, u, _, _⟩ := b
  simp only at h1 h2
  subst h1 h2
  rfl
theorem Sp.eq_iff {a b : Sp} : a = b ↔ a.f = b.f ∧ a.t = b.t := ⟨fun h => by rw [h]; exact ⟨rfl, rfl⟩, fun h => Sp.ext' h.1 h.2⟩
instance : DecidableEq Sp := fun a b => if h : a.f = b.f ∧ a.t = b.t then isTrue (Sp.eq_iff.2 h) else isFalse (fun e => h (Sp.eq_iff.1 e))
def zsp : Sp := ⟨0, 0, by decide, by decide⟩
/-- A span of two numbers, whatever they are. -/
def mk (f t : Nat) : Sp := ⟨f % 4294967296, t % 4294967296, Nat.mod_lt _ (by decide), Nat.mod_lt _ (by decide)⟩
theorem mk_f {f t : Nat} (h : f < 4294967296) : (mk f t).f = f := Nat.mod_eq_of_lt h
theorem mk_t {f t : Nat} (h : t < 4294967296) : (mk f t).t = t := Nat.mod_eq_of_lt h

/-- May a span be, by itself? -/
def Ok (x : Sp) : Prop := 1 ≤ x.f ∧ x.f ≤ x.t ∧ x.t ≤ 1073741824
instance (x : Sp) : Decidable (Ok x) := inferInstanceAs (Decidable (_ ∧ _))
/-- May spans be, but for how many? -/
def Fine : List Sp → Prop
  | [] => True
  | [x] => Ok x
  | x :: y :: l => Ok x ∧ x.t + 2 ≤ y.f ∧ Fine (y :: l)
theorem Fine.head {x : Sp} {l : List Sp} (h : Fine (x :: l)) : Ok x := by
  cases l with
  | nil => exact h
  | cons y l => exact h.1
theorem Fine.tail {x : Sp} {l : List Sp} (h : Fine (x :: l)) : Fine l := by
  cases l with
  | nil => trivial
  | cons y l => exact h.2.2
theorem Fine.all : ∀ {l : List Sp}, Fine l → ∀ x ∈ l, Ok x
  | [], _, x, hx => by simp at hx
  | y :: l, h, x, hx => by
    rw [List.mem_cons] at hx
    rcases hx with rfl | hx
    · exact h.head
    · exact Fine.all h.tail x hx
theorem Fine.far : ∀ {x : Sp} {l : List Sp}, Fine (x :: l) → ∀ y ∈ l, x.t + 2 ≤ y.f
  | _, [], _, y, hy => by simp at hy
  | x, z :: l, h, y, hy => by
    rw [List.mem_cons] at hy
    rcases hy with rfl | hy
    · exact h.2.1
    · have h1 := Fine.far h.2.2 y hy
      have h2 := h.2.1
      have h3 := h.2.2.head
      unfold Ok at h3
      omega
theorem Fine.cons {x : Sp} {l : List Sp} (hx : Ok x) (hl : Fine l) (h : ∀ y ∈ l, x.t + 2 ≤ y.f) : Fine (x :: l) := by
  cases l with
  | nil => exact hx
  | cons y l => exact ⟨hx, h y (by simp), hl⟩
theorem fine_append : ∀ {l m : List Sp}, Fine l → Fine m → (∀ a ∈ l, ∀ b ∈ m, a.t + 2 ≤ b.f) → Fine (l ++ m)
  | [], m, _, h, _ => h
  | x :: l, m, h1, h2, h => by
    rw [List.cons_append]
    refine Fine.cons h1.head (fine_append h1.tail h2 (fun a ha b hb => h a (by simp [ha]) b hb)) (fun y hy => ?_)
    rw [List.mem_append] at hy
    rcases hy with hy | hy
    · exact h1.far y hy
    · exact h x (by simp) y hy

/-- Has it the time? -/
def In (l : List Sp) (n : Nat) : Prop := ∃ x ∈ l, x.f ≤ n ∧ n ≤ x.t
def inB : List Sp → Nat → Bool
  | [], _ => false
  | x :: l, n => decide (x.f ≤ n ∧ n ≤ x.t) || inB l n
theorem inB_iff : ∀ (l : List Sp) (n : Nat), inB l n = true ↔ In l n
  | [], n => by simp [inB, In]
  | x :: l, n => by
    have ih := inB_iff l n
    unfold In at ih ⊢
    simp [inB, ih]
instance (l : List Sp) (n : Nat) : Decidable (In l n) := decidable_of_iff _ (inB_iff l n)
theorem in_nil (n : Nat) : ¬ In [] n := by simp [In]
theorem in_cons {x : Sp} {l : List Sp} {n : Nat} : In (x :: l) n ↔ (x.f ≤ n ∧ n ≤ x.t) ∨ In l n := by simp [In]
theorem in_append {l m : List Sp} {n : Nat} : In (l ++ m) n ↔ In l n ∨ In m n := by
  induction l with
  | nil => simp [in_nil]
  | cons x l ih => rw [List.cons_append, in_cons, in_cons, ih]; constructor <;> (intro h; rcases h with h | h) <;> first | exact .inl (.inl h) | exact .inl h | (rcases h with h | h; exact .inl (.inr h); exact .inr h) | exact .inr (.inl h) | exact .inr (.inr h) | (rcases h with h | h; exact .inl h; exact .inr (.inl h)) | skip
theorem in_far {x : Sp} {l : List Sp} (h : Fine (x :: l)) {n : Nat} (hn : In l n) : x.t + 2 ≤ n := by
  obtain ⟨y, hy, h1, _⟩ := hn
  have := h.far y hy
  omega
/-- A set is written in one way alone. -/
theorem uniq : ∀ {l m : List Sp}, Fine l → Fine m → (∀ n, In l n ↔ In m n) → l = m
  | [], [], _, _, _ => rfl
  | [], y :: m, _, h2, h => by
    have h3 := h2.head
    unfold Ok at h3
    exact absurd ((h y.f).2 (in_cons.2 (.inl ⟨by omega, by omega⟩))) (in_nil _)
  | x :: l, [], h1, _, h => by
    have h3 := h1.head
    unfold Ok at h3
    exact absurd ((h x.f).1 (in_cons.2 (.inl ⟨by omega, by omega⟩))) (in_nil _)
  | x :: l, y :: m, h1, h2, h => by
    have hx := h1.head
    have hy := h2.head
    unfold Ok at hx hy
    have least : ∀ {x y : Sp} {l m : List Sp}, Fine (x :: l) → Fine (y :: m) → Ok x → (∀ n, In (x :: l) n → In (y :: m) n) → y.f ≤ x.f := by
      intro x y l m h1 h2 hx h
      have := h x.f (in_cons.2 (.inl ⟨Nat.le_refl _, hx.2.1⟩))
      rcases in_cons.1 this with h3 | h3
      · exact h3.1
      · have h4 := in_far h2 h3
        have h5 := h2.head
        unfold Ok at h5
        omega
    have most : ∀ {x y : Sp} {l m : List Sp}, Fine (x :: l) → Fine (y :: m) → x.f = y.f → (∀ n, In (y :: m) n → In (x :: l) n) → y.t ≤ x.t := by
      intro x y l m h1 h2 hf h
      have hx := h1.head
      have hy := h2.head
      unfold Ok at hx hy
      by_cases hlt : x.t < y.t
      · have := h (x.t + 1) (in_cons.2 (.inl ⟨by omega, by omega⟩))
        rcases in_cons.1 this with h3 | h3
        · omega
        · have h4 := in_far h1 h3
          omega
      · omega
    have hf : x.f = y.f := by
      have a := least h1 h2 h1.head (fun n => (h n).1)
      have b := least h2 h1 h2.head (fun n => (h n).2)
      omega
    have ht : x.t = y.t := by
      have a := most h1 h2 hf (fun n => (h n).2)
      have b := most h2 h1 hf.symm (fun n => (h n).1)
      omega
    have e : x = y := Sp.ext' hf ht
    subst e
    congr 1
    refine uniq h1.tail h2.tail (fun n => ?_)
    constructor
    · intro hn
      have h3 := in_far h1 hn
      rcases in_cons.1 ((h n).1 (in_cons.2 (.inr hn))) with h4 | h4
      · omega
      · exact h4
    · intro hn
      have h3 := in_far h2 hn
      rcases in_cons.1 ((h n).2 (in_cons.2 (.inr hn))) with h4 | h4
      · omega
      · exact h4

/-! ### One put to them -/

/-- Two spans that touch, as one. -/
def mrg (y x : Sp) : Sp := ⟨min x.f y.f, max x.t y.t, by have := x.hf; omega, by have := x.ht; have := y.ht; omega⟩
/-- One put to spans, in order. -/
def ins : List Sp → Sp → List Sp
  | [], x => [x]
  | y :: l, x => if y.t + 1 < x.f then y :: ins l x else if x.t + 1 < y.f then x :: y :: l else ins l (mrg y x)
theorem mrg_ok {x y : Sp} (hx : Ok x) (hy : Ok y) : Ok (mrg y x) := by
  unfold Ok mrg at *; simp only; omega
theorem in_mrg {x y : Sp} (h1 : ¬ y.t + 1 < x.f) (h2 : ¬ x.t + 1 < y.f) (n : Nat) : ((mrg y x).f ≤ n ∧ n ≤ (mrg y x).t) ↔ (y.f ≤ n ∧ n ≤ y.t) ∨ (x.f ≤ n ∧ n ≤ x.t) := by
  unfold mrg; simp only; omega
theorem in_ins : ∀ {l : List Sp} {x : Sp}, Fine l → Ok x → ∀ n, In (ins l x) n ↔ In l n ∨ (x.f ≤ n ∧ n ≤ x.t)
  | [], x, _, _, n => by
    simp only [ins, in_cons]
    have := in_nil n
    constructor
    · rintro (h | h)
      · exact .inr h
      · exact absurd h this
    · rintro (h | h)
      · exact absurd h this
      · exact .inl h
  | y :: l, x, h, hx, n => by
    unfold ins
    by_cases h1 : y.t + 1 < x.f
    · rw [if_pos h1, in_cons, in_cons, in_ins h.tail hx n]
      constructor
      · rintro (h2 | h2 | h2)
        · exact .inl (.inl h2)
        · exact .inl (.inr h2)
        · exact .inr h2
      · rintro ((h2 | h2) | h2)
        · exact .inl h2
        · exact .inr (.inl h2)
        · exact .inr (.inr h2)
    · rw [if_neg h1]
      by_cases h2 : x.t + 1 < y.f
      · rw [if_pos h2, in_cons]
        exact ⟨fun h => h.symm, fun h => h.symm⟩
      · rw [if_neg h2, in_ins h.tail (mrg_ok hx h.head) n, in_mrg h1 h2 n, in_cons]
        constructor
        · rintro (h3 | h3 | h3)
          · exact .inl (.inr h3)
          · exact .inl (.inl h3)
          · exact .inr h3
        · rintro ((h3 | h3) | h3)
          · exact .inr (.inl h3)
          · exact .inl h3
          · exact .inr (.inr h3)
theorem ins_low : ∀ {l : List Sp} {x : Sp} {b : Nat}, (∀ y ∈ l, b ≤ y.f) → b ≤ x.f → ∀ y ∈ ins l x, b ≤ y.f
  | [], x, b, _, h2, y, hy => by simp only [ins, List.mem_singleton] at hy; subst hy; exact h2
  | z :: l, x, b, h1, h2, y, hy => by
    unfold ins at hy
    by_cases g1 : z.t + 1 < x.f
    · rw [if_pos g1, List.mem_cons] at hy
      rcases hy with rfl | hy
      · exact h1 y (by simp)
      · exact ins_low (fun u hu => h1 u (by simp [hu])) h2 y hy
    · rw [if_neg g1] at hy
      by_cases g2 : x.t + 1 < z.f
      · rw [if_pos g2, List.mem_cons] at hy
        rcases hy with rfl | hy
        · exact h2
        · exact h1 y hy
      · rw [if_neg g2] at hy
        refine ins_low (fun u hu => h1 u (by simp [hu])) ?_ y hy
        have := h1 z (by simp)
        unfold mrg; simp only; omega
theorem ins_fine : ∀ {l : List Sp} {x : Sp}, Fine l → Ok x → Fine (ins l x)
  | [], _, _, hx => hx
  | y :: l, x, h, hx => by
    unfold ins
    by_cases h1 : y.t + 1 < x.f
    · rw [if_pos h1]
      exact Fine.cons h.head (ins_fine h.tail hx) (ins_low h.far (by omega))
    · rw [if_neg h1]
      by_cases h2 : x.t + 1 < y.f
      · rw [if_pos h2]
        exact ⟨hx, by omega, h⟩
      · rw [if_neg h2]
        exact ins_fine h.tail (mrg_ok hx h.head)
theorem ins_len : ∀ (l : List Sp) (x : Sp), (ins l x).length ≤ l.length + 1
  | [], _ => by simp [ins]
  | y :: l, x => by
    unfold ins
    by_cases h1 : y.t + 1 < x.f
    · rw [if_pos h1]; have := ins_len l x; simp; omega
    · rw [if_neg h1]
      by_cases h2 : x.t + 1 < y.f
      · rw [if_pos h2]; simp
      · rw [if_neg h2]; have := ins_len l (mrg y x); simp; omega
/-- The same in three goes: those ahead, the ones that touch, those behind. -/
def gat : List Sp → Sp → Sp
  | [], x => x
  | y :: l, x => if x.f ≤ y.t + 1 ∧ y.f ≤ x.t + 1 then gat l (mrg y x) else gat l x
def three (l : List Sp) (x : Sp) : List Sp := l.filter (fun y => decide (y.t + 1 < x.f)) ++ gat l x :: l.filter (fun y => decide ((gat l x).t + 1 < y.f))
theorem gat_t : ∀ (l : List Sp) (x : Sp), x.t ≤ (gat l x).t
  | [], x => Nat.le_refl _
  | y :: l, x => by
    unfold gat
    split
    · have := gat_t l (mrg y x)
      unfold mrg at this ⊢
      simp only at this ⊢
      omega
    · exact gat_t l x
theorem filter_none {l : List Sp} {p : Sp → Bool} (h : ∀ y ∈ l, p y = false) : l.filter p = [] := by
  rw [List.filter_eq_nil_iff]
  intro y hy
  rw [h y hy]
  simp
theorem filter_all {l : List Sp} {p : Sp → Bool} (h : ∀ y ∈ l, p y = true) : l.filter p = l := List.filter_eq_self.2 h
theorem gat_far : ∀ {l : List Sp} {x : Sp}, (∀ y ∈ l, x.t + 1 < y.f) → gat l x = x
  | [], _, _ => rfl
  | y :: l, x, h => by
    unfold gat
    have := h y (by simp)
    rw [if_neg (by omega)]
    exact gat_far (fun z hz => h z (by simp [hz]))
theorem three_ins : ∀ {l : List Sp} {x : Sp}, Fine l → Ok x → three l x = ins l x
  | [], x, _, _ => rfl
  | y :: l, x, h, hx => by
    have hy := h.head
    have hok := h.tail.all
    have hfar := h.far
    unfold Ok at hx hy
    unfold ins
    by_cases h1 : y.t + 1 < x.f
    · rw [if_pos h1, ← three_ins h.tail hx]
      have hg : gat (y :: l) x = gat l x := by
        show (if x.f ≤ y.t + 1 ∧ y.f ≤ x.t + 1 then gat l (mrg y x) else gat l x) = _
        rw [if_neg (by omega)]
      have ht := gat_t l x
      unfold three
      rw [hg, List.filter_cons, if_pos (by simpa using h1), List.filter_cons, if_neg (by simp; omega), List.cons_append]
    · rw [if_neg h1]
      by_cases h2 : x.t + 1 < y.f
      · rw [if_pos h2]
        have hall : ∀ z ∈ y :: l, x.t + 1 < z.f := by
          intro z hz
          rw [List.mem_cons] at hz
          rcases hz with rfl | hz
          · exact h2
          · have := hfar z hz; omega
        unfold three
        rw [gat_far hall, filter_none, filter_all]
        · rfl
        · intro z hz; simpa using hall z hz
        · intro z hz
          have h3 := hall z hz
          have h4 := h.all z hz
          unfold Ok at h4
          simp; omega
      · rw [if_neg h2, ← three_ins h.tail (mrg_ok hx hy)]
        have hg : gat (y :: l) x = gat l (mrg y x) := by
          show (if x.f ≤ y.t + 1 ∧ y.f ≤ x.t + 1 then gat l (mrg y x) else gat l x) = _
          rw [if_pos (by omega)]
        have ht := gat_t l (mrg y x)
        have hm : y.t ≤ (mrg y x).t ∧ (mrg y x).f ≤ x.f := by unfold mrg; simp only; omega
        unfold three
        have e1 : (y :: l).filter (fun z => decide (z.t + 1 < x.f)) = [] := by
          refine filter_none (fun z hz => ?_)
          rw [List.mem_cons] at hz
          rcases hz with rfl | hz
          · simpa using h1
          · have h3 := hfar z hz
            have h4 := hok z hz
            unfold Ok at h4
            simp; omega
        have e2 : l.filter (fun z => decide (z.t + 1 < (mrg y x).f)) = [] := by
          refine filter_none (fun z hz => ?_)
          have h3 := hfar z hz
          have h4 := hok z hz
          unfold Ok at h4
          simp; omega
        rw [hg, e1, e2, List.filter_cons, if_neg (by simp; omega)]

/-! ### One taken away -/

/-- What is left of one. -/
def rem (y x : Sp) : List Sp :=
  if y.t < x.f ∨ x.t < y.f then [y] else (if y.f < x.f then [mk y.f (x.f - 1)] else []) ++ (if x.t < y.t then [mk (x.t + 1) y.t] else [])
def del : List Sp → Sp → List Sp
  | [], _ => []
  | y :: l, x => rem y x ++ del l x
/-! ### All of one put to another one, taken away -/

def both : List Sp → List Sp → List Sp
  | a, [] => a
  | a, x :: b => both (ins a x) b
def left : List Sp → List Sp → List Sp
  | a, [] => a
  | a, x :: b => left (del a x) b
theorem both_ok : ∀ {b a : List Sp}, Fine a → (∀ x ∈ b, Ok x) → Fine (both a b) ∧ ∀ n, In (both a b) n ↔ In a n ∨ In b n
  | [], a, h, _ => ⟨h, fun n => by simp [both, in_nil]⟩
  | x :: b, a, h, hb => by
    have hx := hb x (by simp)
    have ih := both_ok (b := b) (ins_fine h hx) (fun y hy => hb y (by simp [hy]))
    refine ⟨ih.1, fun n => ?_⟩
    show In (both (ins a x) b) n ↔ _
    rw [ih.2 n, in_ins h hx n, in_cons]
    constructor
    · rintro ((h1 | h1) | h1)
      · exact .inl h1
      · exact .inr (.inl h1)
      · exact .inr (.inr h1)
    · rintro (h1 | h1 | h1)
      · exact .inl (.inl h1)
      · exact .inl (.inr h1)
      · exact .inr h1
/-! ### How many times -/

def many : List Sp → Nat
  | [] => 0
  | x :: l => x.t - x.f + 1 + many l
end Go.Proofs.YtdackenaknieaaaGreat.Spans

/- Spans, as Bools, and taken one by one. Conditions: none. -/
namespace Go.Proofs.YtdackenaknieaaaGreat.Spans

def fineB : List Sp → Bool
  | [] => true
  | [x] => decide (Ok x)
  | x :: y :: l => decide (Ok x) && (decide (x.t + 2 ≤ y.f) && fineB (y :: l))
theorem fineB_iff : ∀ l : List Sp, fineB l = true ↔ Fine l
  | [] => by simp [fineB, Fine]
  | [x] => by simp [fineB, Fine]
  | x :: y :: l => by simp [fineB, Fine, fineB_iff (y :: l)]
/-- May spans be? -/
def mayB (l : List Sp) : Bool := fineB l && decide (l.length ≤ 1024)
theorem mayB_iff (l : List Sp) : mayB l = true ↔ Fine l ∧ l.length ≤ 1024 := by simp [mayB, fineB_iff]
theorem mayB_no {l : List Sp} (h : ¬ Fine l) : mayB l = false := by
  cases hb : mayB l
  · rfl
  · exact absurd ((mayB_iff l).1 hb).1 h
theorem fine_ok : ∀ {l : List Sp} {k : Nat}, Fine l → k < l.length → Ok (l.getD k zsp)
  | [], k, _, h => by simp at h
  | x :: l, 0, h, _ => by simpa using h.head
  | x :: l, k + 1, h, hk => by simpa using fine_ok (k := k) h.tail (by simpa using hk)
theorem take_snoc (l : List Sp) (k : Nat) (h : k < l.length) : l.take (k + 1) = l.take k ++ [l.getD k zsp] := by
  rw [List.take_succ_eq_append_getElem h]
  simp [List.getD, List.getElem?_eq_getElem h]
theorem fine_front : ∀ {p q : List Sp}, Fine (p ++ q) → Fine p
  | [], _, _ => trivial
  | [_], _, h => h.head
  | _ :: y :: p, _, h => ⟨h.1, h.2.1, fine_front (p := y :: p) h.2.2⟩
theorem gat_snoc : ∀ (l : List Sp) (x y : Sp), gat (l ++ [y]) x = if (gat l x).f ≤ y.t + 1 ∧ y.f ≤ (gat l x).t + 1 then mrg y (gat l x) else gat l x
  | [], _, _ => rfl
  | z :: l, x, y => by
    rw [List.cons_append]
    show (if x.f ≤ z.t + 1 ∧ z.f ≤ x.t + 1 then gat (l ++ [y]) (mrg z x) else gat (l ++ [y]) x) = _
    by_cases h : x.f ≤ z.t + 1 ∧ z.f ≤ x.t + 1
    · rw [if_pos h, gat_snoc l (mrg z x) y]
      have e : gat (z :: l) x = gat l (mrg z x) := by
        show (if x.f ≤ z.t + 1 ∧ z.f ≤ x.t + 1 then gat l (mrg z x) else gat l x) = _
        rw [if_pos h]
      rw [e]
    · rw [if_neg h, gat_snoc l x y]
      have e : gat (z :: l) x = gat l x := by
        show (if x.f ≤ z.t + 1 ∧ z.f ≤ x.t + 1 then gat l (mrg z x) else gat l x) = _
        rw [if_neg h]
      rw [e]
theorem gat_ok : ∀ {l : List Sp} {x : Sp}, (∀ y ∈ l, Ok y) → Ok x → Ok (gat l x)
  | [], _, _, hx => hx
  | y :: l, x, h, hx => by
    unfold gat
    split
    · exact gat_ok (fun z hz => h z (by simp [hz])) (mrg_ok hx (h y (by simp)))
    · exact gat_ok (fun z hz => h z (by simp [hz])) hx
theorem both_snoc : ∀ (b a : List Sp) (x : Sp), both a (b ++ [x]) = ins (both a b) x
  | [], _, _ => rfl
  | y :: b, a, x => both_snoc b (ins a y) x
theorem both_len : ∀ (b a : List Sp), (both a b).length ≤ a.length + b.length
  | [], _ => by simp [both]
  | x :: b, a => by have h1 := both_len b (ins a x); have h2 := ins_len a x; simp only [both, List.length_cons]; omega
end Go.Proofs.YtdackenaknieaaaGreat.Spans

/- Clocks as lists of a replica and its spans, in Lean alone: one way of writing, joins, what is left, how many, up to when. -/
namespace Go.Proofs.YtdackenaknieaaaGreat.Clocks
open Go.Proofs.YtdackenaknieaaaGreat.Spans

/-- A replica and its spans. -/
abbrev Tm := Nat × List Sp

/-- Replicas from lo on, ascending, each with spans that may be. -/
def Up : Nat → List Tm → Prop
  | _, [] => True
  | lo, x :: c => lo ≤ x.1 ∧ x.1 < 8 ∧ x.2 ≠ [] ∧ mayB x.2 = true ∧ Up (x.1 + 1) c
/-- May the clock be? -/
def Cok (c : List Tm) : Prop := Up 0 c
/-- A replica's spans. -/
def spn : List Tm → Nat → List Sp
  | [], _ => []
  | x :: c, r => if x.1 = r then x.2 else spn c r
theorem up_mono {c : List Tm} {lo lo' : Nat} (h : Up lo c) (hl : lo' ≤ lo) : Up lo' c := by
  cases c with
  | nil => trivial
  | cons x c => exact ⟨Nat.le_trans hl h.1, h.2⟩
theorem spn_low : ∀ {c : List Tm} {lo r : Nat}, Up lo c → r < lo → spn c r = []
  | [], _, _, _, _ => rfl
  | x :: c, lo, r, h, hr => by
    unfold spn
    rw [if_neg (by have := h.1; omega)]
    exact spn_low h.2.2.2.2 (by have := h.1; omega)
theorem spn_high : ∀ {c : List Tm} {lo r : Nat}, Up lo c → 8 ≤ r → spn c r = []
  | [], _, _, _, _ => rfl
  | x :: c, lo, r, h, hr => by
    unfold spn
    rw [if_neg (by have := h.2.1; omega)]
    exact spn_high h.2.2.2.2 hr
theorem spn_may : ∀ {c : List Tm} {lo : Nat}, Up lo c → ∀ r, mayB (spn c r) = true
  | [], _, _, _ => rfl
  | x :: c, lo, h, r => by
    unfold spn
    split
    · exact h.2.2.2.1
    · exact spn_may h.2.2.2.2 r
/-- A clock is written in one way alone. -/
theorem up_ext : ∀ {c d : List Tm} {lo : Nat}, Up lo c → Up lo d → (∀ r, spn c r = spn d r) → c = d
  | [], [], _, _, _, _ => rfl
  | [], y :: d, _, _, hd, h => by
    have := h y.1
    unfold spn at this
    rw [if_pos rfl] at this
    exact absurd this.symm hd.2.2.1
  | x :: c, [], _, hc, _, h => by
    have := h x.1
    unfold spn at this
    rw [if_pos rfl] at this
    exact absurd this hc.2.2.1
  | x :: c, y :: d, lo, hc, hd, h => by
    have hx : spn (x :: c) x.1 = x.2 := by unfold spn; rw [if_pos rfl]
    have hy : spn (y :: d) y.1 = y.2 := by unfold spn; rw [if_pos rfl]
    have e1 : x.1 = y.1 := by
      rcases Nat.lt_trichotomy x.1 y.1 with q | q | q
      · have : spn (y :: d) x.1 = [] := spn_low (lo := y.1) ⟨Nat.le_refl _, hd.2⟩ q
        rw [← h, hx] at this
        exact absurd this hc.2.2.1
      · exact q
      · have : spn (x :: c) y.1 = [] := spn_low (lo := x.1) ⟨Nat.le_refl _, hc.2⟩ q
        rw [h, hy] at this
        exact absurd this hd.2.2.1
    have e2 : x.2 = y.2 := by rw [← hx, ← hy, h, e1]
    have e3 : c = d := by
      refine up_ext (lo := x.1 + 1) hc.2.2.2.2 (by rw [e1]; exact hd.2.2.2.2) fun r => ?_
      by_cases q : x.1 = r
      · rw [spn_low hc.2.2.2.2 (by omega), spn_low hd.2.2.2.2 (by omega)]
      · have := h r
        unfold spn at this
        rwa [if_neg q, if_neg (by omega)] at this
    rw [e3, Prod.ext e1 e2]

/-- The clock of k replicas' spans, from lo on. -/
def clkFrom (g : Nat → List Sp) : Nat → Nat → List Tm
  | _, 0 => []
  | lo, k + 1 => if g lo = [] then clkFrom g (lo + 1) k else (lo, g lo) :: clkFrom g (lo + 1) k
def clk (g : Nat → List Sp) : List Tm := clkFrom g 0 8
theorem clkFrom_up {g : Nat → List Sp} (hg : ∀ r, mayB (g r) = true) : ∀ (k lo : Nat), lo + k ≤ 8 → Up lo (clkFrom g lo k)
  | 0, _, _ => trivial
  | k + 1, lo, h => by
    unfold clkFrom
    split
    · exact up_mono (clkFrom_up hg k (lo + 1) (by omega)) (Nat.le_succ _)
    · rename_i q
      exact ⟨Nat.le_refl _, by show lo < 8; omega, q, hg lo, clkFrom_up hg k (lo + 1) (by omega)⟩
theorem spn_clkFrom (g : Nat → List Sp) : ∀ (k lo r : Nat), spn (clkFrom g lo k) r = if lo ≤ r ∧ r < lo + k then g r else []
  | 0, lo, r => by rw [if_neg (by omega)]; rfl
  | k + 1, lo, r => by
    have ih := spn_clkFrom g k (lo + 1) r
    unfold clkFrom
    by_cases q : g lo = []
    · rw [if_pos q, ih]
      by_cases e : r = lo
      · subst e
        rw [if_neg (by omega), if_pos (by omega), q]
      · by_cases e2 : lo + 1 ≤ r ∧ r < lo + 1 + k
        · rw [if_pos e2, if_pos (by omega)]
        · rw [if_neg e2, if_neg (by omega)]
    · rw [if_neg q]
      unfold spn
      by_cases e : lo = r
      · subst e
        rw [if_pos rfl, if_pos (by omega)]
      · rw [if_neg e, ih]
        by_cases e2 : lo + 1 ≤ r ∧ r < lo + 1 + k
        · rw [if_pos e2, if_pos (by omega)]
        · rw [if_neg e2, if_neg (by omega)]
theorem clk_ok {g : Nat → List Sp} (hg : ∀ r, mayB (g r) = true) : Cok (clk g) := clkFrom_up hg 8 0 (by omega)
theorem spn_clk (g : Nat → List Sp) (r : Nat) : spn (clk g) r = if r < 8 then g r else [] := by
  unfold clk
  rw [spn_clkFrom]
  by_cases h : r < 8
  · rw [if_pos (by omega), if_pos h]
  · rw [if_neg (by omega), if_neg h]
theorem clk_spn {c : List Tm} (h : Cok c) : clk (spn c) = c := by
  refine up_ext (clk_ok (spn_may h)) h fun r => ?_
  rw [spn_clk]
  split
  · rfl
  · exact (spn_high h (by omega)).symm
/-- The greatest time of spans, and of a clock. -/
def top : List Sp → Nat
  | [] => 0
  | x :: l => max x.t (top l)
end Go.Proofs.YtdackenaknieaaaGreat.Clocks

/- Clocks taken one by one, whether they may be, as a Bool; the clock of stamps, and the stamps of a clock. Conditions: none. -/
namespace Go.Proofs.YtdackenaknieaaaGreat.Clocks
open Go.Proofs.YtdackenaknieaaaGreat.Spans

def ztm : Tm := (0, [])
theorem up_front : ∀ {c d : List Tm} {lo : Nat}, Up lo (c ++ d) → Up lo c
  | [], _, _, _ => trivial
  | _ :: _, _, _, h => ⟨h.1, h.2.1, h.2.2.1, h.2.2.2.1, up_front h.2.2.2.2⟩
theorem up_take {c : List Tm} {lo : Nat} (h : Up lo c) (k : Nat) : Up lo (c.take k) := by
  have := List.take_append_drop k c
  rw [← this] at h
  exact up_front h
theorem up_snoc : ∀ {c : List Tm} {x : Tm} {lo : Nat}, Up lo c → (∀ y ∈ c, y.1 < x.1) → lo ≤ x.1 → x.1 < 8 → x.2 ≠ [] → mayB x.2 = true → Up lo (c ++ [x])
  | [], x, lo, _, _, h1, h2, h3, h4 => ⟨h1, h2, h3, h4, trivial⟩
  | y :: c, x, lo, h, hl, h1, h2, h3, h4 => by
    have := hl y (by simp)
    exact ⟨h.1, h.2.1, h.2.2.1, h.2.2.2.1, up_snoc h.2.2.2.2 (fun z hz => hl z (by simp [hz])) (by omega) h2 h3 h4⟩
theorem spn_hit : ∀ {c : List Tm} {k r : Nat}, (∀ j, j < k → (c.getD j ztm).1 ≠ r) → k < c.length → (c.getD k ztm).1 = r → spn c r = (c.getD k ztm).2
  | [], k, _, _, h, _ => by simp at h
  | x :: c, 0, r, _, _, h => by
    unfold spn
    rw [if_pos (by simpa using h)]
    simp
  | x :: c, k + 1, r, hn, hk, h => by
    unfold spn
    have h0 := hn 0 (by omega)
    rw [if_neg (by simpa using h0)]
    have := spn_hit (c := c) (k := k) (r := r) (fun j hj => by have := hn (j + 1) (by omega); simpa using this) (by simpa using hk) (by simpa using h)
    simpa using this
theorem spn_miss : ∀ {c : List Tm} {r : Nat}, (∀ j, j < c.length → (c.getD j ztm).1 ≠ r) → spn c r = []
  | [], _, _ => rfl
  | x :: c, r, h => by
    unfold spn
    have h0 := h 0 (by simp)
    rw [if_neg (by simpa using h0)]
    exact spn_miss fun j hj => by have := h (j + 1) (by simpa using hj); simpa using this
theorem clkFrom_snoc (g : Nat → List Sp) : ∀ (k lo : Nat), clkFrom g lo (k + 1) = clkFrom g lo k ++ (if g (lo + k) = [] then [] else [(lo + k, g (lo + k))])
  | 0, lo => by
    simp only [clkFrom, Nat.add_zero, List.nil_append]
  | k + 1, lo => by
    have ih := clkFrom_snoc g k (lo + 1)
    rw [show lo + (k + 1) = lo + 1 + k by omega]
    show (if g lo = [] then clkFrom g (lo + 1) (k + 1) else (lo, g lo) :: clkFrom g (lo + 1) (k + 1)) = (if g lo = [] then clkFrom g (lo + 1) k else (lo, g lo) :: clkFrom g (lo + 1) k) ++ _
    rw [ih]
    by_cases q : g lo = []
    · rw [if_pos q, if_pos q]
    · rw [if_neg q, if_neg q, List.cons_append]
theorem clkFrom_len (g : Nat → List Sp) : ∀ (k lo : Nat), (clkFrom g lo k).length ≤ k
  | 0, _ => Nat.le_refl _
  | k + 1, lo => by
    have := clkFrom_len g k (lo + 1)
    unfold clkFrom
    split
    · omega
    · simp; omega

/-- The clock of a stamp. -/
def one (a : Id) : List Tm := [(a.r, [mk a.t a.t])]
/-- Two together, one without another one. -/
def bothC (a b : List Tm) : List Tm := clk fun r => both (spn a r) (spn b r)
/-- No replica has too many spans. -/
def Few (a b : List Tm) : Prop := ∀ r, (spn a r).length + (spn b r).length ≤ 1024
theorem few_may {a b : List Tm} (ha : Cok a) (hb : Cok b) (h : Few a b) (r : Nat) : mayB (both (spn a r) (spn b r)) = true := by
  have h1 := (mayB_iff _).1 (spn_may ha r)
  have h2 := (mayB_iff _).1 (spn_may hb r)
  exact (mayB_iff _).2 ⟨(both_ok h1.1 h2.1.all).1, Nat.le_trans (both_len _ _) (h r)⟩
theorem bothC_ok {a b : List Tm} (ha : Cok a) (hb : Cok b) (h : Few a b) : Cok (bothC a b) := clk_ok (few_may ha hb h)
theorem spn_bothC {a b : List Tm} (ha : Cok a) (hb : Cok b) (r : Nat) : spn (bothC a b) r = both (spn a r) (spn b r) := by
  unfold bothC
  rw [spn_clk]
  split
  · rfl
  · rw [spn_high ha (by omega), spn_high hb (by omega)]; rfl
/-- May a stamp be? -/
def mayI (a : Id) : Prop := 1 ≤ a.t ∧ a.t ≤ 1073741824 ∧ a.r < 8
instance (a : Id) : Decidable (mayI a) := inferInstanceAs (Decidable (_ ∧ _))
theorem one_sp {a : Id} (h : mayI a) : Ok (mk a.t a.t) := by
  have := a.ht
  unfold mayI at h
  unfold Ok
  rw [mk_f this, mk_t this]
  omega
theorem one_ok {a : Id} (h : mayI a) : Cok (one a) :=
  ⟨Nat.zero_le _, h.2.2, by simp, (mayB_iff _).2 ⟨one_sp h, by simp⟩, trivial⟩
theorem spn_one (a : Id) (r : Nat) : spn (one a) r = if a.r = r then [mk a.t a.t] else [] := by
  unfold one spn
  rfl
theorem spn_one_len (a : Id) (r : Nat) : (spn (one a) r).length ≤ 1 := by
  rw [spn_one]; split <;> simp

/-- The clock of some stamps. -/
def among : List Id → List Tm
  | l => l.foldl (fun c a => bothC c (one a)) []
theorem among_snoc (l : List Id) (a : Id) : among (l ++ [a]) = bothC (among l) (one a) := by unfold among; rw [List.foldl_append]; rfl
theorem list_snoc_ind {α : Type} {P : List α → Prop} (h0 : P []) (h1 : ∀ l a, P l → P (l ++ [a])) (l : List α) : P l := by
  have go : ∀ (n : Nat) (l : List α), l.length = n → P l := by
    intro n
    induction n with
    | zero => intro l h; rw [List.length_eq_zero_iff.1 h]; exact h0
    | succ n ih =>
      intro l h
      rcases List.eq_nil_or_concat l with rfl | ⟨m, x, rfl⟩
      · simp at h
      · rw [List.concat_eq_append] at h ⊢
        exact h1 m x (ih m (by simpa using h))
  exact go l.length l rfl
theorem among_ok (l : List Id) : (∀ a ∈ l, mayI a) → l.length ≤ 1024 → Cok (among l) ∧ (∀ r, (spn (among l) r).length ≤ l.length) ∧
    ∀ r n, In (spn (among l) r) n ↔ ∃ a ∈ l, a.r = r ∧ a.t = n := by
  refine list_snoc_ind (P := fun l => (∀ a ∈ l, mayI a) → l.length ≤ 1024 → Cok (among l) ∧ (∀ r, (spn (among l) r).length ≤ l.length) ∧ ∀ r n, In (spn (among l) r) n ↔ ∃ a ∈ l, a.r = r ∧ a.t = n) ?_ ?_ l
  · intro _ _
    refine ⟨trivial, fun r => Nat.zero_le _, fun r n => ?_⟩
    show In [] n ↔ _
    constructor
    · exact fun h => absurd h (in_nil n)
    · rintro ⟨a, ha, _⟩; simp at ha
  · intro l x ih hm hl
    rw [List.length_append, List.length_singleton] at hl
    obtain ⟨i1, i2, i3⟩ := ih (fun a ha => hm a (by simp [ha])) (by omega)
    have hx := hm x (by simp)
    have ho := one_ok hx
    have hfew : Few (among l) (one x) := fun r => by have := i2 r; have := spn_one_len x r; omega
    rw [among_snoc]
    refine ⟨bothC_ok i1 ho hfew, fun r => ?_, fun r n => ?_⟩
    · rw [spn_bothC i1 ho]
      have h1 := both_len (spn (one x) r) (spn (among l) r)
      have h2 := spn_one_len x r
      have h3 := i2 r
      rw [List.length_append, List.length_singleton]
      omega
    · have h1 := (mayB_iff _).1 (spn_may i1 r)
      have h2 := (mayB_iff _).1 (spn_may ho r)
      rw [spn_bothC i1 ho, (both_ok h1.1 h2.1.all).2 n, i3, spn_one]
      have hxt := x.ht
      constructor
      · rintro (⟨a, h3, h4⟩ | h3)
        · exact ⟨a, by simp [h3], h4⟩
        · by_cases q : x.r = r
          · rw [if_pos q, in_cons, mk_f hxt, mk_t hxt] at h3
            rcases h3 with h3 | h3
            · exact ⟨x, by simp, q, by omega⟩
            · exact absurd h3 (in_nil n)
          · rw [if_neg q] at h3; exact absurd h3 (in_nil n)
      · rintro ⟨a, h3, h4, h5⟩
        rw [List.mem_append, List.mem_singleton] at h3
        rcases h3 with h3 | rfl
        · exact .inl ⟨a, h3, h4, h5⟩
        · right
          rw [if_pos h4, in_cons, mk_f hxt, mk_t hxt]
          left; omega

/-! ### No more than both -/
/-! ### The stamps of a clock -/
end Go.Proofs.YtdackenaknieaaaGreat.Clocks

/- What clocks' calls answer, as plain functions; what follows. Conditions: none. -/
namespace Go.Proofs.YtdackenaknieaaaGreat.Clocks
open Go.Proofs.YtdackenaknieaaaGreat.Spans

def allMay (l : List Id) : Bool := l.all fun a => decide (mayI a)
theorem allMay_iff (l : List Id) : allMay l = true ↔ ∀ a ∈ l, mayI a := by simp [allMay]
def ofC (l : List Id) : List Tm × Int := if 1024 < l.length then ([], 4) else if allMay l = true then (among l, 0) else ([], 8)
/-- How many spans in all. -/
def tot : List Tm → Nat
  | [] => 0
  | x :: c => x.2.length + tot c
/-! ### Joining -/
theorem sp_fine {c : List Tm} (h : Cok c) (r : Nat) : Fine (spn c r) := ((mayB_iff _).1 (spn_may h r)).1
end Go.Proofs.YtdackenaknieaaaGreat.Clocks

/- Bags in plain words: which may be, one more in its place, two together, without stamps. Conditions: none. -/
namespace Go.Proofs.YtdackenaknieaaaGreat.Bags
open Ops Stamp

def idO (o : Opn) : Id := ⟨o.t, o.r, o.ht, o.hr⟩
theorem idO_eq {a b : Opn} : idO a = idO b ↔ a.t = b.t ∧ a.r = b.r := by rw [Id.eq_iff]; rfl
/-- Is one's stamp less? -/
def lessO (a b : Opn) : Prop := a.t < b.t ∨ a.t = b.t ∧ a.r < b.r
instance (a b : Opn) : Decidable (lessO a b) := inferInstanceAs (Decidable (_ ∨ _))
theorem lessO_trans {a b c : Opn} (h : lessO a b) (k : lessO b c) : lessO a c := by unfold lessO at *; omega
theorem lessO_ne {a b : Opn} (h : lessO a b) : idO a ≠ idO b := by rw [Ne, idO_eq]; unfold lessO at h; omega
theorem pw_adj : ∀ {l : List Opn}, (∀ k (h : k + 1 < l.length), lessO (l[k]'(by omega)) (l[k + 1]'h)) → l.Pairwise lessO
  | [], _ => .nil
  | [a], _ => List.pairwise_singleton _ _
  | a :: b :: l, h => by
    have ih := pw_adj (l := b :: l) (fun k hk => h (k + 1) (by simpa using hk))
    refine List.Pairwise.cons (fun x hx => ?_) ih
    have h0 : lessO a b := by simpa using h 0 (by simp)
    rcases List.mem_cons.1 hx with rfl | hx
    · exact h0
    · exact lessO_trans h0 ((List.pairwise_cons.1 ih).1 x hx)
/-- A bag that may be. -/
def Bag (l : List Opn) : Prop := l.length ≤ 1024 ∧ (∀ o ∈ l, mayO o = true) ∧ l.Pairwise lessO
instance (l : List Opn) : Decidable (Bag l) := inferInstanceAs (Decidable (_ ∧ _))
def bagB (l : List Opn) : Bool := decide (Bag l)
theorem bagB_iff (l : List Opn) : bagB l = true ↔ Bag l := by simp [bagB]
theorem bagB_no {l : List Opn} (h : ¬ Bag l) : bagB l = false := by simp [bagB, h]
def chkL (l : List Opn) : Int := if bagB l = true then 0 else 8
/-- Each member by its stamp is one. -/
theorem pw_one : ∀ {l : List Opn}, l.Pairwise lessO → ∀ {a b : Opn}, a ∈ l → b ∈ l → idO a = idO b → a = b
  | [], _, _, _, h, _, _ => by simp at h
  | x :: l, hp, a, b, ha, hb, e => by
    have hp' := List.pairwise_cons.1 hp
    rcases List.mem_cons.1 ha with rfl | ha2
    · rcases List.mem_cons.1 hb with rfl | hb2
      · rfl
      · exact absurd e (lessO_ne (hp'.1 _ hb2))
    · rcases List.mem_cons.1 hb with rfl | hb2
      · exact absurd e.symm (lessO_ne (hp'.1 _ ha2))
      · exact pw_one hp'.2 ha2 hb2 e
/-! ### One by its stamp -/
def findO : List Opn → Id → Option Opn
  | [], _ => none
  | x :: l, a => if idO x = a then some x else findO l a
theorem findO_some : ∀ {l : List Opn} {a : Id} {o : Opn}, findO l a = some o → o ∈ l ∧ idO o = a
  | [], _, _, h => by simp [findO] at h
  | x :: l, a, o, h => by
    unfold findO at h
    by_cases e : idO x = a
    · rw [if_pos e] at h
      cases h
      exact ⟨by simp, e⟩
    · rw [if_neg e] at h
      obtain ⟨h1, h2⟩ := findO_some h
      exact ⟨by simp [h1], h2⟩
theorem findO_none : ∀ {l : List Opn} {a : Id}, findO l a = none ↔ ∀ o ∈ l, idO o ≠ a
  | [], _ => by simp [findO]
  | x :: l, a => by
    unfold findO
    by_cases e : idO x = a
    · rw [if_pos e]; simp [e]
    · rw [if_neg e, findO_none]; simp [e]
theorem findO_mem {l : List Opn} (hp : l.Pairwise lessO) {o : Opn} (h : o ∈ l) : findO l (idO o) = some o := by
  cases hf : findO l (idO o) with
  | none => exact absurd rfl (findO_none.1 hf o h)
  | some x => rw [pw_one hp (findO_some hf).1 h (findO_some hf).2]
theorem findO_at : ∀ {l : List Opn} {a : Id} (k : Nat) (hk : k < l.length), (∀ j (h : j < l.length), j < k → idO (l[j]'h) ≠ a) → idO (l[k]'hk) = a → findO l a = some (l[k]'hk)
  | x :: l, a, 0, _, _, e => by
    unfold findO
    rw [if_pos (show idO x = a from e)]
    rfl
  | x :: l, a, k + 1, hk, hn, e => by
    unfold findO
    rw [if_neg (show ¬ idO x = a from hn 0 (by simp) (by omega))]
    have := findO_at (l := l) (a := a) k (by simpa using hk) (fun j h hj => hn (j + 1) (by simpa using h) (by omega)) e
    exact this
def hasO (l : List Opn) (a : Id) : Bool := (findO l a).isSome
theorem hasO_iff {l : List Opn} {a : Id} : hasO l a = true ↔ ∃ o ∈ l, idO o = a := by
  unfold hasO
  cases h : findO l a with
  | none => simp; exact fun o ho => findO_none.1 h o ho
  | some x => simp; exact ⟨x, findO_some h⟩
theorem hasO_no {l : List Opn} {a : Id} : hasO l a = false ↔ ∀ o ∈ l, idO o ≠ a := by
  rw [← findO_none]; unfold hasO; cases findO l a <;> simp

/-! ### One more -/
/-! ### Two together -/
/-! ### Without stamps, and the stamps -/
def stampsO (l : List Opn) : List Id := l.map idO
def idsC (l : List Opn) : List Clocks.Tm := if bagB l = true then Clocks.among (stampsO l) else []
end Go.Proofs.YtdackenaknieaaaGreat.Bags
