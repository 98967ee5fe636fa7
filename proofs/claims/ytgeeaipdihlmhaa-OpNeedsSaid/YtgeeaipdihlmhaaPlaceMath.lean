/- Places: which may be, their stamps, how two are held against each other, in plain words. Conditions: none. -/
import Derived.Test.YtgeeaipdihlmhaaRuns
import Derived.Test.YtgeeaipdihlmhaaStampMath
namespace Go.Proofs.Ytgeeaipdihlmhaa.Place
open Stamp

/-- A stamp of two numbers, whatever they are. -/
def mk (t r : Nat) : Id := ⟨t % 4294967296, r % 256, Nat.mod_lt _ (by decide), Nat.mod_lt _ (by decide)⟩
theorem mk_t {t r : Nat} (h : t < 4294967296) : (mk t r).t = t := Nat.mod_eq_of_lt h
theorem mk_r {t r : Nat} (h : r < 256) : (mk t r).r = r := Nat.mod_eq_of_lt h
/-- The stamps of a run: n of them from t on. -/
def up (t r : Nat) : Nat → List Id
  | 0 => []
  | n + 1 => mk t r :: up (t + 1) r n
/-- A place's stamps. -/
def all : List Run → List Id
  | [] => []
  | x :: p => up x.t x.r x.m.toNat ++ all p
theorem up_len : ∀ (t r n : Nat), (up t r n).length = n
  | _, _, 0 => rfl
  | t, r, n + 1 => by simp [up, up_len (t + 1) r n]
theorem up_add : ∀ (t r m n : Nat), up t r (m + n) = up t r m ++ up (t + m) r n
  | t, r, 0, n => by simp [up]
  | t, r, m + 1, n => by
    rw [show m + 1 + n = (m + n) + 1 by omega]
    simp only [up, List.cons_append]
    rw [up_add (t + 1) r m n, show t + 1 + m = t + (m + 1) by omega]
theorem up_get : ∀ (t r n k : Nat), k < n → (up t r n).getD k zid = mk (t + k) r
  | t, r, 0, k, h => by omega
  | t, r, n + 1, 0, _ => by simp [up]
  | t, r, n + 1, k + 1, h => by
    have := up_get (t + 1) r n k (by omega)
    rw [show t + 1 + k = t + (k + 1) by omega] at this
    simpa [up] using this
theorem all_append : ∀ p q : List Run, all (p ++ q) = all p ++ all q
  | [], q => rfl
  | x :: p, q => by simp [all, all_append p q]

/-- May a run be, by itself? Its last time is t + m - 1. -/
def One (x : Run) : Prop := 1 ≤ x.t ∧ x.t ≤ 1073741824 ∧ x.r < 8 ∧ 1 ≤ x.m ∧ x.m ≤ 4096 ∧ (x.t : Int) + x.m - 1 ≤ 1073741824
instance (x : Run) : Decidable (One x) := inferInstanceAs (Decidable (_ ∧ _))
def fin (x : Run) : Int := (x.t : Int) + x.m - 1
/-- May one stand right behind another one? -/
def Next (x y : Run) : Prop := fin x < (y.t : Int) ∧ (y.r = x.r → fin x + 1 < (y.t : Int))
instance (x y : Run) : Decidable (Next x y) := inferInstanceAs (Decidable (_ ∧ _))
/-- How many stamps. -/
def long : List Run → Int
  | [] => 0
  | x :: p => x.m + long p
/-- Runs that may be, one behind the other. -/
def Chain : List Run → Prop
  | [] => True
  | [x] => One x
  | x :: y :: p => One x ∧ Next x y ∧ Chain (y :: p)
theorem Chain.head {x : Run} {p : List Run} (h : Chain (x :: p)) : One x := by
  cases p with
  | nil => exact h
  | cons y p => exact h.1
theorem Chain.tail {x : Run} {p : List Run} (h : Chain (x :: p)) : Chain p := by
  cases p with
  | nil => trivial
  | cons y p => exact h.2.2
def May (p : List Run) : Prop := 1 ≤ p.length ∧ p.length ≤ 64 ∧ Chain p ∧ long p ≤ 4096
def Any (p : List Run) : Prop := p = [] ∨ May p
theorem Any.chain {p : List Run} (h : Any p) : Chain p := by
  rcases h with rfl | h
  · trivial
  · exact h.2.2.1

/-- Stamps held against each other. -/
def hold : List Id → List Id → Int
  | [], [] => 0
  | _ :: _, [] => 1
  | [], _ :: _ => -1
  | a :: l, b :: m => if a = b then hold l m else if less b.t b.r a.t a.r = true then -1 else 1
/-- Is one a beginning of another one? -/
def first : List Id → List Id → Bool
  | [], _ => true
  | _ :: _, [] => false
  | a :: l, b :: m => decide (a = b) && first l m

theorem less_total {a b : Id} (h : a ≠ b) : less b.t b.r a.t a.r = true ↔ ¬ less a.t a.r b.t b.r = true := by
  rw [less_iff, less_iff]
  have : ¬ (a.t = b.t ∧ a.r = b.r) := fun h2 => h (Id.ext' h2.1 h2.2)
  omega
theorem hold_eq : ∀ l m : List Id, hold l m = 0 ↔ l = m
  | [], [] => by simp [hold]
  | a :: l, [] => by simp [hold]
  | [], b :: m => by simp [hold]
  | a :: l, b :: m => by
    by_cases h : a = b
    · subst h; simp [hold, hold_eq l m]
    · by_cases h2 : less b.t b.r a.t a.r = true <;> simp [hold, h, h2]
theorem hold_range : ∀ l m : List Id, hold l m = -1 ∨ hold l m = 0 ∨ hold l m = 1
  | [], [] => by simp [hold]
  | a :: l, [] => by simp [hold]
  | [], b :: m => by simp [hold]
  | a :: l, b :: m => by
    by_cases h : a = b
    · subst h; simpa [hold] using hold_range l m
    · by_cases h2 : less b.t b.r a.t a.r = true <;> simp [hold, h, h2]
theorem hold_neg : ∀ l m : List Id, hold m l = - hold l m
  | [], [] => by simp [hold]
  | a :: l, [] => by simp [hold]
  | [], b :: m => by simp [hold]
  | a :: l, b :: m => by
    by_cases h : a = b
    · subst h; simpa [hold] using hold_neg l m
    · have h' : ¬ b = a := fun e => h e.symm
      have ht := less_total h
      by_cases h2 : less b.t b.r a.t a.r = true
      · have h3 := ht.1 h2
        simp [hold, h, h', h2, h3]
      · have h3 : less a.t a.r b.t b.r = true := by
          by_cases h3 : less a.t a.r b.t b.r = true
          · exact h3
          · exact absurd (ht.2 h3) h2
        simp [hold, h, h', h2, h3]
theorem less_trans {a b c : Id} (h1 : less b.t b.r a.t a.r = true) (h2 : less c.t c.r b.t b.r = true) : less c.t c.r a.t a.r = true := by
  rw [less_iff] at *; omega
theorem less_irrefl (a : Id) : ¬ less a.t a.r a.t a.r = true := by rw [less_iff]; omega
theorem hold_cons_neg {a b : Id} {l m : List Id} : hold (a :: l) (b :: m) = -1 ↔ (a = b ∧ hold l m = -1) ∨ less b.t b.r a.t a.r = true := by
  by_cases h : a = b
  · subst h
    have := less_irrefl a
    simp [hold, this]
  · by_cases h2 : less b.t b.r a.t a.r = true <;> simp [hold, h, h2]
theorem hold_trans : ∀ l m n : List Id, hold l m = -1 → hold m n = -1 → hold l n = -1
  | [], m, [], h1, h2 => by cases m <;> simp [hold] at h1 h2
  | [], m, c :: n, h1, h2 => by simp [hold]
  | a :: l, [], n, h1, h2 => by simp [hold] at h1
  | a :: l, b :: m, [], h1, h2 => by simp [hold] at h2
  | a :: l, b :: m, c :: n, h1, h2 => by
    rw [hold_cons_neg] at *
    rcases h1 with ⟨rfl, h1⟩ | h1 <;> rcases h2 with ⟨rfl, h2⟩ | h2
    · exact .inl ⟨rfl, hold_trans l m n h1 h2⟩
    · exact .inr h2
    · exact .inr h1
    · exact .inr (less_trans h1 h2)
theorem hold_app : ∀ p l m : List Id, hold (p ++ l) (p ++ m) = hold l m
  | [], l, m => rfl
  | a :: p, l, m => by simp [hold, hold_app p l m]
theorem first_iff : ∀ l m : List Id, first l m = true ↔ ∃ n, m = l ++ n
  | [], m => by simp [first]
  | a :: l, [] => by simp [first]
  | a :: l, b :: m => by
    simp only [first, Bool.and_eq_true, decide_eq_true_eq, first_iff l m, List.cons_append, List.cons.injEq]
    constructor
    · rintro ⟨rfl, n, rfl⟩; exact ⟨n, rfl, rfl⟩
    · rintro ⟨n, rfl, rfl⟩; exact ⟨rfl, n, rfl⟩
theorem first_app : ∀ p l m : List Id, first (p ++ l) (p ++ m) = first l m
  | [], l, m => rfl
  | a :: p, l, m => by simp [first, first_app p l m]
end Go.Proofs.Ytgeeaipdihlmhaa.Place
