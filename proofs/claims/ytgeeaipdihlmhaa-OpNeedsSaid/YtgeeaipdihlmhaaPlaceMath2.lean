/- Places: runs that are cut, one way of writing, a stamp behind, rising. Conditions: none. -/
import Derived.Test.YtgeeaipdihlmhaaPlaceMath
namespace Go.Proofs.Ytgeeaipdihlmhaa.Place
open Stamp

theorem One.nat {x : Run} (h : One x) : ∃ n : Nat, x.m = (n : Int) ∧ 1 ≤ n ∧ n ≤ 4096 ∧ x.m.toNat = n ∧ x.t + n ≤ 1073741825 := by
  obtain ⟨h1, h2, h3, h4, h5, h6⟩ := h
  exact ⟨x.m.toNat, by omega, by omega, by omega, rfl, by omega⟩
/-- A run made of numbers, whatever they are. -/
def mkRun (t r : Nat) (m : Int) : Run := ⟨t % 4294967296, r % 256, if -9223372036854775808 ≤ m ∧ m ≤ 9223372036854775807 then m else 0, Nat.mod_lt _ (by decide), Nat.mod_lt _ (by decide), by split <;> omega⟩
theorem mkRun_t {t r : Nat} {m : Int} (h : t < 4294967296) : (mkRun t r m).t = t := Nat.mod_eq_of_lt h
theorem mkRun_r {t r : Nat} {m : Int} (h : r < 256) : (mkRun t r m).r = r := Nat.mod_eq_of_lt h
theorem mkRun_m {t r : Nat} {m : Int} (h : -9223372036854775808 ≤ m ∧ m ≤ 9223372036854775807) : (mkRun t r m).m = m := if_pos h
/-- Runs without their first n stamps, of which the first run has so many, and more, or just as many. -/
def cut (x : Run) (p : List Run) (n : Nat) : List Run := if x.m = (n : Int) then p else mkRun (x.t + n) x.r (x.m - n) :: p
theorem all_cut {x : Run} {p : List Run} {n : Nat} (h : One x) (hn : (n : Int) ≤ x.m) : all (x :: p) = up x.t x.r n ++ all (cut x p n) := by
  obtain ⟨k, hk, h1, h2, h3, h4⟩ := h.nat
  have hxt := x.hr
  unfold cut
  by_cases he : x.m = (n : Int)
  · rw [if_pos he, all, h3, show k = n by omega]
  · rw [if_neg he, all, all, mkRun_t (by omega), mkRun_r hxt, mkRun_m (by omega), h3, ← List.append_assoc, show (x.m - (n : Int)).toNat = k - n by omega, ← up_add, show n + (k - n) = k by omega]
theorem One.cut {x : Run} {n : Nat} (h : One x) (hn : (n : Int) < x.m) : One (mkRun (x.t + n) x.r (x.m - n)) ∧ fin (mkRun (x.t + n) x.r (x.m - n)) = fin x := by
  obtain ⟨h1, h2, h3, h4, h5, h6⟩ := h
  have hxt := x.hr
  unfold One fin
  rw [mkRun_t (by omega), mkRun_r hxt, mkRun_m (by omega)]
  omega
theorem Chain.cut {x : Run} {p : List Run} {n : Nat} (h : Chain (x :: p)) (hn : (n : Int) ≤ x.m) : Chain (cut x p n) := by
  unfold Place.cut
  by_cases he : x.m = (n : Int)
  · rw [if_pos he]; exact h.tail
  · rw [if_neg he]
    have hc := h.head.cut (n := n) (by omega)
    cases p with
    | nil => exact hc.1
    | cons y p =>
      refine ⟨hc.1, ?_, h.2.2⟩
      have h2 := h.2.1
      unfold Next at h2 ⊢
      rw [hc.2, mkRun_r x.hr]
      exact h2
theorem all_cons {x : Run} {p : List Run} (h : One x) : ∃ l, all (x :: p) = ⟨x.t, x.r, x.ht, x.hr⟩ :: l := by
  obtain ⟨k, hk, h1, h2, h3, h4⟩ := h.nat
  obtain ⟨j, rfl⟩ : ∃ j, k = j + 1 := ⟨k - 1, by omega⟩
  refine ⟨up (x.t + 1) x.r j ++ all p, ?_⟩
  rw [all, h3, up]
  have : mk x.t x.r = ⟨x.t, x.r, x.ht, x.hr⟩ := Id.ext' (mk_t x.ht) (mk_r x.hr)
  rw [this]; rfl
theorem all_nil {p : List Run} (h : Chain p) : all p = [] ↔ p = [] := by
  cases p with
  | nil => simp [all]
  | cons x p =>
    obtain ⟨l, hl⟩ := all_cons (p := p) h.head
    simp [hl]
theorem hold_cut {x y : Run} {p q : List Run} (h1 : One x) (h2 : One y) (ht : x.t = y.t) (hr : x.r = y.r) {n : Nat} (hn : (n : Int) ≤ x.m) (hn2 : (n : Int) ≤ y.m) :
    hold (all (x :: p)) (all (y :: q)) = hold (all (cut x p n)) (all (cut y q n)) := by
  rw [all_cut h1 hn, all_cut h2 hn2, ht, hr, hold_app]
theorem first_cut {x y : Run} {p q : List Run} (h1 : One x) (h2 : One y) (ht : x.t = y.t) (hr : x.r = y.r) {n : Nat} (hn : (n : Int) ≤ x.m) (hn2 : (n : Int) ≤ y.m) :
    first (all (x :: p)) (all (y :: q)) = first (all (cut x p n)) (all (cut y q n)) := by
  rw [all_cut h1 hn, all_cut h2 hn2, ht, hr, first_app]
theorem hold_part {x y : Run} {p q : List Run} (h1 : One x) (h2 : One y) (h : ¬ (x.t = y.t ∧ x.r = y.r)) : hold (all (x :: p)) (all (y :: q)) = if less y.t y.r x.t x.r = true then -1 else 1 := by
  obtain ⟨l, hl⟩ := all_cons (p := p) h1
  obtain ⟨m, hm⟩ := all_cons (p := q) h2
  rw [hl, hm, hold, if_neg (by rw [Id.eq_iff]; exact h)]
theorem first_part {x y : Run} {p q : List Run} (h1 : One x) (h2 : One y) (h : ¬ (x.t = y.t ∧ x.r = y.r)) : first (all (x :: p)) (all (y :: q)) = false := by
  obtain ⟨l, hl⟩ := all_cons (p := p) h1
  obtain ⟨m, hm⟩ := all_cons (p := q) h2
  rw [hl, hm, first, decide_eq_false (by rw [Id.eq_iff]; exact h), Bool.false_and]
theorem hold_right {x : Run} {p : List Run} (h : One x) : hold (all (x :: p)) [] = 1 := by
  obtain ⟨l, hl⟩ := all_cons (p := p) h
  rw [hl]; rfl
theorem hold_left {x : Run} {p : List Run} (h : One x) : hold [] (all (x :: p)) = -1 := by
  obtain ⟨l, hl⟩ := all_cons (p := p) h
  rw [hl]; rfl
theorem first_right {x : Run} {p : List Run} (h : One x) : first (all (x :: p)) [] = false := by
  obtain ⟨l, hl⟩ := all_cons (p := p) h
  rw [hl]; rfl

/-- How many stamps, as a number. -/
theorem long_len : ∀ {p : List Run}, Chain p → ((all p).length : Int) = long p
  | [], _ => rfl
  | x :: p, h => by
    obtain ⟨k, hk, h1, h2, h3, h4⟩ := h.head.nat
    have := long_len h.tail
    rw [all, List.length_append, up_len, h3, long]
    omega

/-- Places are written in one way alone. -/
theorem all_inj : ∀ {p q : List Run}, Chain p → Chain q → all p = all q → p = q
  | [], q, _, h2, h => ((all_nil h2).1 h.symm).symm
  | x :: p, [], h1, _, h => (all_nil h1).1 h
  | x :: p, y :: q, h1, h2, h => by
    obtain ⟨l, hl⟩ := all_cons (p := p) h1.head
    obtain ⟨m, hm⟩ := all_cons (p := q) h2.head
    have hxy : x.t = y.t ∧ x.r = y.r := by
      rw [hl, hm] at h
      exact Id.eq_iff.1 (List.cons.inj h).1
    obtain ⟨j, hj, j1, j2, j3, j4⟩ := h1.head.nat
    obtain ⟨k, hk, k1, k2, k3, k4⟩ := h2.head.nat
    -- a run that is longer than the other one would go on where the other place must leave
    have key : ∀ {x y : Run} {p q : List Run}, Chain (x :: p) → Chain (y :: q) → all (x :: p) = all (y :: q) → x.t = y.t → x.r = y.r → ¬ x.m < y.m := by
      intro x y p q h1 h2 h ht hr hlt
      obtain ⟨j, hj, j1, j2, j3, j4⟩ := h1.head.nat
      rw [all_cut h1.head (n := j) (by omega), all_cut h2.head (n := j) (by omega), ht, hr] at h
      have h := List.append_cancel_left h
      unfold cut at h
      rw [if_pos hj, if_neg (by omega)] at h
      have hc := h2.head.cut (n := j) (by omega)
      obtain ⟨m, hm⟩ := all_cons (p := q) hc.1
      cases p with
      | nil => rw [hm] at h; simp [all] at h
      | cons z p =>
        obtain ⟨l, hl⟩ := all_cons (p := p) h1.tail.head
        rw [hl, hm] at h
        have hz := Id.eq_iff.1 (List.cons.inj h).1
        simp only at hz
        rw [mkRun_t (by have := h2.head.nat; omega), mkRun_r y.hr] at hz
        have hn := h1.2.1
        unfold Next fin at hn
        have := hn.2 (by omega)
        omega
    have hm : x.m = y.m := by
      have a := key h1 h2 h hxy.1 hxy.2
      have b := key h2 h1 h.symm hxy.1.symm hxy.2.symm
      omega
    have e : x = y := Run.ext' hxy.1 hxy.2 hm
    subst e
    rw [all, all] at h
    rw [all_inj h1.tail h2.tail (List.append_cancel_left h)]
theorem hold_same {p q : List Run} (h1 : Chain p) (h2 : Chain q) : hold (all p) (all q) = 0 ↔ p = q := by
  rw [hold_eq]
  exact ⟨all_inj h1 h2, fun h => by rw [h]⟩

/-- The last run, the last stamp. -/
def last (p : List Run) : Run := p.getLastD zrun
theorem last_cons (x : Run) (p : List Run) : last (x :: p) = if p = [] then x else last p := by
  cases p with
  | nil => rfl
  | cons y p => simp [last]
def lastT (p : List Run) : Int := fin (last p)
/-- Times rise: each is at most the last one; the stamps of a place are below what is behind. -/
theorem chain_le : ∀ {p : List Run}, Chain p → ∀ x ∈ p, fin x ≤ lastT p
  | [], _, x, hx => by simp at hx
  | [y], _, x, hx => by simp only [List.mem_singleton] at hx; subst hx; exact Int.le_refl _
  | y :: z :: p, h, x, hx => by
    have e : lastT (y :: z :: p) = lastT (z :: p) := by simp [lastT, last]
    rw [e]
    have ih := chain_le h.2.2
    rw [List.mem_cons] at hx
    rcases hx with rfl | hx
    · have h1 := ih z (by simp)
      have h2 := h.2.1.1
      have h3 := h.2.2.head
      unfold One at h3
      unfold fin at h1 h2 ⊢
      omega
    · exact ih x hx
theorem chain_append : ∀ {p q : List Run}, Chain p → Chain q → (∀ x y, p.getLast? = some x → q.head? = some y → Next x y) → Chain (p ++ q)
  | [], q, _, h, _ => h
  | [x], [], h, _, _ => h
  | [x], y :: q, h1, h2, h => ⟨h1, h x y rfl rfl, h2⟩
  | x :: y :: p, q, h1, h2, h => ⟨h1.1, h1.2.1, chain_append h1.2.2 h2 (fun a b ha hb => h a b (by simpa using ha) hb)⟩
end Go.Proofs.Ytgeeaipdihlmhaa.Place
