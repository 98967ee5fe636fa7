/- Places: a child in the order, as lists of stamps. Conditions: none. -/
import Derived.Test.YtfhmleigceakjaaPlaceMath3
import Derived.Test.YtfhmleigceakjaaPlaceFin
namespace Go.Proofs.Ytfhmleigceakjaa.Place
open Go.RowKit Stamp

theorem anyB_may {l : List Run} (h : mayB l = true) : anyB l = true := by unfold anyB; rw [h]; simp
/-- What Under answers: nothing and an error, or a place with the stamp behind. -/
theorem und_cases (l : List Run) (a : Id) : (∃ c, und l a = ([], c) ∧ c ≠ 0) ∨ (∃ L, und l a = (L, 0) ∧ anyB l = true ∧ may a.t a.r = true ∧ mayB L = true ∧ all L = all l ++ [a]) := by
  by_cases h1 : anyB l = false ∨ may a.t a.r = false
  · exact .inl ⟨8, by unfold und; rw [if_pos h1], by decide⟩
  have hA : anyB l = true := by cases h : anyB l; exact absurd (.inl h) h1; rfl
  have hM : may a.t a.r = true := by cases h : may a.t a.r; exact absurd (.inr h) h1; rfl
  by_cases h2 : 0 < l.length ∧ (a.t : Int) ≤ fin (l.getD (l.length - 1) zrun)
  · exact .inl ⟨2, by unfold und; rw [if_neg h1, if_pos h2], by decide⟩
  rw [und_may hA hM h2]
  cases hb : mayB (more l a)
  · exact .inl ⟨60, by simp, by decide⟩
  · exact .inr ⟨more l a, by simp, hA, hM, hb, more_all ((anyB_iff l).1 hA).chain⟩
theorem hold_front (P : List Id) (a : Id) (m : List Id) : hold P (P ++ a :: m) = -1 := by
  have := hold_app P [] (a :: m)
  rw [List.append_nil] at this
  rw [this]; rfl
theorem first_front (P m : List Id) : first P (P ++ m) = true := (first_iff P (P ++ m)).2 ⟨m, rfl⟩
theorem first_long (P : List Id) (a : Id) : first (P ++ [a]) P = false := by
  cases h : first (P ++ [a]) P
  · rfl
  · obtain ⟨n, hn⟩ := (first_iff _ _).1 h
    have := congrArg List.length hn
    simp at this
/-- What parts from a place that it does not begin parts from what stands under it. -/
theorem hold_stays : ∀ {P Q m : List Id}, hold P Q = -1 → first P Q = false → hold (P ++ m) Q = -1
  | [], _, _, _, h => by simp [first] at h
  | _ :: _, [], _, h, _ => by simp [hold] at h
  | a :: P, b :: Q, m, h1, h2 => by
    rw [List.cons_append]
    by_cases e : a = b
    · subst e
      simp only [first, decide_true, Bool.true_and] at h2
      simp only [hold, if_true] at h1 ⊢
      exact hold_stays h1 h2
    · simp only [hold, e, if_false] at h1 ⊢
      exact h1
/-- A child and what stands under its parent: which is ahead. -/
theorem hold_child (P : List Id) (a b : Id) (n : List Id) : (hold (P ++ [a]) (P ++ b :: n) = 1) ↔ less a.t a.r b.t b.r = true := by
  rw [hold_app]
  by_cases e : a = b
  · subst e
    have h1 := less_irrefl a
    simp only [hold, if_true]
    constructor
    · intro h
      cases n <;> simp [hold] at h
    · intro h; exact absurd h h1
  · have h1 := less_total e
    simp only [hold, e, if_false]
    by_cases h2 : less b.t b.r a.t a.r = true
    · rw [if_pos h2]
      have h3 := h1.1 h2
      constructor
      · intro h; omega
      · intro h; exact absurd h h3
    · rw [if_neg h2]
      constructor
      · intro _
        by_cases h3 : less a.t a.r b.t b.r = true
        · exact h3
        · exact absurd (h1.2 h3) h2
      · intro _; rfl
/-- The last stamp, as Last tells it. -/
theorem lastV_of {L : List Run} {P : List Id} {a : Id} (hm : mayB L = true) (h : all L = P ++ [a]) : lastV L = ((a.t : Int), (a.r : Int)) := by
  have hM := (mayB_iff L).1 hm
  have hc := hM.2.2.1
  have hl := last_all hc (by have := hM.1; omega)
  rw [h, List.getLast?_append] at hl
  have hl : a = _ := Option.some.inj hl
  have ho := chain_one hc (k := L.length - 1) (by have := hM.1; omega)
  obtain ⟨n, hn, n1, n2, n3, n4⟩ := ho.nat
  unfold lastV
  rw [if_pos hm]
  have h1 := Id.eq_iff.1 hl
  rw [mk_t (by omega), mk_r (L.getD (L.length - 1) zrun).hr] at h1
  rw [h1.1, h1.2, n3, hn]
  congr 1
  omega
theorem idsOf_may {l : List Run} (h : mayB l = true) : idsOf l = all l ∧ idsE l = 0 := by
  unfold idsOf idsE; rw [if_pos h, if_pos h]; exact ⟨rfl, rfl⟩
theorem chk_may {l : List Run} (h : mayB l = true) : chk l = 0 := by unfold chk; rw [if_pos h]
end Go.Proofs.Ytfhmleigceakjaa.Place
