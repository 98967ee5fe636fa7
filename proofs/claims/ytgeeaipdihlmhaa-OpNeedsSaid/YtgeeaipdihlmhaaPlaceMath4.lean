/- Places: a child in the order, as lists of stamps. Conditions: none. -/
import Derived.Test.YtgeeaipdihlmhaaPlaceMath3
import Derived.Test.YtgeeaipdihlmhaaPlaceFin
namespace Go.Proofs.Ytgeeaipdihlmhaa.Place
open Go.RowKit Stamp

theorem anyB_may {l : List Run} (h : mayB l = true) : anyB l = true := by unfold anyB; rw [h]; simp
/-- What Under answers: nothing and an error, or a place with the stamp behind. -/
theorem und_cases (l : List Run) (a : Id) : (∃ c, und l a = ([], c) ∧ c ≠ 0) ∨ (∃ L, und l a = (L, 0) ∧ anyB l = true ∧ may a.t a.r = true ∧ mayB L = true ∧ all L = all l ++ [a]) := by
  by_cases h1 : anyB l = false ∨ may a.t a.r = false
  · exact .inl ⟨8, by unfold und; rw [if_pos h1], by decide⟩
  have hA : anyB l = true := by cases h : anyB l; exact absurd (.inl h) h1; rfl
  have hM : may a.t a.r = true := by cases h : may a.t a.r; exact absurd (.inr h) h1; rfl
  by_cases h2 : 0 < l.length ∧ (a.t : Int) ≤ fin (l.getD (l.length - 1) zrun)
  · exact .inl ⟨2, by unfold und; rw [if_neg h1, if_pos h2], by decide⟩
  rw [und_may hA hM h2]
  cases hb : mayB (more l a)
  · exact .inl ⟨60, by simp, by decide⟩
  · exact .inr ⟨more l a, by simp, hA, hM, hb, more_all ((anyB_iff l).1 hA).chain⟩
theorem hold_front (P : List Id) (a : Id) (m : List Id) : hold P (P ++ a :: m) = -1 := by
  have := hold_app P [] (a :: m)
  rw [List.append_nil] at this
  rw [this]; rfl
theorem first_front (P m : List Id) : first P (P ++ m) = true := (first_iff P (P ++ m)).2 ⟨m, rfl⟩
theorem first_long (P : List Id) (a : Id) : first (P ++ [a]) P = false := by
  cases h : first (P ++ [a]) P
  · rfl
  · obtain ⟨n, hn⟩ := (first_iff _ _).1 h
    have := congrArg List.length hn
    simp at this
/-- What parts from a place that it does not begin parts from what stands under it. -/
theorem hold_stays : ∀ {P Q m : List Id}, hold P Q = -1 → first P Q = false → hold (P ++ m) Q = -1
  | [], _, _, _, h => by simp [first] at h
  | _ :: _, [], _, h, _ => by simp [hold] at h
  | a :: P, b :: Q, m, h1, h2 => by
    rw [List.cons_append]
    by_cases e : a = b
    · subst e
      simp only [first, decide_true, Bool.true_and] at h2
      simp only [hold, if_true] at h1 ⊢
      exact hold_stays h1 h2
    · simp only [hold, e, if_false] at h1 ⊢
      exact h1
/-- A child and what stands under its parent: which is ahead. -/
theorem hold_child (P : List Id) (a b : Id) (n : List Id) : (hold (P ++ [a]) (P ++ b :: n) = 1) ↔ less a.t a.r b.t b.r = true := by
  rw [hold_app]
  by_cases e : a = b
  · subst e
    have h1 := less_irrefl a
    simp only [hold, if_true]
    constructor
    · intro h
      cases n <;> simp [hold] at h
    · intro h; exact absurd h h1
  · have h1 := less_total e
    simp only [hold, e, if_false]
    by_cases h2 : less b.t b.r a.t a.r = true
    · rw [if_pos h2]
      have h3 := h1.1 h2
      constructor
      · intro h; omega
      · intro h; exact absurd h h3
    · rw [if_neg h2]
      constructor
      · intro _
        by_cases h3 : less a.t a.r b.t b.r = true
        · exact h3
        · exact absurd (h1.2 h3) h2
      · intro _; rfl
/-- The last stamp, as Last tells it. -/
theorem lastV_of {L : List Run} {P : List Id} {a : Id} (hm : mayB L = true) (h : all L = P ++ [a]) : lastV L = ((a.t : Int), (a.r : Int)) := by
  have hM := (mayB_iff L).1 hm
  have hc := hM.2.2.1
  have hl := last_all hc (by have := hM.1; omega)
  rw [h, List.getLast?_append] at hl
  have hl : a = _ := Option.some.inj hl
  have ho := chain_one hc (k := L.length - 1) (by have := hM.1; omega)
  obtain ⟨n, hn, n1, n2, n3, n4⟩ := ho.nat
  unfold lastV
  rw [if_pos hm]
  have h1 := Id.eq_iff.1 hl
  rw [mk_t (by omega), mk_r (L.getD (L.length - 1) zrun).hr] at h1
  rw [h1.1, h1.2, n3, hn]
  congr 1
  omega
theorem idsOf_may {l : List Run} (h : mayB l = true) : idsOf l = all l ∧ idsE l = 0 := by
  unfold idsOf idsE; rw [if_pos h, if_pos h]; exact ⟨rfl, rfl⟩
theorem chk_may {l : List Run} (h : mayB l = true) : chk l = 0 := by unfold chk; rw [if_pos h]
theorem getLast_take {l : List Id} {i : Nat} (h1 : 1 ≤ i) (h2 : i ≤ l.length) : (l.take i).getLast? = some (l.getD (i - 1) zid) := by
  obtain ⟨k, rfl⟩ : ∃ k, i = k + 1 := ⟨i - 1, by omega⟩
  rw [List.take_succ_eq_append_getElem (by omega), List.getLast?_append]
  simp [List.getD, List.getElem?_eq_getElem (show k < l.length by omega)]
/-- Each stamp of a place goes under the ones ahead of it. -/
theorem step_ok {p q : List Run} {i : Nat} (hp : mayB p = true) (hq : anyB q = true) (hi : i < (all p).length) (hall : all q = (all p).take i) :
    ∃ q', und q ((all p).getD i zid) = (q', 0) ∧ anyB q' = true ∧ all q' = (all p).take (i + 1) := by
  have hM := (mayB_iff p).1 hp
  have hc := hM.2.2.1
  have hcq := ((anyB_iff q).1 hq).chain
  obtain ⟨a, ha⟩ : ∃ a, a = (all p).getD i zid := ⟨_, rfl⟩
  have hmem : a ∈ all p := by
    rw [ha, List.getD, List.getElem?_eq_getElem hi]
    exact List.getElem_mem hi
  have hmay := chain_may hc a hmem
  have hl : ¬ (0 < q.length ∧ (a.t : Int) ≤ fin (q.getD (q.length - 1) zrun)) := by
    rintro ⟨h0, h1⟩
    have hla := last_all hcq h0
    have hi1 : 1 ≤ i := by
      cases i with
      | zero =>
        rw [List.take_zero] at hall
        have := (all_nil hcq).1 hall
        subst this
        simp at h0
      | succ i => omega
    rw [hall, getLast_take hi1 (by omega)] at hla
    have ho := chain_one hcq (k := q.length - 1) (by omega)
    obtain ⟨n, hn, n1, n2, n3, n4⟩ := ho.nat
    have hid := Id.eq_iff.1 (Option.some.inj hla)
    rw [mk_t (by omega)] at hid
    have hr := rises_get (k := i - 1) (chain_rises hc) (by omega)
    rw [show i - 1 + 1 = i by omega, ← ha, hid.1] at hr
    unfold fin at h1
    omega
  have hmore := more_all (a := a) hcq
  have htake : all (more q a) = (all p).take (i + 1) := by
    rw [hmore, hall, List.take_succ_eq_append_getElem hi, ha]
    simp [List.getD, List.getElem?_eq_getElem hi]
  have hlq := long_len hcq
  have hlp := long_len hc
  have hml := more_long (a := a) hcq
  have hlen : (all q).length = i := by rw [hall, List.length_take]; omega
  have h4 : long (more q a) ≤ 4096 := by have := hM.2.2.2; omega
  have hch := more_chain hcq hmay hl h4
  have h64 : (more q a).length ≤ p.length := front_len (m := (all p).drop (i + 1)) hch hc (by rw [htake, List.take_append_drop])
  have hmb : mayB (more q a) = true := (mayB_iff _).2 ⟨more_pos q a, by have := hM.2.1; omega, hch, h4⟩
  refine ⟨more q a, ?_, anyB_may hmb, htake⟩
  rw [← ha, und_may hq hmay hl, if_pos hmb]

end Go.Proofs.Ytgeeaipdihlmhaa.Place
