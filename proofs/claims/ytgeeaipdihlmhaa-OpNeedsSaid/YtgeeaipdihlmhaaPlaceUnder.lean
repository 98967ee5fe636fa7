/- What Under answers, as lists: its runs are each short. Conditions: none. -/
import Derived.Test.YtgeeaipdihlmhaaPlaceMore
namespace Go.Proofs.Ytgeeaipdihlmhaa.Place
open Go.RowKit Stamp
attribute [local go_sem ↓] Go.wp_at_zero Go.wp_at_succ

/-- What Under answers. -/
def und (l : List Run) (a : Id) : List Run × Int :=
  if anyB l = false ∨ may a.t a.r = false then ([], 8)
  else if 0 < l.length ∧ (a.t : Int) ≤ fin (l.getD (l.length - 1) zrun) then ([], 2)
  else if 64 < (more l a).length ∨ 4096 < long (more l a) then ([], 60) else (more l a, 0)

theorem more_len (l : List Run) (a : Id) : (more l a).length ≤ l.length + 1 := by
  unfold more; split <;> simp <;> omega
theorem more_ones {l : List Run} {a : Id} (hc : Chain l) : Ones (more l a) := by
  intro j hj
  unfold more at hj ⊢
  by_cases h : 0 < l.length ∧ (l.getD (l.length - 1) zrun).r = a.r ∧ fin (l.getD (l.length - 1) zrun) + 1 = (a.t : Int)
  · rw [if_pos h] at hj ⊢
    have ho := chain_one hc (k := l.length - 1) (by omega)
    have h1 := ho.2.2.2.1
    have h2 := ho.2.2.2.2.1
    by_cases hjl : j < l.length - 1
    · have e : (l.take (l.length - 1) ++ [mkRun (l.getD (l.length - 1) zrun).t (l.getD (l.length - 1) zrun).r ((l.getD (l.length - 1) zrun).m + 1)]).getD j zrun = l.getD j zrun := by
        simp [List.getD, List.getElem?_append, hjl, show j < l.length by omega]
      rw [e]
      have hj1 := chain_one hc (k := j) (by omega)
      exact ⟨hj1.2.2.2.1, by have := hj1.2.2.2.2.1; omega⟩
    · have hje : j = l.length - 1 := by simp at hj; omega
      have e : (l.take (l.length - 1) ++ [mkRun (l.getD (l.length - 1) zrun).t (l.getD (l.length - 1) zrun).r ((l.getD (l.length - 1) zrun).m + 1)]).getD j zrun = mkRun (l.getD (l.length - 1) zrun).t (l.getD (l.length - 1) zrun).r ((l.getD (l.length - 1) zrun).m + 1) := by
        subst hje
        simp [List.getD]
      rw [e, mkRun_m (by omega)]
      omega
  · rw [if_neg h] at hj ⊢
    by_cases hjl : j < l.length
    · have e : (l ++ [mkRun a.t a.r 1]).getD j zrun = l.getD j zrun := by
        simp [List.getD, List.getElem?_append, hjl]
      rw [e]
      have hj1 := chain_one hc (k := j) hjl
      exact ⟨hj1.2.2.2.1, by have := hj1.2.2.2.2.1; omega⟩
    · have hje : j = l.length := by simp at hj; omega
      have e : (l ++ [mkRun a.t a.r 1]).getD j zrun = mkRun a.t a.r 1 := by
        subst hje
        simp [List.getD]
      rw [e, mkRun_m (by omega)]
      omega
end Go.Proofs.Ytgeeaipdihlmhaa.Place
