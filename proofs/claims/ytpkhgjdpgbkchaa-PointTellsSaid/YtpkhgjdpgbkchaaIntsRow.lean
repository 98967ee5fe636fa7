/- A slice of numbers that came in: what it reads as. Conditions: none. -/
import Derived.Test.YtpkhgjdpgbkchaaRow
import Derived.Test.YtpkhgjdpgbkchaaCells
namespace Go.Proofs.Ytpkhgjdpgbkchaa
open Go.ChangeShapes Go.WideShapes Go.ChangeAt Go.RowKit

theorem kit_cellsI : Try.prog.cellsOf 3 = 1 := by kernel_rfl

theorem ints_of {H : Type} {enc : TypeId × Value → H} {W : World} {v : Value} {d : DataW H} {p : List MemPlace} {base : Nat}
    (hv : Value.okWide Try.prog W .any base 25 v) (h : DataW.Trod enc Try.prog W 0 (fun _ => true) true 25 v d p) :
    ∃ (ao : Option Addr) (cap : Nat) (l : List Int), v = .slice ao l.length cap ∧ Ints W (.slice ao l.length cap) l := by
  obtain ⟨a0, len, cap, rfl⟩ := okWide_slice Try.underlying25 hv
  obtain ⟨fuel, hf⟩ := h
  rcases open_ints Try.underlying25 Try.underlying3 kit_cellsI hf with ⟨hcs, hx⟩ | ⟨a, len', cap', zs, hcs, _, hl, hm, hz, hx, hcell, hwz⟩
  · simp [Value.cells] at hcs
    obtain ⟨rfl, rfl, rfl⟩ := hcs
    exact ⟨none, 0, [], rfl, Ints.nil W⟩
  · simp [Value.cells] at hcs
    obtain ⟨rfl, rfl, rfl⟩ := hcs
    simp only [if_true] at hz
    unfold maxLen at hm
    have hxl : (zs.take len).length = len := by simp; omega
    refine ⟨some a, cap, zs.take len, by rw [hxl], by rw [is_len, Nat.mul_one], some a, cap, rfl, by omega, hm, by simp, ?_⟩
    by_cases hl0 : len = 0
    · left; subst hl0; rfl
    · right
      obtain ⟨b, off, spot⟩ := a
      have hspot : spot = none := by simpa [Addr.add] using World.cell?_spot (hcell 0 (by omega))
      subst hspot
      refine ⟨b, off, rfl, World.block_lt_of_cell? W ⟨b, off, none⟩ (by simpa [Addr.add] using hcell 0 (by omega)), fun j u hj => ?_⟩
      have hjl : j < (is (zs.take len)).length := (List.getElem?_eq_some_iff.1 hj).1
      rw [is_len, hxl] at hjl
      have hjz : j < zs.length := by omega
      rw [← add_plain, hcell j hjz]
      rw [is_get _ j (by rw [hxl]; exact hjl)] at hj
      rw [← hj]
      simp [List.getD, hjl, List.getElem?_eq_getElem hjz]
end Go.Proofs.Ytpkhgjdpgbkchaa
