/- A slice of bytes that came in: what it reads as. Conditions: none. -/
import Derived.Test.YtpkhgjdpgbkchaaRows
import Derived.Test.YtpkhgjdpgbkchaaBytes
import Derived.ProofKit
import Derived.SizedLaws
namespace Go.Proofs.Ytpkhgjdpgbkchaa
open Go.ChangeShapes Go.WideShapes Go.ChangeAt Go.RowKit

theorem kit_own : ownKnob Try.prog.godebug = none := by kernel_rfl
theorem kit_laidOut : laidOutB Try.prog = true := by kernel_rfl
theorem kit_cells8 : Try.prog.cellsOf 5 = 1 := by kernel_rfl

theorem reads_of {H : Type} {enc : TypeId × Value → H} {W : World} {v : Value} {d : DataW H} {p : List MemPlace} {base : Nat}
    (hv : Value.okWide Try.prog W .any base 28 v) (h : DataW.Trod enc Try.prog W 0 (fun _ => true) true 28 v d p) :
    ∃ (ao : Option Addr) (cap : Nat) (xs : List UInt8), v = .slice ao xs.length cap ∧ Reads W (.slice ao xs.length cap) xs := by
  obtain ⟨a0, len, cap, rfl⟩ := okWide_slice Try.underlying28 hv
  obtain ⟨fuel, hf⟩ := h
  rcases open_ints Try.underlying28 Try.underlying5 kit_cells8 hf with ⟨hcs, hx⟩ | ⟨a, len', cap', zs, hcs, _, hl, hm, hz, hx, hcell, hwz⟩
  · simp [Value.cells] at hcs
    obtain ⟨rfl, rfl, rfl⟩ := hcs
    exact ⟨none, 0, [], rfl, Reads.nil W⟩
  · simp [Value.cells] at hcs
    obtain ⟨rfl, rfl, rfl⟩ := hcs
    simp only [if_true] at hz
    unfold maxLen at hm
    have hxl : ((zs.take len).map fun z => UInt8.ofNat z.toNat).length = len := by simp; omega
    refine ⟨some a, cap, (zs.take len).map fun z => UInt8.ofNat z.toNat, by rw [hxl], by omega, some a, cap, rfl, by omega, hm, by simp, ?_⟩
    by_cases hl0 : len = 0
    · left; subst hl0; rfl
    · right
      obtain ⟨b, off, spot⟩ := a
      have hspot : spot = none := by simpa [Addr.add] using World.cell?_spot (hcell 0 (by omega))
      subst hspot
      refine ⟨b, off, rfl, World.block_lt_of_cell? W ⟨b, off, none⟩ (by simpa [Addr.add] using hcell 0 (by omega)), fun j hj => ?_⟩
      have hjz : j < zs.length := by omega
      rw [hxl] at hj
      rw [← add_plain, hcell j hjz]
      have hw := hwz (zs[j]) (List.getElem_mem hjz)
      have hb : 0 ≤ zs[j] ∧ zs[j] ≤ 255 := by simpa [Lit.wf, IntKind.min, IntKind.max, IntKind.signed, IntKind.bits] using hw
      have e1 : ((zs.take len).map fun z => UInt8.ofNat z.toNat).getD j 0 = UInt8.ofNat (zs[j]).toNat := by
        simp [List.getD, hj, List.getElem?_eq_getElem hjz]
      rw [e1]
      simp [List.getD, List.getElem?_eq_getElem hjz]
      omega
end Go.Proofs.Ytpkhgjdpgbkchaa
