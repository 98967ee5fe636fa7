/- NumNames answers true, and changes nothing that was there. Conditions: none. -/
import Derived.Test.YtlcehgfcmpkafaaNumLaws2
namespace Go.Proofs.Ytlcehgfcmpkafaa.Num
open Go.RowKit

theorem bad_reads {w : World} {v : Value} {xs : List UInt8} (h : Reads w v xs) (hg : get xs = (0, 0, 8)) :
    Calls Try.prog 11 #[v] w fun e w' => e = .returned (.bool true) ∧ w = w' := by
  have HG := Lib.hid hg
  have HR := Lib.hid h
  clear hg h
  go_enter Try.func11, Try.ntmps11
  go_wp2_with fail
  refine (get_reads HR.out HG.out).mono ?_
  rintro e w1 ⟨rfl, rfl⟩
  go_wp2
  go_ret
  exact ⟨rfl, rfl⟩

/-- A new row of bytes. -/
theorem reads_new (w : World) (xs : List UInt8) (h : xs.length ≤ 1000) : Reads (w.alloc (.cells (bs xs).toArray 5)) (.slice (some ⟨w.heap.size, 0, none⟩) xs.length xs.length) xs := by
  refine ⟨by omega, _, _, rfl, Nat.le_refl _, by omega, by simp, .inr ⟨w.heap.size, 0, rfl, by simp, fun j hj => ?_⟩⟩
  rw [World.cell?_alloc_at _ _ _ _ rfl]
  show (bs xs).toArray[0 + j]? = _
  rw [Nat.zero_add, List.getElem?_toArray]
  exact bs_get xs j hj

theorem names_walk (w : World) : Calls Try.prog 3 #[] w fun e w' => e = .returned (.bool true) ∧ Below w.heap.size w w' := by
  have r1 : Hid (∀ w : World, Reads (w.alloc (.cells #[.int .u8 172, .int .u8 2, .int .u8 9] 5)) (.slice (some ⟨w.heap.size, 0, none⟩) 3 3) [172, 2, 9]) := fun w => reads_new w [172, 2, 9] (by decide)
  have r2 : Hid (∀ w : World, Reads (w.alloc (.cells #[.int .u8 128] 5)) (.slice (some ⟨w.heap.size, 0, none⟩) 1 1) [128]) := fun w => reads_new w [128] (by decide)
  have r3 : Hid (∀ w : World, Reads (w.alloc (.cells #[.int .u8 128, .int .u8 0] 5)) (.slice (some ⟨w.heap.size, 0, none⟩) 2 2) [128, 0]) := fun w => reads_new w [128, 0] (by decide)
  go_enter Try.func3, Try.ntmps3
  go_wp2_with fail
  refine (get_reads (r1.out w) (a := 300) (b := 2) (c := 0) (by decide)).mono ?_
  rintro e w1 ⟨rfl, rfl⟩
  go_wp2_with fail
  refine (put_no (-1) (by omega) _).mono ?_
  rintro e w1 ⟨rfl, rfl⟩
  go_wp2_with fail
  refine (put_no 1099511627777 (by omega) _).mono ?_
  rintro e w1 ⟨rfl, rfl⟩
  go_wp2_with fail
  refine (put_yes 1099511627776 (by decide) _).mono ?_
  rintro e w2 ⟨x, rfl, hx, b2⟩
  obtain ⟨ax, cx, rfl⟩ := own_shape hx
  have e6 : (enc 1099511627776).length = 6 := by decide
  rw [e6]
  have hb2 : Below w.heap.size w w2 := ((Below.refl _ _).alloc (Nat.le_refl _) _).trans (b2.mono (by simp))
  clear e6 hx b2
  go_wp2_with fail
  refine (alive_any w2).mono ?_
  rintro e w3 ⟨rfl, b3⟩
  have hb3 := bt hb2 b3
  clear hb2 b3
  go_wp2_with fail
  refine (bad_reads (Reads.nil w3) rfl).mono ?_
  rintro e w4 ⟨rfl, rfl⟩
  go_wp2_with fail
  refine (bad_reads (r2.out w3) (by decide)).mono ?_
  rintro e w4 ⟨rfl, rfl⟩
  go_wp2_with fail
  have r4 : Reads ((w3.alloc (.cells #[.int .u8 128] 5)).alloc (.cells #[.int .u8 128, .int .u8 0] 5)) (.slice (some ⟨w3.heap.size + 1, 0, none⟩) 2 2) [128, 0] := by
    have h := r3.out (w3.alloc (.cells #[.int .u8 128] 5))
    rw [show (w3.alloc (.cells #[.int .u8 128] 5)).heap.size = w3.heap.size + 1 by simp] at h
    exact h
  refine (bad_reads r4 (by decide)).mono ?_
  rintro e w4 ⟨rfl, rfl⟩
  go_wp2
  go_ret
  exact ⟨rfl, (hb3.alloc hb3.size _).alloc (Nat.le_trans hb3.size (by simp)) _⟩
end Go.Proofs.Ytlcehgfcmpkafaa.Num
