/- The laws of layer 4 that ask no reference: they answer true, and change nothing that was there. Conditions: none. -/
import Derived.Test.YtpkhgjdpgbkchaaPointText
import Derived.Test.YtpkhgjdpgbkchaaPointRef2
namespace Go.Proofs.Ytpkhgjdpgbkchaa.Point
open Go.RowKit Go.WideShapes

/-- Points, where the answer is known. -/
theorem points_is (s : ByteArray) (hs : s.size ≤ 1073741824) {L : List Int} {c : Int} (h : pr s.data.toList = (L, c)) (w : World) : Calls Try.prog 9 #[.string s] w (fun e w' => Ans L c e w w') := by
  have := points_any s w hs
  rw [h] at this
  exact this

theorem none_any (s : ByteArray) (hs : s.size ≤ 1073741824) (h : pr s.data.toList = ([], 40)) (w : World) : Calls Try.prog 10 #[.string s] w fun e w' => e = .returned (.bool true) ∧ Below w.heap.size w w' := by
  have H := Lib.hid (points_is s hs h)
  clear h
  go_enter Try.func10, Try.ntmps10
  go_wp2_with fail
  refine (H.out _).mono ?_
  rintro e w1 ⟨ao, cap, rfl, own1, b1⟩
  clear own1
  go_wp2
  go_ret
  exact ⟨rfl, b1⟩

theorem are_any (s : ByteArray) (hs : s.size ≤ 1073741824) {l : List Int} (h : pr s.data.toList = (l, 0)) {v : Value} {w : World} (hv : Ints w v l) : Calls Try.prog 11 #[.string s, v] w fun e w' => e = .returned (.bool true) ∧ Below w.heap.size w w' := by
  have H := Lib.hid (points_is s hs h)
  have HV := Lib.hid hv
  clear h hv
  go_enter Try.func11, Try.ntmps11
  go_wp2_with fail
  refine (H.out _).mono ?_
  rintro e w1 ⟨ao, cap, rfl, own1, b1⟩
  have h1 := Lib.hid (Ints.own own1)
  have h2 := Lib.hid (HV.out.keeps b1)
  clear own1
  go_wp2_with fail
  refine (same_yes h1.out h2.out).mono ?_
  rintro e w2 ⟨rfl, b2⟩
  have hb := bt b1 b2
  clear b1 b2
  go_wp2
  go_ret
  exact ⟨rfl, hb⟩

theorem ints_new (w : World) (l : List Int) (n : Nat) (hn : n = l.length) (hl : l.length ≤ 1000000) (fr : Nat × Nat) : Ints (w.alloc (.cells (is l).toArray 3 fr)) (.slice (some ⟨w.heap.size, 0, none⟩) n n) l := by
  subst hn
  exact sees_new w (is l) 1 l.length (by simp [is]) hl _ _

theorem alive_any (w : World) : Calls Try.prog 13 #[] w fun e w' => e = .returned (.bool true) ∧ Below w.heap.size w w' := by
  have r1 : Hid (∀ w : World, Ints (w.alloc (.cells #[.int .i64 97, .int .i64 98] 3)) (.slice (some ⟨w.heap.size, 0, none⟩) 2 2) [97, 98]) := fun w => ints_new w [97, 98] 2 rfl (by decide) _
  have r2 : Hid (∀ w : World, Ints (w.alloc (.cells #[.int .i64 8364] 3)) (.slice (some ⟨w.heap.size, 0, none⟩) 1 1) [8364]) := fun w => ints_new w [8364] 1 rfl (by decide) _
  have r3 : Hid (∀ w : World, Ints (w.alloc (.cells #[.int .i64 128512] 3)) (.slice (some ⟨w.heap.size, 0, none⟩) 1 1) [128512]) := fun w => ints_new w [128512] 1 rfl (by decide) _
  have p1 : Hid (pr (ByteArray.mk #[97, 98]).data.toList = ([97, 98], 0)) := by show pr _ = _; decide +kernel
  have p2 : Hid (pr (ByteArray.mk #[226, 130, 172]).data.toList = ([8364], 0)) := by show pr _ = _; decide +kernel
  have p3 : Hid (pr (ByteArray.mk #[240, 159, 152, 128]).data.toList = ([128512], 0)) := by show pr _ = _; decide +kernel
  go_enter Try.func13, Try.ntmps13
  go_wp2_with fail
  refine (are_any _ (by decide) p1.out (r1.out _)).mono ?_
  rintro e w1 ⟨rfl, b1⟩
  have hb1 : Below w.heap.size w w1 := ((Below.refl _ _).alloc (Nat.le_refl _) _).trans (b1.mono (by simp))
  clear b1
  go_wp2_with fail
  refine (are_any _ (by decide) p2.out (r2.out _)).mono ?_
  rintro e w2 ⟨rfl, b2⟩
  have hb2 : Below w.heap.size w w2 := (hb1.alloc hb1.size _).trans (b2.mono (by have := hb1.size; simp; omega))
  clear b2 hb1
  go_wp2_with fail
  refine (are_any _ (by decide) p3.out (r3.out _)).mono ?_
  rintro e w3 ⟨rfl, b3⟩
  have hb3 : Below w.heap.size w w3 := (hb2.alloc hb2.size _).trans (b3.mono (by have := hb2.size; simp; omega))
  clear b3 hb2
  go_wp2
  go_ret
  exact ⟨rfl, hb3⟩
end Go.Proofs.Ytpkhgjdpgbkchaa.Point
