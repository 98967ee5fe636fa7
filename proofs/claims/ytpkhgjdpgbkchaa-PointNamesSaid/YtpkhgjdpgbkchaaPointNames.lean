/- PointNames answers true, and changes nothing that was there. Conditions: none. -/
import Derived.Test.YtpkhgjdpgbkchaaPointBack
import Derived.Laws.MakeOwn
namespace Go.Proofs.Ytpkhgjdpgbkchaa.Point
open Go.RowKit Go.WideShapes

theorem bs_noughts (n : Nat) : bs (List.replicate n 0) = List.replicate n (.int .u8 0) := by simp [bs]
theorem is_noughts (n : Nat) : is (List.replicate n 0) = List.replicate n (.int .i64 0) := by simp [is]
theorem flat_noughts (n : Nat) : flat (List.replicate n 0) = List.replicate n 0 := by
  induction n with
  | zero => rfl
  | succ n ih =>
    rw [List.replicate_succ, flat_cons, ih]
    have : enc 0 = [0] := by decide
    rw [this]
    rfl

theorem u8_inf : (Try.prog.info? 5).map (fun i => (i.zero, i.size, i.bytes)) = some (some (.int .u8 0), 1, 1) := by kernel_rfl

set_option maxHeartbeats 4000000 in
set_option maxRecDepth 100000 in
theorem names_walk (w : World) : Calls Try.prog 3 #[] w fun e w' => e = .returned (.bool true) ∧ Below w.heap.size w w' := by
  have r1 : Hid (∀ w : World, Ints (w.alloc (.cells #[.int .i64 8364] 3)) (.slice (some ⟨w.heap.size, 0, none⟩) 1 1) [8364]) := fun w => ints_new w [8364] 1 rfl (by decide) _
  have r2 : Hid (∀ w : World, Ints (w.alloc (.cells #[.int .i64 65533] 3)) (.slice (some ⟨w.heap.size, 0, none⟩) 1 1) [65533]) := fun w => ints_new w [65533] 1 rfl (by decide) _
  obtain ⟨S, hS⟩ : ∃ S, S = str [226, 130, 172] := ⟨_, rfl⟩
  have e0 : (S.toList == (ByteArray.mk #[226, 130, 172]).toList) = true := by rw [hS, ByteArray.toList_eq, ByteArray.toList_eq]; rfl
  have e0' : (S.toList == [226, 130, 172]) = true := by rw [hS, ByteArray.toList_eq]; rfl
  have K1 : Hid (∀ (W : World) (v : Value), Ints W v [8364] → Calls Try.prog 8 #[v] W (fun e w' => e = .returned (.tuple #[.string S, .int .i64 0]) ∧ Below W.heap.size W w')) := fun W v h => text_is (by
    have : tr [8364] = ([226, 130, 172], 0) := by decide +kernel
    rw [this, hS]) h
  obtain ⟨V, hV⟩ : ∃ V : List UInt8, V = List.replicate 1025 0 := ⟨_, rfl⟩
  obtain ⟨U, hU⟩ : ∃ U : List Int, U = List.replicate 1025 0 := ⟨_, rfl⟩
  have hvl : V.length = 1025 := by rw [hV, List.length_replicate]
  have hul : U.length = 1025 := by rw [hU, List.length_replicate]
  have HV : Hid (bs V = List.replicate 1025 (.int .u8 0)) := by rw [hV]; exact bs_noughts _
  have HU : Hid (is U = List.replicate 1025 (.int .i64 0)) := by rw [hU]; exact is_noughts _
  have pV : pr V = ([], 4) := by
    refine pr_many (l := U) ?_ (by omega)
    have : V = flat U := by rw [hU, flat_noughts, hV]
    rw [this]
    refine pts_flat fun x hx => ?_
    rw [hU] at hx
    rw [List.eq_of_mem_replicate hx]
    decide
  have K2 : Hid (∀ (W : World), Calls Try.prog 9 #[.string (str V)] W (fun e w' => Ans [] 4 e W w')) := fun W => points_is (str V) (by rw [str_size]; omega) pV W
  have K3 : Hid (∀ (W : World) (v : Value), Ints W v U → Calls Try.prog 8 #[v] W (fun e w' => e = .returned (.tuple #[.string (str []), .int .i64 4]) ∧ Below W.heap.size W w')) := fun W v h => text_is (by
    have : tr U = ([], 4) := by unfold tr; rw [if_neg (by omega)]
    rw [this]) h
  have p1 : Hid (pr (ByteArray.mk #[195]).data.toList = ([], 40)) := by show pr _ = _; decide +kernel
  have p2 : Hid (pr (ByteArray.mk #[192, 128]).data.toList = ([], 40)) := by show pr _ = _; decide +kernel
  have p3 : Hid (pr (ByteArray.mk #[237, 160, 128]).data.toList = ([], 40)) := by show pr _ = _; decide +kernel
  have p4 : Hid (pr (ByteArray.mk #[244, 144, 128, 128]).data.toList = ([], 40)) := by show pr _ = _; decide +kernel
  have p5 : Hid (pr (ByteArray.mk #[97, 128]).data.toList = ([], 40)) := by show pr _ = _; decide +kernel
  have p6 : Hid (pr (ByteArray.mk #[]).data.toList = ([], 0)) := by show pr _ = _; decide +kernel
  have p7 : Hid (pr (ByteArray.mk #[239, 191, 189]).data.toList = ([65533], 0)) := by show pr _ = _; decide +kernel
  obtain ⟨i0, hi, hz0, hz1, hz2⟩ := info_parts u8_inf
  obtain ⟨j0, hj, hy0, hy1, hy2⟩ := info_parts int_info
  have I0 : Hid (i0.bytes * 1025 ≤ 281474976710656) := by show _ ≤ _; rw [hz2]; decide
  have J0 : Hid (j0.bytes * 1025 ≤ 281474976710656) := by show _ ≤ _; rw [hy2]; decide
  have HVL := Lib.hid hvl
  have HUL := Lib.hid hul
  clear hS hV hU pV hz2 hy2 hvl hul
  go_enter Try.func3, Try.ntmps3
  go_wp2_with fail
  refine (K1.out _ _ (r1.out _)).mono ?_
  rintro e w1 ⟨rfl, b1⟩
  have hb1 : Below w.heap.size w w1 := ((Below.refl _ _).alloc (Nat.le_refl _) _).trans (b1.mono (by simp))
  have hs1 := hb1.size
  clear b1
  go_wp2_with (refine wpList_make_full _ rfl _ _ 28 rfl w1.heap.size 5 i0 (.int .u8 0) 1 Try.underlying28 hi hz0 hz1 .i64 .i64 1025 1025 1025 rfl rfl rfl rfl I0.out (by unfold maxLen; omega) (Nat.le_refl _) ?_)
  intro w2 own2 grow2
  have b2 : Below w1.heap.size w1 w2 := (Below.refl _ _).grown grow2 (Nat.le_refl _) (by intro k hk; cases hk)
  have hb2 := bt hb1 b2
  have q1 : (convert 28 9 (.slice (some ⟨w1.heap.size, 0, none⟩) 1025 1025)).run Try.prog w2 = .ok (.string (str V)) w2 := run_string (by
    have h := own2
    rw [toList_madeCells_one, ← HV.out] at h
    exact Reads.own (by rw [HVL.out]; exact h))
  clear own2 grow2 b2 hb1
  go_wp2_with fail
  refine (K2.out _).mono ?_
  rintro e w3 ⟨a3, c3, rfl, own3, b3⟩
  have hb3 := bt hb2 b3
  have hs3 := hb3.size
  clear own3 b3 hb2 q1
  go_wp2_with (refine wpList_make_full _ rfl _ _ 25 rfl w3.heap.size 3 j0 (.int .i64 0) 1 Try.underlying25 hj hy0 hy1 .i64 .i64 1025 1025 1025 rfl rfl rfl rfl J0.out (by unfold maxLen; omega) (Nat.le_refl _) ?_)
  intro w4 own4 grow4
  have b4 : Below w3.heap.size w3 w4 := (Below.refl _ _).grown grow4 (Nat.le_refl _) (by intro k hk; cases hk)
  have hb4 := bt hb3 b4
  have RU : Hid (Ints w4 (.slice (some ⟨w3.heap.size, 0, none⟩) 1025 1025) U) := by
    have h := own4
    rw [toList_madeCells_one, ← HU.out] at h
    exact Ints.own h
  clear own4 grow4 b4 hb3
  go_wp2_with fail
  refine (K3.out _ _ RU.out).mono ?_
  rintro e w5 ⟨rfl, b5⟩
  have hb5 := bt hb4 b5
  clear b5 hb4 RU
  go_wp2_with fail
  refine (none_any _ (by decide) p1.out _).mono ?_
  rintro e v1 ⟨rfl, b1⟩
  have hc1 := bt hb5 b1
  clear b1 hb5
  go_wp2_with fail
  refine (none_any _ (by decide) p2.out _).mono ?_
  rintro e v2 ⟨rfl, b2⟩
  have hc2 := bt hc1 b2
  clear b2 hc1
  go_wp2_with fail
  refine (none_any _ (by decide) p3.out _).mono ?_
  rintro e v3 ⟨rfl, b3⟩
  have hc3 := bt hc2 b3
  clear b3 hc2
  go_wp2_with fail
  refine (none_any _ (by decide) p4.out _).mono ?_
  rintro e v4 ⟨rfl, b4⟩
  have hc4 := bt hc3 b4
  clear b4 hc3
  go_wp2_with fail
  refine (none_any _ (by decide) p5.out _).mono ?_
  rintro e v5 ⟨rfl, b5⟩
  have hc5 := bt hc4 b5
  clear b5 hc4
  go_wp2_with fail
  refine (are_any _ (by decide) p6.out (Ints.nil _)).mono ?_
  rintro e v6 ⟨rfl, b6⟩
  have hc6 := bt hc5 b6
  have hs6 := hc6.size
  clear b6 hc5
  go_wp2_with fail
  refine (are_any _ (by decide) p7.out (r2.out _)).mono ?_
  rintro e v7 ⟨rfl, b7⟩
  have hc7 : Below w.heap.size w v7 := (hc6.alloc hs6 _).trans (b7.mono (by simp; omega))
  clear b7 hc6
  go_wp2_with fail
  refine (check_no _ (by decide) _).mono ?_
  rintro e x1 ⟨rfl, rfl⟩
  go_wp2_with fail
  refine (check_no _ (by decide) _).mono ?_
  rintro e x1 ⟨rfl, rfl⟩
  go_wp2_with fail
  refine (check_no _ (by decide) _).mono ?_
  rintro e x1 ⟨rfl, rfl⟩
  go_wp2_with fail
  refine (check_yes _ (by decide) _).mono ?_
  rintro e x1 ⟨rfl, rfl⟩
  go_wp2_with fail
  refine (check_yes _ (by decide) _).mono ?_
  rintro e x1 ⟨rfl, rfl⟩
  go_wp2_with fail
  refine (alive_any _).mono ?_
  rintro e v8 ⟨rfl, b8⟩
  have hc8 := bt hc7 b8
  clear b8 hc7
  go_wp2
  go_ret
  exact ⟨rfl, hc8⟩
end Go.Proofs.Ytpkhgjdpgbkchaa.Point
