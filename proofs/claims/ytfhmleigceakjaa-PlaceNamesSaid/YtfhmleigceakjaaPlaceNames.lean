/- The law PlaceNames: its walk. Conditions: none. -/
import Derived.Test.YtfhmleigceakjaaPlaceLaws
namespace Go.Proofs.Ytfhmleigceakjaa.Place
open Go.RowKit Stamp
attribute [local go_sem ↓] Go.wp_at_zero Go.wp_at_succ

theorem check_lit {l : List Run} {c : Int} (h : chk l = c) (W : World) (v : Value) (hv : Runs W v l) :
    Calls Try.prog 14 #[v] W fun e w' => e = .returned (.int .i64 c) ∧ Below W.heap.size W w' := check_is hv h
theorem last_lit {l : List Run} {z y : Int} (h : lastV l = (z, y)) (W : World) (v : Value) (hv : Runs W v l) :
    Calls Try.prog 17 #[v] W fun e w' => e = .returned (.agg #[.int .u32 z, .int .u8 y]) ∧ Below W.heap.size W w' := by
  have := pLast_any hv
  rwa [h] at this

set_option maxRecDepth 100000 in
set_option maxHeartbeats 8000000 in
theorem names_walk (w : World) :
    Calls Try.prog 3 #[] w fun e w' => e = .returned (.bool true) ∧ Below w.heap.size w w' := by
  have U1 := Lib.hid (under_lit (t := 3) (r := 1) 3 1 rfl rfl (ht := by decide) (hr := by decide) (l := [lr 1 0 2 (by decide)]) (l' := [lr 1 0 2 (by decide), lr 3 1 1 (by decide)]) (c := 0) (by decide +kernel))
  have U2 := Lib.hid (under_lit (t := 7) (r := 2) 7 2 rfl rfl (ht := by decide) (hr := by decide) (l := []) (l' := [lr 7 2 1 (by decide)]) (c := 0) (by decide +kernel))
  have U3 := Lib.hid (under_lit (t := 2) (r := 1) 2 1 rfl rfl (ht := by decide) (hr := by decide) (l := [lr 1 0 2 (by decide)]) (l' := []) (c := 2) (by decide +kernel))
  have U4 := Lib.hid (under_lit (t := 5000) (r := 0) 5000 0 rfl rfl (ht := by decide) (hr := by decide) (l := [lr 1 0 4096 (by decide)]) (l' := []) (c := 60) (by decide +kernel))
  have S1 := Lib.hid (rsame_lit (p := [lr 1 0 2 (by decide), lr 3 1 1 (by decide)]) (q := [lr 1 0 2 (by decide), lr 3 1 1 (by decide)]) (c := true) (by decide +kernel))
  have S2 := Lib.hid (rsame_lit (p := [lr 7 2 1 (by decide)]) (q := [lr 7 2 1 (by decide)]) (c := true) (by decide +kernel))
  have C1 := Lib.hid (cmp_lit (p := [lr 1 0 1 (by decide), lr 5 0 1 (by decide)]) (q := [lr 1 0 1 (by decide), lr 5 1 1 (by decide)]) (c := 1) (by decide +kernel))
  have C2 := Lib.hid (cmp_lit (p := []) (q := [lr 1 0 1 (by decide)]) (c := -1) (by decide +kernel))
  have K1 := Lib.hid (check_lit (l := [lr 1 0 2 (by decide), lr 3 0 1 (by decide)]) (c := 8) (by decide +kernel))
  have K2 := Lib.hid (check_lit (l := [lr 1 0 2 (by decide), lr 2 1 1 (by decide)]) (c := 8) (by decide +kernel))
  have K3 := Lib.hid (check_lit (l := []) (c := 8) (by decide +kernel))
  have K4 := Lib.hid (check_lit (l := [lr 1 0 4097 (by decide)]) (c := 8) (by decide +kernel))
  have AL : Hid (∀ W : World, Calls Try.prog 15 #[] W fun e w' => e = .returned (.bool true) ∧ Below W.heap.size W w') := fun W => alive_any W
  have G1 := Lib.hid (beg_lit (p := [lr 1 0 2 (by decide)]) (q := [lr 1 0 3 (by decide), lr 9 1 1 (by decide)]) (c := true) (by decide +kernel))
  have G2 := Lib.hid (beg_lit (p := [lr 1 0 2 (by decide)]) (q := [lr 1 0 1 (by decide)]) (c := false) (by decide +kernel))
  have Z1 := Lib.hid (last_lit (l := [lr 1 0 2 (by decide), lr 9 1 3 (by decide)]) (z := 11) (y := 1) (by decide +kernel))
  go_enter Try.func3, Try.ntmps3
  go_wp2_with (first | (go_at_call 11; (with_reducible refine (run_any _ _ _ _).mono ?_); rintro e w9 ⟨rfl, rfl⟩) | (go_at_call 10; (with_reducible refine (of_any _ _ _ _).mono ?_); rintro e w9 ⟨rfl, rfl⟩))
  refine (U1.out _ _ ?_).mono ?_
  · repeat' (first | exact Runs.nil _ | (refine runs_lit _ _ _ _ _ ?_ ?_ ?_ ?_; (· rfl); (· rfl); (· decide); (· (simp; done))) | (with_reducible refine Runs.alloc ?_ _))
  rintro e w1 ⟨aoA, capA, rfl, oA, b1⟩
  have B1 : Below w.heap.size w w1 := by
    refine bt ?_ b1
    repeat' (first | exact Below.refl _ _ | assumption | (with_reducible refine Below.alloc ?_ ?_ _) | exact Nat.le_refl _ | (show (_ : Nat) ≤ _; omega) | (show (_ : Nat) ≤ _; simp; done) | (show (_ : Nat) ≤ _; simp; omega))
  have HB1 := Lib.hid B1
  have RA := Lib.hid (Runs.own oA)
  clear oA
  clear b1 B1
  go_wp2_with (first | (go_at_call 11; (with_reducible refine (run_any _ _ _ _).mono ?_); rintro e w9 ⟨rfl, rfl⟩) | (go_at_call 10; (with_reducible refine (of_any _ _ _ _).mono ?_); rintro e w9 ⟨rfl, rfl⟩))
  refine (U2.out _ _ ?_).mono ?_
  · exact Runs.nil _
  rintro e w2 ⟨aoB, capB, rfl, oB, b2⟩
  have B2 : Below w1.heap.size w1 w2 := by
    refine bt ?_ b2
    repeat' (first | exact Below.refl _ _ | assumption | (with_reducible refine Below.alloc ?_ ?_ _) | exact Nat.le_refl _ | (show (_ : Nat) ≤ _; omega) | (show (_ : Nat) ≤ _; simp; done) | (show (_ : Nat) ≤ _; simp; omega))
  have HB2 := Lib.hid B2
  have RB := Lib.hid (Runs.own oB)
  clear oB
  clear b2 B2
  go_wp2_with (first | (go_at_call 11; (with_reducible refine (run_any _ _ _ _).mono ?_); rintro e w9 ⟨rfl, rfl⟩) | (go_at_call 10; (with_reducible refine (of_any _ _ _ _).mono ?_); rintro e w9 ⟨rfl, rfl⟩))
  refine (U3.out _ _ ?_).mono ?_
  · repeat' (first | exact Runs.nil _ | (refine runs_lit _ _ _ _ _ ?_ ?_ ?_ ?_; (· rfl); (· rfl); (· decide); (· (simp; done))) | (with_reducible refine Runs.alloc ?_ _))
  rintro e w3 ⟨aoC, capC, rfl, oC, b3⟩
  have B3 : Below w2.heap.size w2 w3 := by
    refine bt ?_ b3
    repeat' (first | exact Below.refl _ _ | assumption | (with_reducible refine Below.alloc ?_ ?_ _) | exact Nat.le_refl _ | (show (_ : Nat) ≤ _; omega) | (show (_ : Nat) ≤ _; simp; done) | (show (_ : Nat) ≤ _; simp; omega))
  have HB3 := Lib.hid B3
  clear oC
  clear b3 B3
  go_wp2_with (first | (go_at_call 11; (with_reducible refine (run_any _ _ _ _).mono ?_); rintro e w9 ⟨rfl, rfl⟩) | (go_at_call 10; (with_reducible refine (of_any _ _ _ _).mono ?_); rintro e w9 ⟨rfl, rfl⟩))
  refine (U4.out _ _ ?_).mono ?_
  · repeat' (first | exact Runs.nil _ | (refine runs_lit _ _ _ _ _ ?_ ?_ ?_ ?_; (· rfl); (· rfl); (· decide); (· (simp; done))) | (with_reducible refine Runs.alloc ?_ _))
  rintro e w4 ⟨aoD, capD, rfl, oD, b4⟩
  have B4 : Below w3.heap.size w3 w4 := by
    refine bt ?_ b4
    repeat' (first | exact Below.refl _ _ | assumption | (with_reducible refine Below.alloc ?_ ?_ _) | exact Nat.le_refl _ | (show (_ : Nat) ≤ _; omega) | (show (_ : Nat) ≤ _; simp; done) | (show (_ : Nat) ≤ _; simp; omega))
  have HB4 := Lib.hid B4
  clear oD
  clear b4 B4
  go_wp2_with (first | (go_at_call 11; (with_reducible refine (run_any _ _ _ _).mono ?_); rintro e w9 ⟨rfl, rfl⟩) | (go_at_call 10; (with_reducible refine (of_any _ _ _ _).mono ?_); rintro e w9 ⟨rfl, rfl⟩))
  refine (S1.out _ _ _ ?_ ?_).mono ?_
  · refine Runs.keeps (Runs.keeps RA.out (bt HB2.out (bt HB3.out (HB4.out)))) ?_
    repeat' (first | exact Below.refl _ _ | assumption | (with_reducible refine Below.alloc ?_ ?_ _) | exact Nat.le_refl _ | (show (_ : Nat) ≤ _; omega) | (show (_ : Nat) ≤ _; simp; done) | (show (_ : Nat) ≤ _; simp; omega))
  · repeat' (first | exact Runs.nil _ | (refine runs_lit _ _ _ _ _ ?_ ?_ ?_ ?_; (· rfl); (· rfl); (· decide); (· (simp; done))) | (with_reducible refine Runs.alloc ?_ _))
  rintro e w5 ⟨rfl, b5⟩
  have B5 : Below w4.heap.size w4 w5 := by
    refine bt ?_ b5
    repeat' (first | exact Below.refl _ _ | assumption | (with_reducible refine Below.alloc ?_ ?_ _) | exact Nat.le_refl _ | (show (_ : Nat) ≤ _; omega) | (show (_ : Nat) ≤ _; simp; done) | (show (_ : Nat) ≤ _; simp; omega))
  have HB5 := Lib.hid B5
  clear b5 B5
  go_wp2_with (first | (go_at_call 11; (with_reducible refine (run_any _ _ _ _).mono ?_); rintro e w9 ⟨rfl, rfl⟩) | (go_at_call 10; (with_reducible refine (of_any _ _ _ _).mono ?_); rintro e w9 ⟨rfl, rfl⟩))
  refine (S2.out _ _ _ ?_ ?_).mono ?_
  · refine Runs.keeps (Runs.keeps RB.out (bt HB3.out (bt HB4.out (HB5.out)))) ?_
    repeat' (first | exact Below.refl _ _ | assumption | (with_reducible refine Below.alloc ?_ ?_ _) | exact Nat.le_refl _ | (show (_ : Nat) ≤ _; omega) | (show (_ : Nat) ≤ _; simp; done) | (show (_ : Nat) ≤ _; simp; omega))
  · repeat' (first | exact Runs.nil _ | (refine runs_lit _ _ _ _ _ ?_ ?_ ?_ ?_; (· rfl); (· rfl); (· decide); (· (simp; done))) | (with_reducible refine Runs.alloc ?_ _))
  rintro e w6 ⟨rfl, b6⟩
  have B6 : Below w5.heap.size w5 w6 := by
    refine bt ?_ b6
    repeat' (first | exact Below.refl _ _ | assumption | (with_reducible refine Below.alloc ?_ ?_ _) | exact Nat.le_refl _ | (show (_ : Nat) ≤ _; omega) | (show (_ : Nat) ≤ _; simp; done) | (show (_ : Nat) ≤ _; simp; omega))
  have HB6 := Lib.hid B6
  clear b6 B6
  go_wp2_with (first | (go_at_call 11; (with_reducible refine (run_any _ _ _ _).mono ?_); rintro e w9 ⟨rfl, rfl⟩) | (go_at_call 10; (with_reducible refine (of_any _ _ _ _).mono ?_); rintro e w9 ⟨rfl, rfl⟩))
  refine (C1.out _ _ _ ?_ ?_).mono ?_
  · repeat' (first | exact Runs.nil _ | (refine runs_lit _ _ _ _ _ ?_ ?_ ?_ ?_; (· rfl); (· rfl); (· decide); (· (simp; done))) | (with_reducible refine Runs.alloc ?_ _))
  · repeat' (first | exact Runs.nil _ | (refine runs_lit _ _ _ _ _ ?_ ?_ ?_ ?_; (· rfl); (· rfl); (· decide); (· (simp; done))) | (with_reducible refine Runs.alloc ?_ _))
  rintro e w7 ⟨rfl, b7⟩
  have B7 : Below w6.heap.size w6 w7 := by
    refine bt ?_ b7
    repeat' (first | exact Below.refl _ _ | assumption | (with_reducible refine Below.alloc ?_ ?_ _) | exact Nat.le_refl _ | (show (_ : Nat) ≤ _; omega) | (show (_ : Nat) ≤ _; simp; done) | (show (_ : Nat) ≤ _; simp; omega))
  have HB7 := Lib.hid B7
  clear b7 B7
  go_wp2_with (first | (go_at_call 11; (with_reducible refine (run_any _ _ _ _).mono ?_); rintro e w9 ⟨rfl, rfl⟩) | (go_at_call 10; (with_reducible refine (of_any _ _ _ _).mono ?_); rintro e w9 ⟨rfl, rfl⟩))
  refine (C2.out _ _ _ ?_ ?_).mono ?_
  · exact Runs.nil _
  · repeat' (first | exact Runs.nil _ | (refine runs_lit _ _ _ _ _ ?_ ?_ ?_ ?_; (· rfl); (· rfl); (· decide); (· (simp; done))) | (with_reducible refine Runs.alloc ?_ _))
  rintro e w8 ⟨rfl, b8⟩
  have B8 : Below w7.heap.size w7 w8 := by
    refine bt ?_ b8
    repeat' (first | exact Below.refl _ _ | assumption | (with_reducible refine Below.alloc ?_ ?_ _) | exact Nat.le_refl _ | (show (_ : Nat) ≤ _; omega) | (show (_ : Nat) ≤ _; simp; done) | (show (_ : Nat) ≤ _; simp; omega))
  have HB8 := Lib.hid B8
  clear b8 B8
  go_wp2_with (first | (go_at_call 11; (with_reducible refine (run_any _ _ _ _).mono ?_); rintro e w9 ⟨rfl, rfl⟩) | (go_at_call 10; (with_reducible refine (of_any _ _ _ _).mono ?_); rintro e w9 ⟨rfl, rfl⟩))
  refine (K1.out _ _ ?_).mono ?_
  · repeat' (first | exact Runs.nil _ | (refine runs_lit _ _ _ _ _ ?_ ?_ ?_ ?_; (· rfl); (· rfl); (· decide); (· (simp; done))) | (with_reducible refine Runs.alloc ?_ _))
  rintro e w9 ⟨rfl, b9⟩
  have B9 : Below w8.heap.size w8 w9 := by
    refine bt ?_ b9
    repeat' (first | exact Below.refl _ _ | assumption | (with_reducible refine Below.alloc ?_ ?_ _) | exact Nat.le_refl _ | (show (_ : Nat) ≤ _; omega) | (show (_ : Nat) ≤ _; simp; done) | (show (_ : Nat) ≤ _; simp; omega))
  have HB9 := Lib.hid B9
  clear b9 B9
  go_wp2_with (first | (go_at_call 11; (with_reducible refine (run_any _ _ _ _).mono ?_); rintro e w9 ⟨rfl, rfl⟩) | (go_at_call 10; (with_reducible refine (of_any _ _ _ _).mono ?_); rintro e w9 ⟨rfl, rfl⟩))
  refine (K2.out _ _ ?_).mono ?_
  · repeat' (first | exact Runs.nil _ | (refine runs_lit _ _ _ _ _ ?_ ?_ ?_ ?_; (· rfl); (· rfl); (· decide); (· (simp; done))) | (with_reducible refine Runs.alloc ?_ _))
  rintro e w10 ⟨rfl, b10⟩
  have B10 : Below w9.heap.size w9 w10 := by
    refine bt ?_ b10
    repeat' (first | exact Below.refl _ _ | assumption | (with_reducible refine Below.alloc ?_ ?_ _) | exact Nat.le_refl _ | (show (_ : Nat) ≤ _; omega) | (show (_ : Nat) ≤ _; simp; done) | (show (_ : Nat) ≤ _; simp; omega))
  have HB10 := Lib.hid B10
  clear b10 B10
  go_wp2_with (first | (go_at_call 11; (with_reducible refine (run_any _ _ _ _).mono ?_); rintro e w9 ⟨rfl, rfl⟩) | (go_at_call 10; (with_reducible refine (of_any _ _ _ _).mono ?_); rintro e w9 ⟨rfl, rfl⟩))
  refine (K3.out _ _ ?_).mono ?_
  · exact Runs.nil _
  rintro e w11 ⟨rfl, b11⟩
  have B11 : Below w10.heap.size w10 w11 := by
    refine bt ?_ b11
    repeat' (first | exact Below.refl _ _ | assumption | (with_reducible refine Below.alloc ?_ ?_ _) | exact Nat.le_refl _ | (show (_ : Nat) ≤ _; omega) | (show (_ : Nat) ≤ _; simp; done) | (show (_ : Nat) ≤ _; simp; omega))
  have HB11 := Lib.hid B11
  clear b11 B11
  go_wp2_with (first | (go_at_call 11; (with_reducible refine (run_any _ _ _ _).mono ?_); rintro e w9 ⟨rfl, rfl⟩) | (go_at_call 10; (with_reducible refine (of_any _ _ _ _).mono ?_); rintro e w9 ⟨rfl, rfl⟩))
  refine (K4.out _ _ ?_).mono ?_
  · repeat' (first | exact Runs.nil _ | (refine runs_lit _ _ _ _ _ ?_ ?_ ?_ ?_; (· rfl); (· rfl); (· decide); (· (simp; done))) | (with_reducible refine Runs.alloc ?_ _))
  rintro e w12 ⟨rfl, b12⟩
  have B12 : Below w11.heap.size w11 w12 := by
    refine bt ?_ b12
    repeat' (first | exact Below.refl _ _ | assumption | (with_reducible refine Below.alloc ?_ ?_ _) | exact Nat.le_refl _ | (show (_ : Nat) ≤ _; omega) | (show (_ : Nat) ≤ _; simp; done) | (show (_ : Nat) ≤ _; simp; omega))
  have HB12 := Lib.hid B12
  clear b12 B12
  go_wp2_with (first | (go_at_call 11; (with_reducible refine (run_any _ _ _ _).mono ?_); rintro e w9 ⟨rfl, rfl⟩) | (go_at_call 10; (with_reducible refine (of_any _ _ _ _).mono ?_); rintro e w9 ⟨rfl, rfl⟩))
  refine (AL.out _).mono ?_
  rintro e w13 ⟨rfl, b13⟩
  have B13 : Below w12.heap.size w12 w13 := by
    refine bt ?_ b13
    repeat' (first | exact Below.refl _ _ | assumption | (with_reducible refine Below.alloc ?_ ?_ _) | exact Nat.le_refl _ | (show (_ : Nat) ≤ _; omega) | (show (_ : Nat) ≤ _; simp; done) | (show (_ : Nat) ≤ _; simp; omega))
  have HB13 := Lib.hid B13
  clear b13 B13
  go_wp2_with (first | (go_at_call 11; (with_reducible refine (run_any _ _ _ _).mono ?_); rintro e w9 ⟨rfl, rfl⟩) | (go_at_call 10; (with_reducible refine (of_any _ _ _ _).mono ?_); rintro e w9 ⟨rfl, rfl⟩))
  refine (G1.out _ _ _ ?_ ?_).mono ?_
  · repeat' (first | exact Runs.nil _ | (refine runs_lit _ _ _ _ _ ?_ ?_ ?_ ?_; (· rfl); (· rfl); (· decide); (· (simp; done))) | (with_reducible refine Runs.alloc ?_ _))
  · repeat' (first | exact Runs.nil _ | (refine runs_lit _ _ _ _ _ ?_ ?_ ?_ ?_; (· rfl); (· rfl); (· decide); (· (simp; done))) | (with_reducible refine Runs.alloc ?_ _))
  rintro e w14 ⟨rfl, b14⟩
  have B14 : Below w13.heap.size w13 w14 := by
    refine bt ?_ b14
    repeat' (first | exact Below.refl _ _ | assumption | (with_reducible refine Below.alloc ?_ ?_ _) | exact Nat.le_refl _ | (show (_ : Nat) ≤ _; omega) | (show (_ : Nat) ≤ _; simp; done) | (show (_ : Nat) ≤ _; simp; omega))
  have HB14 := Lib.hid B14
  clear b14 B14
  go_wp2_with (first | (go_at_call 11; (with_reducible refine (run_any _ _ _ _).mono ?_); rintro e w9 ⟨rfl, rfl⟩) | (go_at_call 10; (with_reducible refine (of_any _ _ _ _).mono ?_); rintro e w9 ⟨rfl, rfl⟩))
  refine (G2.out _ _ _ ?_ ?_).mono ?_
  · repeat' (first | exact Runs.nil _ | (refine runs_lit _ _ _ _ _ ?_ ?_ ?_ ?_; (· rfl); (· rfl); (· decide); (· (simp; done))) | (with_reducible refine Runs.alloc ?_ _))
  · repeat' (first | exact Runs.nil _ | (refine runs_lit _ _ _ _ _ ?_ ?_ ?_ ?_; (· rfl); (· rfl); (· decide); (· (simp; done))) | (with_reducible refine Runs.alloc ?_ _))
  rintro e w15 ⟨rfl, b15⟩
  have B15 : Below w14.heap.size w14 w15 := by
    refine bt ?_ b15
    repeat' (first | exact Below.refl _ _ | assumption | (with_reducible refine Below.alloc ?_ ?_ _) | exact Nat.le_refl _ | (show (_ : Nat) ≤ _; omega) | (show (_ : Nat) ≤ _; simp; done) | (show (_ : Nat) ≤ _; simp; omega))
  have HB15 := Lib.hid B15
  clear b15 B15
  go_wp2_with (first | (go_at_call 11; (with_reducible refine (run_any _ _ _ _).mono ?_); rintro e w9 ⟨rfl, rfl⟩) | (go_at_call 10; (with_reducible refine (of_any _ _ _ _).mono ?_); rintro e w9 ⟨rfl, rfl⟩))
  refine (Z1.out _ _ ?_).mono ?_
  · repeat' (first | exact Runs.nil _ | (refine runs_lit _ _ _ _ _ ?_ ?_ ?_ ?_; (· rfl); (· rfl); (· decide); (· (simp; done))) | (with_reducible refine Runs.alloc ?_ _))
  rintro e w16 ⟨rfl, b16⟩
  have B16 : Below w15.heap.size w15 w16 := by
    refine bt ?_ b16
    repeat' (first | exact Below.refl _ _ | assumption | (with_reducible refine Below.alloc ?_ ?_ _) | exact Nat.le_refl _ | (show (_ : Nat) ≤ _; omega) | (show (_ : Nat) ≤ _; simp; done) | (show (_ : Nat) ≤ _; simp; omega))
  have HB16 := Lib.hid B16
  clear b16 B16
  go_wp2
  go_ret
  exact ⟨rfl, bt HB1.out (bt HB2.out (bt HB3.out (bt HB4.out (bt HB5.out (bt HB6.out (bt HB7.out (bt HB8.out (bt HB9.out (bt HB10.out (bt HB11.out (bt HB12.out (bt HB13.out (bt HB14.out (bt HB15.out (HB16.out)))))))))))))))⟩
end Go.Proofs.Ytfhmleigceakjaa.Place
