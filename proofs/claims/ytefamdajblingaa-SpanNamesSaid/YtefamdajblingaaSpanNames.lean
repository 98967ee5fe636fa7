/- The law SpanNames: its walk. Conditions: none. -/
import Derived.Test.YtefamdajblingaaSpanMost
namespace Go.Proofs.Ytefamdajblingaa.Spans
open Go.RowKit
attribute [local go_sem ↓] Go.wp_at_zero Go.wp_at_succ

set_option maxRecDepth 100000 in
set_option maxHeartbeats 8000000 in
theorem names_walk (w : World) :
    Calls Try.prog 3 #[] w fun e w' => e = .returned (.bool true) ∧ Below w.heap.size w w' := by
  obtain ⟨XA, hXA⟩ := M_adds
  obtain ⟨XL, hXL⟩ := M_lefts
  obtain ⟨Tl12, hTl12⟩ : ∃ T, T = (pairs [1, 2]) := ⟨_, rfl⟩
  have Ol12 : Hid (∀ (W : World) (u : Value), Us W u [1, 2] → Calls Try.prog 9 #[u] W fun e w' => ∃ v', e = .returned v' ∧ w'.ownsRow W.heap.size 31 2 v' Tl12.length (sps Tl12) ∧ Below W.heap.size W w') := fun W u h => by rw [hTl12]; exact of_any h (by decide) (by decide)
  obtain ⟨Tl44, hTl44⟩ : ∃ T, T = (pairs [4, 4, 9, 9]) := ⟨_, rfl⟩
  have Ol44 : Hid (∀ (W : World) (u : Value), Us W u [4, 4, 9, 9] → Calls Try.prog 9 #[u] W fun e w' => ∃ v', e = .returned v' ∧ w'.ownsRow W.heap.size 31 2 v' Tl44.length (sps Tl44) ∧ Below W.heap.size W w') := fun W u h => by rw [hTl44]; exact of_any h (by decide) (by decide)
  obtain ⟨Tr1, hTr1⟩ : ∃ T, T = (pairs [1, 2, 4, 4, 9, 9]) := ⟨_, rfl⟩
  have Or1 : Hid (∀ (W : World) (u : Value), Us W u [1, 2, 4, 4, 9, 9] → Calls Try.prog 9 #[u] W fun e w' => ∃ v', e = .returned v' ∧ w'.ownsRow W.heap.size 31 2 v' Tr1.length (sps Tr1) ∧ Below W.heap.size W w') := fun W u h => by rw [hTr1]; exact of_any h (by decide) (by decide)
  obtain ⟨Tl19, hTl19⟩ : ∃ T, T = (pairs [1, 9]) := ⟨_, rfl⟩
  have Ol19 : Hid (∀ (W : World) (u : Value), Us W u [1, 9] → Calls Try.prog 9 #[u] W fun e w' => ∃ v', e = .returned v' ∧ w'.ownsRow W.heap.size 31 2 v' Tl19.length (sps Tl19) ∧ Below W.heap.size W w') := fun W u h => by rw [hTl19]; exact of_any h (by decide) (by decide)
  obtain ⟨Tl33, hTl33⟩ : ∃ T, T = (pairs [3, 3, 7, 20]) := ⟨_, rfl⟩
  have Ol33 : Hid (∀ (W : World) (u : Value), Us W u [3, 3, 7, 20] → Calls Try.prog 9 #[u] W fun e w' => ∃ v', e = .returned v' ∧ w'.ownsRow W.heap.size 31 2 v' Tl33.length (sps Tl33) ∧ Below W.heap.size W w') := fun W u h => by rw [hTl33]; exact of_any h (by decide) (by decide)
  obtain ⟨Tr2, hTr2⟩ : ∃ T, T = (pairs [1, 2, 4, 6]) := ⟨_, rfl⟩
  have Or2 : Hid (∀ (W : World) (u : Value), Us W u [1, 2, 4, 6] → Calls Try.prog 9 #[u] W fun e w' => ∃ v', e = .returned v' ∧ w'.ownsRow W.heap.size 31 2 v' Tr2.length (sps Tr2) ∧ Below W.heap.size W w') := fun W u h => by rw [hTr2]; exact of_any h (by decide) (by decide)
  obtain ⟨Tl50, hTl50⟩ : ∃ T, T = (pairs [5000, 5000]) := ⟨_, rfl⟩
  have Ol50 : Hid (∀ (W : World) (u : Value), Us W u [5000, 5000] → Calls Try.prog 9 #[u] W fun e w' => ∃ v', e = .returned v' ∧ w'.ownsRow W.heap.size 31 2 v' Tl50.length (sps Tl50) ∧ Below W.heap.size W w') := fun W u h => by rw [hTl50]; exact of_any h (by decide) (by decide)
  obtain ⟨Tlc, hTlc⟩ : ∃ T, T = (pairs [3, 5, 8, 9]) := ⟨_, rfl⟩
  have Olc : Hid (∀ (W : World) (u : Value), Us W u [3, 5, 8, 9] → Calls Try.prog 9 #[u] W fun e w' => ∃ v', e = .returned v' ∧ w'.ownsRow W.heap.size 31 2 v' Tlc.length (sps Tlc) ∧ Below W.heap.size W w') := fun W u h => by rw [hTlc]; exact of_any h (by decide) (by decide)
  obtain ⟨Tlh, hTlh⟩ : ∃ T, T = (pairs [3, 5]) := ⟨_, rfl⟩
  have Olh : Hid (∀ (W : World) (u : Value), Us W u [3, 5] → Calls Try.prog 9 #[u] W fun e w' => ∃ v', e = .returned v' ∧ w'.ownsRow W.heap.size 31 2 v' Tlh.length (sps Tlh) ∧ Below W.heap.size W w') := fun W u h => by rw [hTlh]; exact of_any h (by decide) (by decide)
  obtain ⟨Tld, hTld⟩ : ∃ T, T = (pairs [3, 5, 6, 7]) := ⟨_, rfl⟩
  have Old : Hid (∀ (W : World) (u : Value), Us W u [3, 5, 6, 7] → Calls Try.prog 9 #[u] W fun e w' => ∃ v', e = .returned v' ∧ w'.ownsRow W.heap.size 31 2 v' Tld.length (sps Tld) ∧ Below W.heap.size W w') := fun W u h => by rw [hTld]; exact of_any h (by decide) (by decide)
  obtain ⟨Tle, hTle⟩ : ∃ T, T = (pairs [0, 1]) := ⟨_, rfl⟩
  have Ole : Hid (∀ (W : World) (u : Value), Us W u [0, 1] → Calls Try.prog 9 #[u] W fun e w' => ∃ v', e = .returned v' ∧ w'.ownsRow W.heap.size 31 2 v' Tle.length (sps Tle) ∧ Below W.heap.size W w') := fun W u h => by rw [hTle]; exact of_any h (by decide) (by decide)
  obtain ⟨Tlf, hTlf⟩ : ∃ T, T = (pairs [5, 4]) := ⟨_, rfl⟩
  have Olf : Hid (∀ (W : World) (u : Value), Us W u [5, 4] → Calls Try.prog 9 #[u] W fun e w' => ∃ v', e = .returned v' ∧ w'.ownsRow W.heap.size 31 2 v' Tlf.length (sps Tlf) ∧ Below W.heap.size W w') := fun W u h => by rw [hTlf]; exact of_any h (by decide) (by decide)
  obtain ⟨TM, hTM⟩ : ∃ T, T = M 1024 := ⟨_, rfl⟩
  have J1 := Lib.hid (join_lit (a := Tl12) (b := Tl44) (L := Tr1) (c := 0) (by rw [hTl12, hTl44, hTr1]; decide +kernel))
  have J2 := Lib.hid (less_lit (a := Tl19) (b := Tl33) (L := Tr2) (c := 0) (by rw [hTl19, hTl33, hTr2]; decide +kernel))
  have J3 := Lib.hid (add_lit (l := []) (L := []) (c := 2) (f := 3) (t := 2) (by decide) (by decide) (by decide +kernel))
  have S1 := Lib.hid (rsame_lit (decide_eq_true (rfl : Tr1 = Tr1)))
  have S2 := Lib.hid (rsame_lit (decide_eq_true (rfl : Tr2 = Tr2)))
  have J4 := Lib.hid (add_lit (l := TM) (L := XA) (c := 4) (f := 4000) (t := 4000) (by decide) (by decide) (by rw [hTM]; exact hXA))
  have J5 := Lib.hid (less_lit (a := TM) (b := Tl50) (L := XL) (c := 0) (by rw [hTM, hTl50]; exact hXL))
  have K1 := Lib.hid (count_lit (l := Tlc) (c := 5) (by rw [hTlc]; decide +kernel))
  have K2 := Lib.hid (has_lit (l := Tlh) (t := 6) (c := false) (by rw [hTlh]; decide +kernel))
  have K3 := Lib.hid (has_lit (l := Tlh) (t := 5) (c := true) (by rw [hTlh]; decide +kernel))
  have K4 := Lib.hid (chk_lit (l := Tld) (c := 8) (by rw [hTld]; decide +kernel))
  have K5 := Lib.hid (chk_lit (l := Tle) (c := 8) (by rw [hTle]; decide +kernel))
  have K6 := Lib.hid (chk_lit (l := Tlf) (c := 8) (by rw [hTlf]; decide +kernel))
  have HTM := Lib.hid hTM
  clear hXA hXL hTM hTl12 hTl44 hTr1 hTl19 hTl33 hTr2 hTl50 hTlc hTlh hTld hTle hTlf
  go_enter Try.func3, Try.ntmps3
  go_wp2_with fail
  refine (Ol12.out _ _ ?_).mono ?_
  · repeat' (first | (refine us_lit _ _ _ _ _ _ ?_ ?_ ?_ ?_; (· rfl); (· rfl); (· decide); (· (simp; done))) | (with_reducible refine Us.alloc ?_ _))
  rintro e w1 ⟨va1, rfl, o1, b1⟩
  have B1 : Below w.heap.size w w1 := by
    refine bt ?_ b1
    repeat' (first | exact Below.refl _ _ | assumption | (with_reducible refine Below.alloc ?_ ?_ _) | exact Nat.le_refl _ | (show (_ : Nat) ≤ _; omega) | (show (_ : Nat) ≤ _; simp; done) | (show (_ : Nat) ≤ _; simp; omega))
  have HB1 := Lib.hid B1
  have Sa1 := Lib.hid (Sps.own o1)
  clear b1 B1 o1
  go_wp2_with fail
  refine (Ol44.out _ _ ?_).mono ?_
  · repeat' (first | (refine us_lit _ _ _ _ _ _ ?_ ?_ ?_ ?_; (· rfl); (· rfl); (· decide); (· (simp; done))) | (with_reducible refine Us.alloc ?_ _))
  rintro e w2 ⟨va2, rfl, o2, b2⟩
  have B2 : Below w1.heap.size w1 w2 := by
    refine bt ?_ b2
    repeat' (first | exact Below.refl _ _ | assumption | (with_reducible refine Below.alloc ?_ ?_ _) | exact Nat.le_refl _ | (show (_ : Nat) ≤ _; omega) | (show (_ : Nat) ≤ _; simp; done) | (show (_ : Nat) ≤ _; simp; omega))
  have HB2 := Lib.hid B2
  have Sa2 := Lib.hid (Sps.own o2)
  clear b2 B2 o2
  go_wp2_with fail
  refine (J1.out _ _ _ (Sa1.out.keeps HB2.out) (Sa2.out.keeps (Below.refl _ _))).mono ?_
  rintro e w3 ⟨aox, capx, rfl, o3, b3⟩
  have HB3 := Lib.hid b3
  have Sx := Lib.hid (Sps.own o3)
  clear o3
  clear b3
  go_wp2_with fail
  refine (Ol19.out _ _ ?_).mono ?_
  · repeat' (first | (refine us_lit _ _ _ _ _ _ ?_ ?_ ?_ ?_; (· rfl); (· rfl); (· decide); (· (simp; done))) | (with_reducible refine Us.alloc ?_ _))
  rintro e w4 ⟨vb1, rfl, o4, b4⟩
  have B4 : Below w3.heap.size w3 w4 := by
    refine bt ?_ b4
    repeat' (first | exact Below.refl _ _ | assumption | (with_reducible refine Below.alloc ?_ ?_ _) | exact Nat.le_refl _ | (show (_ : Nat) ≤ _; omega) | (show (_ : Nat) ≤ _; simp; done) | (show (_ : Nat) ≤ _; simp; omega))
  have HB4 := Lib.hid B4
  have Sb1 := Lib.hid (Sps.own o4)
  clear b4 B4 o4
  go_wp2_with fail
  refine (Ol33.out _ _ ?_).mono ?_
  · repeat' (first | (refine us_lit _ _ _ _ _ _ ?_ ?_ ?_ ?_; (· rfl); (· rfl); (· decide); (· (simp; done))) | (with_reducible refine Us.alloc ?_ _))
  rintro e w5 ⟨vb2, rfl, o5, b5⟩
  have B5 : Below w4.heap.size w4 w5 := by
    refine bt ?_ b5
    repeat' (first | exact Below.refl _ _ | assumption | (with_reducible refine Below.alloc ?_ ?_ _) | exact Nat.le_refl _ | (show (_ : Nat) ≤ _; omega) | (show (_ : Nat) ≤ _; simp; done) | (show (_ : Nat) ≤ _; simp; omega))
  have HB5 := Lib.hid B5
  have Sb2 := Lib.hid (Sps.own o5)
  clear b5 B5 o5
  go_wp2_with fail
  refine (J2.out _ _ _ (Sb1.out.keeps HB5.out) (Sb2.out.keeps (Below.refl _ _))).mono ?_
  rintro e w6 ⟨aoy, capy, rfl, o6, b6⟩
  have HB6 := Lib.hid b6
  have Sy := Lib.hid (Sps.own o6)
  clear o6
  clear b6
  go_wp2_with fail
  refine (J3.out _ _ (Sps.nil _)).mono ?_
  rintro e w7 ⟨aoz, capz, rfl, o7, b7⟩
  have HB7 := Lib.hid b7
  clear b7
  clear o7
  go_wp2_with fail
  refine (Or1.out _ _ ?_).mono ?_
  · repeat' (first | (refine us_lit _ _ _ _ _ _ ?_ ?_ ?_ ?_; (· rfl); (· rfl); (· decide); (· (simp; done))) | (with_reducible refine Us.alloc ?_ _))
  rintro e w8 ⟨vc1, rfl, o8, b8⟩
  have B8 : Below w7.heap.size w7 w8 := by
    refine bt ?_ b8
    repeat' (first | exact Below.refl _ _ | assumption | (with_reducible refine Below.alloc ?_ ?_ _) | exact Nat.le_refl _ | (show (_ : Nat) ≤ _; omega) | (show (_ : Nat) ≤ _; simp; done) | (show (_ : Nat) ≤ _; simp; omega))
  have HB8 := Lib.hid B8
  have Sc1 := Lib.hid (Sps.own o8)
  clear b8 B8 o8
  go_wp2_with fail
  refine (S1.out _ _ _ (Sx.out.keeps (bt HB4.out (bt HB5.out (bt HB6.out (bt HB7.out HB8.out))))) (Sc1.out.keeps (Below.refl _ _))).mono ?_
  rintro e w9 ⟨rfl, b9⟩
  have HB9 := Lib.hid b9
  clear b9
  go_wp2_with fail
  refine (Or2.out _ _ ?_).mono ?_
  · repeat' (first | (refine us_lit _ _ _ _ _ _ ?_ ?_ ?_ ?_; (· rfl); (· rfl); (· decide); (· (simp; done))) | (with_reducible refine Us.alloc ?_ _))
  rintro e w10 ⟨vc2, rfl, o10, b10⟩
  have B10 : Below w9.heap.size w9 w10 := by
    refine bt ?_ b10
    repeat' (first | exact Below.refl _ _ | assumption | (with_reducible refine Below.alloc ?_ ?_ _) | exact Nat.le_refl _ | (show (_ : Nat) ≤ _; omega) | (show (_ : Nat) ≤ _; simp; done) | (show (_ : Nat) ≤ _; simp; omega))
  have HB10 := Lib.hid B10
  have Sc2 := Lib.hid (Sps.own o10)
  clear b10 B10 o10
  go_wp2_with fail
  refine (S2.out _ _ _ (Sy.out.keeps (bt HB7.out (bt HB8.out (bt HB9.out HB10.out)))) (Sc2.out.keeps (Below.refl _ _))).mono ?_
  rintro e w11 ⟨rfl, b11⟩
  have HB11 := Lib.hid b11
  clear b11
  have BD := Lib.hid (bt HB1.out (bt HB2.out (bt HB3.out (bt HB4.out (bt HB5.out (bt HB6.out (bt HB7.out (bt HB8.out (bt HB9.out (bt HB10.out HB11.out))))))))))
  go_wp2
  go_loopw [8, 9] (fun o i wr => ∃ k : Nat, k ≤ 1024 ∧ i = .int .u32 (k : Int) ∧ Hid (wr.ownsRow w11.heap.size 31 2 o (M k).length (sps (M k))) ∧ Hid (Below w11.heap.size w11 wr)) (fun _ i _ => 1024 - (intOf i).toNat)
  case atStart => exact ⟨0, by omega, rfl, Lib.hid (World.ownsRow_nil _ _ _ _), Lib.hid (Below.refl _ _)⟩
  case round =>
    obtain ⟨k, hk, rfl, hown, hbel⟩ := hrel
    by_cases hkn : k < 1024
    · have q1 : decide ((k : Int) < 1024) = true := decide_eq_true (by omega)
      have q1' : decide (k < 1024) = true := decide_eq_true hkn
      have e1 : IntKind.u32.wrap (3 * (k : Int)) = ((3 * k : Nat) : Int) := by rw [show (3 : Int) * (k : Int) = ((3 * k : Nat) : Int) by omega]; exact IntWalk.u32_in _ (by omega)
      obtain ⟨j, hj⟩ : ∃ j, j = 3 * k := ⟨_, rfl⟩
      rw [← hj] at e1
      have e2 : IntKind.u32.wrap (1 + (j : Int)) = 1 + (j : Int) := IntWalk.u32_in _ (by omega)
      have e3 : IntKind.u32.wrap (2 + (j : Int)) = 2 + (j : Int) := IntWalk.u32_in _ (by omega)
      have e4 : IntKind.u32.wrap ((k : Int) + 1) = (k : Int) + 1 := IntWalk.u32_in _ (by omega)
      obtain ⟨D, hD⟩ : ∃ D, D = M k := ⟨_, rfl⟩
      have hdl : D.length ≤ 1024 := by rw [hD, M_len]; exact hk
      have hpt := M_succ k
      rw [← hD, ← hj] at hpt
      rw [← hD] at hown
      have HPT := Lib.hid hpt
      have HXY := Lib.hid (And.intro (show 1 + (j : Int) = ((mk (1 + j) (2 + j)).f : Int) by rw [mk_f (by omega)]; omega) (show 2 + (j : Int) = ((mk (1 + j) (2 + j)).t : Int) by rw [mk_t (by omega)]; omega))
      have hsz : w11.heap.size ≤ wr.heap.size := hbel.out.size
      have hbw : Below w11.heap.size w11 wr := hbel.out
      clear hD hpt hj
      go_wp2_with (at_builtin; refine wpList_append_sees rfl (.tmp 60) (.tmp 68) 22 31 rfl Try.underlying22 span_info rfl (by decide) w11.heap.size _ D.length (sps D) rfl (own_stays hown.out ((Below.refl _ _).alloc (Nat.le_refl _) _)) _ 1 _ rfl (sees_sp (a := mk (1 + j) (2 + j)) (kb_new rfl) HXY.out.1 HXY.out.2) (sps_oneCell _) ?a1 ?a2 ?a3 ?_)
      case a1 => omega
      case a2 => omega
      case a3 => simp; omega
      rintro v5 w5 o5 g5 b5
      have O5 := Lib.hid o5
      have B5 := Lib.hid ((hbw.alloc hsz _).trans b5)
      clear o5 g5 b5 hbw
      go_wp2
      go_roundw
      case rel =>
        refine ⟨k + 1, by omega, by go_num, Lib.hid ?_, B5⟩
        rw [HPT.out, List.length_append, sps_append]
        exact O5.out
      case measure => simp [intOf]; omega
    · have q1 : decide ((k : Int) < 1024) = false := decide_eq_false (by omega)
      have q1' : decide (k < 1024) = false := decide_eq_false hkn
      obtain rfl : k = 1024 := by omega
      rw [← HTM.out] at hown
      obtain ⟨aoM, capM, rfl⟩ := Sees.shape (Sees.own hown.out)
      have HM := Lib.hid (Sps.own hown.out)
      have HB12 := Lib.hid hbel.out
      obtain ⟨w12, hwr⟩ : ∃ W, W = wr := ⟨_, rfl⟩
      subst hwr
      clear hown hbel
      go_wp2_with fail
      refine (J4.out _ _ (HM.out.keeps (Below.refl _ _))).mono ?_
      rintro e w13 ⟨aop, capp, rfl, o13, b13⟩
      have HB13 := Lib.hid b13
      have Sp := Lib.hid (Sps.own o13)
      clear o13
      clear b13
      go_wp2_with fail
      refine (Ol50.out _ _ ?_).mono ?_
      · repeat' (first | (refine us_lit _ _ _ _ _ _ ?_ ?_ ?_ ?_; (· rfl); (· rfl); (· decide); (· (simp; done))) | (with_reducible refine Us.alloc ?_ _))
      rintro e w14 ⟨vd1, rfl, o14, b14⟩
      have B14 : Below w13.heap.size w13 w14 := by
        refine bt ?_ b14
        repeat' (first | exact Below.refl _ _ | assumption | (with_reducible refine Below.alloc ?_ ?_ _) | exact Nat.le_refl _ | (show (_ : Nat) ≤ _; omega) | (show (_ : Nat) ≤ _; simp; done) | (show (_ : Nat) ≤ _; simp; omega))
      have HB14 := Lib.hid B14
      have Sd1 := Lib.hid (Sps.own o14)
      clear b14 B14 o14
      go_wp2_with fail
      refine (J5.out _ _ _ (HM.out.keeps (bt HB13.out HB14.out)) (Sd1.out.keeps (Below.refl _ _))).mono ?_
      rintro e w15 ⟨aoq, capq, rfl, o15, b15⟩
      have HB15 := Lib.hid b15
      have Sq := Lib.hid (Sps.own o15)
      clear o15
      clear b15
      go_wp2_with fail
      refine ((alive_any _)).mono ?_
      rintro e w16 ⟨rfl, b16⟩
      have HB16 := Lib.hid b16
      clear b16
      go_wp2_with fail
      refine (Olc.out _ _ ?_).mono ?_
      · repeat' (first | (refine us_lit _ _ _ _ _ _ ?_ ?_ ?_ ?_; (· rfl); (· rfl); (· decide); (· (simp; done))) | (with_reducible refine Us.alloc ?_ _))
      rintro e w17 ⟨vzK1, rfl, o17, b17⟩
      have B17 : Below w16.heap.size w16 w17 := by
        refine bt ?_ b17
        repeat' (first | exact Below.refl _ _ | assumption | (with_reducible refine Below.alloc ?_ ?_ _) | exact Nat.le_refl _ | (show (_ : Nat) ≤ _; omega) | (show (_ : Nat) ≤ _; simp; done) | (show (_ : Nat) ≤ _; simp; omega))
      have HB17 := Lib.hid B17
      have SzK1 := Lib.hid (Sps.own o17)
      clear b17 B17 o17
      go_wp2_with fail
      refine (K1.out _ _ (SzK1.out.keeps (Below.refl _ _))).mono ?_
      rintro e w18 ⟨rfl, b18⟩
      have HB18 := Lib.hid b18
      clear b18
      go_wp2_with fail
      refine (Olh.out _ _ ?_).mono ?_
      · repeat' (first | (refine us_lit _ _ _ _ _ _ ?_ ?_ ?_ ?_; (· rfl); (· rfl); (· decide); (· (simp; done))) | (with_reducible refine Us.alloc ?_ _))
      rintro e w19 ⟨vzK2, rfl, o19, b19⟩
      have B19 : Below w18.heap.size w18 w19 := by
        refine bt ?_ b19
        repeat' (first | exact Below.refl _ _ | assumption | (with_reducible refine Below.alloc ?_ ?_ _) | exact Nat.le_refl _ | (show (_ : Nat) ≤ _; omega) | (show (_ : Nat) ≤ _; simp; done) | (show (_ : Nat) ≤ _; simp; omega))
      have HB19 := Lib.hid B19
      have SzK2 := Lib.hid (Sps.own o19)
      clear b19 B19 o19
      go_wp2_with fail
      refine (K2.out _ _ (SzK2.out.keeps (Below.refl _ _))).mono ?_
      rintro e w20 ⟨rfl, b20⟩
      have HB20 := Lib.hid b20
      clear b20
      go_wp2_with fail
      refine (Olh.out _ _ ?_).mono ?_
      · repeat' (first | (refine us_lit _ _ _ _ _ _ ?_ ?_ ?_ ?_; (· rfl); (· rfl); (· decide); (· (simp; done))) | (with_reducible refine Us.alloc ?_ _))
      rintro e w21 ⟨vzK3, rfl, o21, b21⟩
      have B21 : Below w20.heap.size w20 w21 := by
        refine bt ?_ b21
        repeat' (first | exact Below.refl _ _ | assumption | (with_reducible refine Below.alloc ?_ ?_ _) | exact Nat.le_refl _ | (show (_ : Nat) ≤ _; omega) | (show (_ : Nat) ≤ _; simp; done) | (show (_ : Nat) ≤ _; simp; omega))
      have HB21 := Lib.hid B21
      have SzK3 := Lib.hid (Sps.own o21)
      clear b21 B21 o21
      go_wp2_with fail
      refine (K3.out _ _ (SzK3.out.keeps (Below.refl _ _))).mono ?_
      rintro e w22 ⟨rfl, b22⟩
      have HB22 := Lib.hid b22
      clear b22
      go_wp2_with fail
      refine (Old.out _ _ ?_).mono ?_
      · repeat' (first | (refine us_lit _ _ _ _ _ _ ?_ ?_ ?_ ?_; (· rfl); (· rfl); (· decide); (· (simp; done))) | (with_reducible refine Us.alloc ?_ _))
      rintro e w23 ⟨vzK4, rfl, o23, b23⟩
      have B23 : Below w22.heap.size w22 w23 := by
        refine bt ?_ b23
        repeat' (first | exact Below.refl _ _ | assumption | (with_reducible refine Below.alloc ?_ ?_ _) | exact Nat.le_refl _ | (show (_ : Nat) ≤ _; omega) | (show (_ : Nat) ≤ _; simp; done) | (show (_ : Nat) ≤ _; simp; omega))
      have HB23 := Lib.hid B23
      have SzK4 := Lib.hid (Sps.own o23)
      clear b23 B23 o23
      go_wp2_with fail
      refine (K4.out _ _ (SzK4.out.keeps (Below.refl _ _))).mono ?_
      rintro e w24 ⟨rfl, b24⟩
      have HB24 := Lib.hid b24
      clear b24
      go_wp2_with fail
      refine (Ole.out _ _ ?_).mono ?_
      · repeat' (first | (refine us_lit _ _ _ _ _ _ ?_ ?_ ?_ ?_; (· rfl); (· rfl); (· decide); (· (simp; done))) | (with_reducible refine Us.alloc ?_ _))
      rintro e w25 ⟨vzK5, rfl, o25, b25⟩
      have B25 : Below w24.heap.size w24 w25 := by
        refine bt ?_ b25
        repeat' (first | exact Below.refl _ _ | assumption | (with_reducible refine Below.alloc ?_ ?_ _) | exact Nat.le_refl _ | (show (_ : Nat) ≤ _; omega) | (show (_ : Nat) ≤ _; simp; done) | (show (_ : Nat) ≤ _; simp; omega))
      have HB25 := Lib.hid B25
      have SzK5 := Lib.hid (Sps.own o25)
      clear b25 B25 o25
      go_wp2_with fail
      refine (K5.out _ _ (SzK5.out.keeps (Below.refl _ _))).mono ?_
      rintro e w26 ⟨rfl, b26⟩
      have HB26 := Lib.hid b26
      clear b26
      go_wp2_with fail
      refine (Olf.out _ _ ?_).mono ?_
      · repeat' (first | (refine us_lit _ _ _ _ _ _ ?_ ?_ ?_ ?_; (· rfl); (· rfl); (· decide); (· (simp; done))) | (with_reducible refine Us.alloc ?_ _))
      rintro e w27 ⟨vzK6, rfl, o27, b27⟩
      have B27 : Below w26.heap.size w26 w27 := by
        refine bt ?_ b27
        repeat' (first | exact Below.refl _ _ | assumption | (with_reducible refine Below.alloc ?_ ?_ _) | exact Nat.le_refl _ | (show (_ : Nat) ≤ _; omega) | (show (_ : Nat) ≤ _; simp; done) | (show (_ : Nat) ≤ _; simp; omega))
      have HB27 := Lib.hid B27
      have SzK6 := Lib.hid (Sps.own o27)
      clear b27 B27 o27
      go_wp2_with fail
      refine (K6.out _ _ (SzK6.out.keeps (Below.refl _ _))).mono ?_
      rintro e w28 ⟨rfl, b28⟩
      have HB28 := Lib.hid b28
      clear b28
      go_wp2
      go_ret
      exact ⟨rfl, bt BD.out (bt HB12.out (bt HB13.out (bt HB14.out (bt HB15.out (bt HB16.out (bt HB17.out (bt HB18.out (bt HB19.out (bt HB20.out (bt HB21.out (bt HB22.out (bt HB23.out (bt HB24.out (bt HB25.out (bt HB26.out (bt HB27.out HB28.out))))))))))))))))⟩
end Go.Proofs.Ytefamdajblingaa.Spans
