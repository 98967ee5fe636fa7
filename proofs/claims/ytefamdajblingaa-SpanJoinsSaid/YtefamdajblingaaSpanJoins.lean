/- The law SpanJoins: its walk. Conditions: the slices' cells are spans. -/
import Derived.Test.YtefamdajblingaaSpanLits
namespace Go.Proofs.Ytefamdajblingaa.Spans
open Go.RowKit
attribute [local go_sem ↓] Go.wp_at_zero Go.wp_at_succ

theorem both_swap {a b : List Sp} (ha : Fine a) (hb : Fine b) : both b a = both a b :=
  uniq (both_ok hb ha.all).1 (both_ok ha hb.all).1 fun n => by rw [(both_ok hb ha.all).2, (both_ok ha hb.all).2, or_comm]
theorem both_twice {a b : List Sp} (ha : Fine a) (hb : Fine b) : both (both a b) b = both a b :=
  uniq (both_ok (both_ok ha hb.all).1 hb.all).1 (both_ok ha hb.all).1 fun n => by
    rw [(both_ok (both_ok ha hb.all).1 hb.all).2, (both_ok ha hb.all).2]
    constructor
    · rintro (h | h)
      · exact h
      · exact .inr h
    · exact .inl
theorem both_left {a b : List Sp} (ha : Fine a) (hb : Fine b) : both (left a b) b = both a b :=
  uniq (both_ok (left_ok ha hb.all).1 hb.all).1 (both_ok ha hb.all).1 fun n => by
    rw [(both_ok (left_ok ha hb.all).1 hb.all).2, (both_ok ha hb.all).2, (left_ok ha hb.all).2]
    by_cases h : In b n <;> simp [h]
theorem left_twice {a b : List Sp} (ha : Fine a) (hb : Fine b) : left (left a b) b = left a b :=
  uniq (left_ok (left_ok ha hb.all).1 hb.all).1 (left_ok ha hb.all).1 fun n => by
    rw [(left_ok (left_ok ha hb.all).1 hb.all).2, (left_ok ha hb.all).2]
    by_cases h : In b n <;> simp [h]
theorem many_left {a b : List Sp} (ha : Fine a) (hb : Fine b) : many (both a b) = many (left a b) + many b := by
  refine many_join (left_ok ha hb.all).1 hb (both_ok ha hb.all).1 (fun n => ?_) fun n h => ((left_ok ha hb.all).2 n).1 h.1 |>.2 h.2
  rw [(both_ok ha hb.all).2, (left_ok ha hb.all).2]
  by_cases h : In b n <;> simp [h]

set_option maxRecDepth 100000 in
set_option maxHeartbeats 8000000 in
theorem joins_walk (ao0 : Option Addr) (cap0 : Nat) (l0 : List Sp) (ao1 : Option Addr) (cap1 : Nat) (l1 : List Sp) (w : World)
    (hr0 : Sps w (.slice ao0 l0.length cap0) l0) (hr1 : Sps w (.slice ao1 l1.length cap1) l1) :
    Calls Try.prog 6 #[.slice ao0 l0.length cap0, .slice ao1 l1.length cap1] w fun e w' => e = .returned (.bool true) ∧ Below w.heap.size w w' := by
  obtain ⟨n0, hn0⟩ : ∃ n, n = l0.length := ⟨_, rfl⟩
  obtain ⟨n1, hn1⟩ : ∃ n, n = l1.length := ⟨_, rfl⟩
  rw [← hn0] at hr0
  rw [← hn1] at hr1
  rw [← hn0, ← hn1]
  have H0 := Lib.hid hr0
  have H1 := Lib.hid hr1
  have N0 := Lib.hid hn0
  have N1 := Lib.hid hn1
  have AL := Lib.hid (alive_any w)
  clear hr0 hr1 hn0 hn1
  by_cases g0 : 300 < n0
  · have t0 : decide ((300 : Int) < (n0 : Int)) = true := decide_eq_true (by omega)
    have u0 : decide (300 < n0) = true := decide_eq_true g0
    go_enter Try.func6, Try.ntmps6
    go_wp2_with fail
    refine AL.out.mono ?_
    rintro e w1 ⟨rfl, b1⟩
    go_wp2
    go_ret
    exact ⟨rfl, b1⟩
  have t0 : decide ((300 : Int) < (n0 : Int)) = false := decide_eq_false (by omega)
  have u0 : decide (300 < n0) = false := decide_eq_false g0
  by_cases g1 : 300 < n1
  · have t1 : decide ((300 : Int) < (n1 : Int)) = true := decide_eq_true (by omega)
    have u1 : decide (300 < n1) = true := decide_eq_true g1
    go_enter Try.func6, Try.ntmps6
    go_wp2_with fail
    refine AL.out.mono ?_
    rintro e w1 ⟨rfl, b1⟩
    go_wp2
    go_ret
    exact ⟨rfl, b1⟩
  have t1 : decide ((300 : Int) < (n1 : Int)) = false := decide_eq_false (by omega)
  have u1 : decide (300 < n1) = false := decide_eq_false g1
  cases m0 : mayB l0 with
  | false =>
    have C0 := Lib.hid (chk_lit (chk_bad m0))
    go_enter Try.func6, Try.ntmps6
    go_wp2_with fail
    refine (AL.out).mono ?_
    rintro e w1 ⟨rfl, b1⟩
    have HB1 := Lib.hid b1
    clear b1
    go_wp2_with fail
    refine (C0.out _ _ (H0.out.keeps HB1.out)).mono ?_
    rintro e w2 ⟨rfl, b2⟩
    have HB2 := Lib.hid b2
    clear b2
    go_wp2
    go_ret
    exact ⟨rfl, (bt HB1.out HB2.out)⟩
  | true =>
    have C0 := Lib.hid (chk_lit (chk_may m0))
    cases m1 : mayB l1 with
    | false =>
      have C1 := Lib.hid (chk_lit (chk_bad m1))
      go_enter Try.func6, Try.ntmps6
      go_wp2_with fail
      refine (AL.out).mono ?_
      rintro e w1 ⟨rfl, b1⟩
      have HB1 := Lib.hid b1
      clear b1
      go_wp2_with fail
      refine (C0.out _ _ (H0.out.keeps HB1.out)).mono ?_
      rintro e w2 ⟨rfl, b2⟩
      have HB2 := Lib.hid b2
      clear b2
      go_wp2_with fail
      refine (C1.out _ _ (H1.out.keeps (bt HB1.out HB2.out))).mono ?_
      rintro e w3 ⟨rfl, b3⟩
      have HB3 := Lib.hid b3
      clear b3
      go_wp2
      go_ret
      exact ⟨rfl, (bt HB1.out (bt HB2.out HB3.out))⟩
    | true =>
      have C1 := Lib.hid (chk_lit (chk_may m1))
      have f0 := ((mayB_iff l0).1 m0).1
      have f1 := ((mayB_iff l1).1 m1).1
      have k0 : l0.length ≤ 300 := by have := N0.out; omega
      have k1 : l1.length ≤ 300 := by have := N1.out; omega
      have kb : (both l0 l1).length ≤ 600 := Nat.le_trans (both_len l1 l0) (by omega)
      have kl : (left l0 l1).length ≤ 600 := Nat.le_trans (left_len f0 f1.all) (by omega)
      have mb := both_may m0 m1 (by omega)
      have ml := left_may m0 m1 (by omega)
      have e1 : joins l0 l1 = (both l0 l1, 0) := joins_few m0 m1 (by omega)
      have e2 : joins l1 l0 = (both l0 l1, 0) := by rw [← both_swap f0 f1]; exact joins_few m1 m0 (by omega)
      have e3 : joins (both l0 l1) l1 = (both l0 l1, 0) := by have := joins_few mb m1 (by omega); rwa [both_twice f0 f1] at this
      have e4 : lefts l0 l1 = (left l0 l1, 0) := lefts_few m0 m1 (by omega)
      have e5 : joins (left l0 l1) l1 = (both l0 l1, 0) := by have := joins_few ml m1 (by omega); rwa [both_left f0 f1] at this
      have e6 : lefts (left l0 l1) l1 = (left l0 l1, 0) := by have := lefts_few ml m1 (by omega); rwa [left_twice f0 f1] at this
      have c1 : (count (both l0 l1) : Int) = (count (left l0 l1) : Int) + (count l1 : Int) := by rw [count_may mb, count_may ml, count_may m1, many_left f0 f1]; omega
      have b1 : count (left l0 l1) ≤ 1000000000000 := by rw [count_may ml]; have := many_le' (left_ok f0 f1.all).1.all; omega
      have b2 : count l1 ≤ 1000000000000 := by rw [count_may m1]; have := many_le' f1.all; omega
      obtain ⟨L, hL⟩ : ∃ L, L = both l0 l1 := ⟨_, rfl⟩
      obtain ⟨M, hM⟩ : ∃ M, M = left l0 l1 := ⟨_, rfl⟩
      obtain ⟨cl, hcl⟩ : ∃ c : Nat, c = count (left l0 l1) := ⟨_, rfl⟩
      obtain ⟨cb, hcb⟩ : ∃ c : Nat, c = count l1 := ⟨_, rfl⟩
      have hcl' : (count M : Int) = (cl : Int) := by rw [hM, hcl]
      have hcb' : (count l1 : Int) = (cb : Int) := by rw [hcb]
      rw [← hcl, ← hcb, ← hL] at c1
      rw [← hcl] at b1
      rw [← hcb] at b2
      rw [← hL] at e1 e2 e3 e5
      rw [← hM] at e4 e5 e6
      have J1 := Lib.hid (join_lit e1)
      have J2 := Lib.hid (join_lit e2)
      have J3 := Lib.hid (join_lit e3)
      have J4 := Lib.hid (less_lit e4)
      have J5 := Lib.hid (join_lit e5)
      have J6 := Lib.hid (less_lit e6)
      have S1 := Lib.hid (same_lit (decide_eq_true (rfl : L = L)))
      have S2 := Lib.hid (same_lit (decide_eq_true (rfl : M = M)))
      have K1 := Lib.hid (count_lit c1)
      have K2 := Lib.hid (count_lit hcl')
      have K3 := Lib.hid (count_lit hcb')
      have hw : IntKind.i64.wrap ((cl : Int) + (cb : Int)) = (cl : Int) + (cb : Int) := IntWalk.i64_in _ (by omega)
      clear hL hM hcl hcb hcl' hcb' c1 e1 e2 e3 e4 e5 e6 m0 m1 f0 f1 k0 k1 kb kl mb ml b1 b2
      go_enter Try.func6, Try.ntmps6
      go_wp2_with fail
      refine (AL.out).mono ?_
      rintro e w1 ⟨rfl, b1⟩
      have HB1 := Lib.hid b1
      clear b1
      go_wp2_with fail
      refine (C0.out _ _ (H0.out.keeps HB1.out)).mono ?_
      rintro e w2 ⟨rfl, b2⟩
      have HB2 := Lib.hid b2
      clear b2
      go_wp2_with fail
      refine (C1.out _ _ (H1.out.keeps (bt HB1.out HB2.out))).mono ?_
      rintro e w3 ⟨rfl, b3⟩
      have HB3 := Lib.hid b3
      clear b3
      go_wp2_with fail
      refine (J1.out _ _ _ (H0.out.keeps (bt HB1.out (bt HB2.out HB3.out))) (H1.out.keeps (bt HB1.out (bt HB2.out HB3.out)))).mono ?_
      rintro e w4 ⟨aox, capx, rfl, o4, b4⟩
      have HB4 := Lib.hid b4
      have Sx := Lib.hid (Sps.own o4)
      clear o4
      clear b4
      go_wp2_with fail
      refine (J2.out _ _ _ (H1.out.keeps (bt HB1.out (bt HB2.out (bt HB3.out HB4.out)))) (H0.out.keeps (bt HB1.out (bt HB2.out (bt HB3.out HB4.out))))).mono ?_
      rintro e w5 ⟨aoy, capy, rfl, o5, b5⟩
      have HB5 := Lib.hid b5
      have Sy := Lib.hid (Sps.own o5)
      clear o5
      clear b5
      go_wp2_with fail
      refine (J3.out _ _ _ (Sx.out.keeps HB5.out) (H1.out.keeps (bt HB1.out (bt HB2.out (bt HB3.out (bt HB4.out HB5.out)))))).mono ?_
      rintro e w6 ⟨aoz, capz, rfl, o6, b6⟩
      have HB6 := Lib.hid b6
      have Sz := Lib.hid (Sps.own o6)
      clear o6
      clear b6
      go_wp2_with fail
      refine (J4.out _ _ _ (H0.out.keeps (bt HB1.out (bt HB2.out (bt HB3.out (bt HB4.out (bt HB5.out HB6.out)))))) (H1.out.keeps (bt HB1.out (bt HB2.out (bt HB3.out (bt HB4.out (bt HB5.out HB6.out))))))).mono ?_
      rintro e w7 ⟨aol, capl, rfl, o7, b7⟩
      have HB7 := Lib.hid b7
      have Sl := Lib.hid (Sps.own o7)
      clear o7
      clear b7
      go_wp2_with fail
      refine (J5.out _ _ _ (Sl.out.keeps (Below.refl _ _)) (H1.out.keeps (bt HB1.out (bt HB2.out (bt HB3.out (bt HB4.out (bt HB5.out (bt HB6.out HB7.out)))))))).mono ?_
      rintro e w8 ⟨aom, capm, rfl, o8, b8⟩
      have HB8 := Lib.hid b8
      have Sm := Lib.hid (Sps.own o8)
      clear o8
      clear b8
      go_wp2_with fail
      refine (J6.out _ _ _ (Sl.out.keeps HB8.out) (H1.out.keeps (bt HB1.out (bt HB2.out (bt HB3.out (bt HB4.out (bt HB5.out (bt HB6.out (bt HB7.out HB8.out))))))))).mono ?_
      rintro e w9 ⟨aon, capn, rfl, o9, b9⟩
      have HB9 := Lib.hid b9
      have Sn := Lib.hid (Sps.own o9)
      clear o9
      clear b9
      go_wp2_with fail
      refine (S1.out _ _ _ (Sx.out.keeps (bt HB5.out (bt HB6.out (bt HB7.out (bt HB8.out HB9.out))))) (Sy.out.keeps (bt HB6.out (bt HB7.out (bt HB8.out HB9.out))))).mono ?_
      rintro e w10 ⟨rfl, b10⟩
      have HB10 := Lib.hid b10
      clear b10
      go_wp2_with fail
      refine (S1.out _ _ _ (Sx.out.keeps (bt HB5.out (bt HB6.out (bt HB7.out (bt HB8.out (bt HB9.out HB10.out)))))) (Sz.out.keeps (bt HB7.out (bt HB8.out (bt HB9.out HB10.out))))).mono ?_
      rintro e w11 ⟨rfl, b11⟩
      have HB11 := Lib.hid b11
      clear b11
      go_wp2_with fail
      refine (S1.out _ _ _ (Sm.out.keeps (bt HB9.out (bt HB10.out HB11.out))) (Sx.out.keeps (bt HB5.out (bt HB6.out (bt HB7.out (bt HB8.out (bt HB9.out (bt HB10.out HB11.out)))))))).mono ?_
      rintro e w12 ⟨rfl, b12⟩
      have HB12 := Lib.hid b12
      clear b12
      go_wp2_with fail
      refine (S2.out _ _ _ (Sn.out.keeps (bt HB10.out (bt HB11.out HB12.out))) (Sl.out.keeps (bt HB8.out (bt HB9.out (bt HB10.out (bt HB11.out HB12.out)))))).mono ?_
      rintro e w13 ⟨rfl, b13⟩
      have HB13 := Lib.hid b13
      clear b13
      go_wp2_with fail
      refine (K1.out _ _ (Sx.out.keeps (bt HB5.out (bt HB6.out (bt HB7.out (bt HB8.out (bt HB9.out (bt HB10.out (bt HB11.out (bt HB12.out HB13.out)))))))))).mono ?_
      rintro e w14 ⟨rfl, b14⟩
      have HB14 := Lib.hid b14
      clear b14
      go_wp2_with fail
      refine (K2.out _ _ (Sl.out.keeps (bt HB8.out (bt HB9.out (bt HB10.out (bt HB11.out (bt HB12.out (bt HB13.out HB14.out)))))))).mono ?_
      rintro e w15 ⟨rfl, b15⟩
      have HB15 := Lib.hid b15
      clear b15
      go_wp2_with fail
      refine (K3.out _ _ (H1.out.keeps (bt HB1.out (bt HB2.out (bt HB3.out (bt HB4.out (bt HB5.out (bt HB6.out (bt HB7.out (bt HB8.out (bt HB9.out (bt HB10.out (bt HB11.out (bt HB12.out (bt HB13.out (bt HB14.out HB15.out)))))))))))))))).mono ?_
      rintro e w16 ⟨rfl, b16⟩
      have HB16 := Lib.hid b16
      clear b16
      go_wp2
      go_ret
      exact ⟨rfl, (bt HB1.out (bt HB2.out (bt HB3.out (bt HB4.out (bt HB5.out (bt HB6.out (bt HB7.out (bt HB8.out (bt HB9.out (bt HB10.out (bt HB11.out (bt HB12.out (bt HB13.out (bt HB14.out (bt HB15.out HB16.out)))))))))))))))⟩
end Go.Proofs.Ytefamdajblingaa.Spans
