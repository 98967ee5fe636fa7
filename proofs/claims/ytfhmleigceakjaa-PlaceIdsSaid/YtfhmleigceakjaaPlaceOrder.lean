/- The law PlaceOrder: its walk. Conditions: the slices' cells are runs. -/
import Derived.Test.YtfhmleigceakjaaPlaceLaws
namespace Go.Proofs.Ytfhmleigceakjaa.Place
open Go.RowKit Stamp
attribute [local go_sem ↓] Go.wp_at_zero Go.wp_at_succ

theorem lawMay_is {l : List Run} {b : Bool} (h : anyB l = b) (w : World) (v : Value) (hv : Runs w v l) :
    Calls Try.prog 29 #[v] w fun e w' => e = .returned (.bool b) ∧ Below w.heap.size w w' := by
  rw [← h]; exact lawMay_any hv
theorem psame_is {p q : List Run} {c : Bool} (h : decide (p = q) = c) (W : World) (a b : Value) (ha : Runs W a p) (hb : Runs W b q) :
    Calls Try.prog 23 #[a, b] W fun e w' => e = .returned (.bool c) ∧ Below W.heap.size W w' := by
  rw [← h]; exact psame_any ha hb
theorem cmp_any {p q : List Run} (hp : anyB p = true) (hq : anyB q = true) : cmp p q = hold (all p) (all q) := by
  unfold cmp; rw [if_pos ⟨hp, hq⟩]

set_option maxRecDepth 100000 in
set_option maxHeartbeats 8000000 in
theorem order_walk (ao0 : Option Addr) (cap0 : Nat) (l0 : List Run) (ao1 : Option Addr) (cap1 : Nat) (l1 : List Run) (ao2 : Option Addr) (cap2 : Nat) (l2 : List Run) (w : World)
    (hr0 : Runs w (.slice ao0 l0.length cap0) l0) (hr1 : Runs w (.slice ao1 l1.length cap1) l1) (hr2 : Runs w (.slice ao2 l2.length cap2) l2) :
    Calls Try.prog 6 #[.slice ao0 l0.length cap0, .slice ao1 l1.length cap1, .slice ao2 l2.length cap2] w fun e w' => e = .returned (.bool true) ∧ Below w.heap.size w w' := by
  obtain ⟨n0, hn0⟩ : ∃ n, n = l0.length := ⟨_, rfl⟩
  obtain ⟨n1, hn1⟩ : ∃ n, n = l1.length := ⟨_, rfl⟩
  obtain ⟨n2, hn2⟩ : ∃ n, n = l2.length := ⟨_, rfl⟩
  rw [← hn0] at hr0
  rw [← hn1] at hr1
  rw [← hn2] at hr2
  rw [← hn0, ← hn1, ← hn2]
  have H0 := Lib.hid hr0
  have H1 := Lib.hid hr1
  have H2 := Lib.hid hr2
  have AL := Lib.hid (alive_any w)
  obtain ⟨q0, hq0⟩ : ∃ q, anyB l0 = q := ⟨_, rfl⟩
  obtain ⟨q1, hq1⟩ : ∃ q, anyB l1 = q := ⟨_, rfl⟩
  obtain ⟨q2, hq2⟩ : ∃ q, anyB l2 = q := ⟨_, rfl⟩
  have Q0 := Lib.hid hq0
  have Q1 := Lib.hid hq1
  have Q2 := Lib.hid hq2
  have M0 := Lib.hid (lawMay_is hq0)
  have M1 := Lib.hid (lawMay_is hq1)
  have M2 := Lib.hid (lawMay_is hq2)
  clear hr0 hr1 hr2 hn0 hn1 hn2 hq0 hq1 hq2
  by_cases g0 : 100 < n0
  · have t0 : decide ((100 : Int) < (n0 : Int)) = true := decide_eq_true (by omega)
    have u0 : decide (100 < n0) = true := decide_eq_true g0
    go_enter Try.func6, Try.ntmps6
    go_wp2_with fail
    refine AL.out.mono ?_
    rintro e w1 ⟨rfl, b1⟩
    have B1 := Lib.hid b1
    clear b1
    go_wp2
    go_ret
    exact ⟨rfl, B1.out⟩
  have t0 : decide ((100 : Int) < (n0 : Int)) = false := decide_eq_false (by omega)
  have u0 : decide (100 < n0) = false := decide_eq_false g0
  by_cases g1 : 100 < n1
  · have t1 : decide ((100 : Int) < (n1 : Int)) = true := decide_eq_true (by omega)
    have u1 : decide (100 < n1) = true := decide_eq_true g1
    go_enter Try.func6, Try.ntmps6
    go_wp2_with fail
    refine AL.out.mono ?_
    rintro e w1 ⟨rfl, b1⟩
    have B1 := Lib.hid b1
    clear b1
    go_wp2
    go_ret
    exact ⟨rfl, B1.out⟩
  have t1 : decide ((100 : Int) < (n1 : Int)) = false := decide_eq_false (by omega)
  have u1 : decide (100 < n1) = false := decide_eq_false g1
  by_cases g2 : 100 < n2
  · have t2 : decide ((100 : Int) < (n2 : Int)) = true := decide_eq_true (by omega)
    have u2 : decide (100 < n2) = true := decide_eq_true g2
    go_enter Try.func6, Try.ntmps6
    go_wp2_with fail
    refine AL.out.mono ?_
    rintro e w1 ⟨rfl, b1⟩
    have B1 := Lib.hid b1
    clear b1
    go_wp2
    go_ret
    exact ⟨rfl, B1.out⟩
  have t2 : decide ((100 : Int) < (n2 : Int)) = false := decide_eq_false (by omega)
  have u2 : decide (100 < n2) = false := decide_eq_false g2
  cases q0
  · skip
    go_enter Try.func6, Try.ntmps6
    go_wp2_with fail
    refine AL.out.mono ?_
    rintro e w1 ⟨rfl, b1⟩
    have B1 := Lib.hid b1
    clear b1
    go_wp2_with fail
    refine (M0.out _ _ (H0.out.keeps B1.out)).mono ?_
    rintro e w2 ⟨rfl, b2⟩
    have B2 := Lib.hid (bt B1.out b2)
    clear b2
    go_wp2
    go_ret
    exact ⟨rfl, B2.out⟩
  cases q1
  · skip
    go_enter Try.func6, Try.ntmps6
    go_wp2_with fail
    refine AL.out.mono ?_
    rintro e w1 ⟨rfl, b1⟩
    have B1 := Lib.hid b1
    clear b1
    go_wp2_with fail
    refine (M0.out _ _ (H0.out.keeps B1.out)).mono ?_
    rintro e w2 ⟨rfl, b2⟩
    have B2 := Lib.hid (bt B1.out b2)
    clear b2
    go_wp2_with fail
    refine (M1.out _ _ (H1.out.keeps B2.out)).mono ?_
    rintro e w3 ⟨rfl, b3⟩
    have B3 := Lib.hid (bt B2.out b3)
    clear b3
    go_wp2
    go_ret
    exact ⟨rfl, B3.out⟩
  cases q2
  · skip
    go_enter Try.func6, Try.ntmps6
    go_wp2_with fail
    refine AL.out.mono ?_
    rintro e w1 ⟨rfl, b1⟩
    have B1 := Lib.hid b1
    clear b1
    go_wp2_with fail
    refine (M0.out _ _ (H0.out.keeps B1.out)).mono ?_
    rintro e w2 ⟨rfl, b2⟩
    have B2 := Lib.hid (bt B1.out b2)
    clear b2
    go_wp2_with fail
    refine (M1.out _ _ (H1.out.keeps B2.out)).mono ?_
    rintro e w3 ⟨rfl, b3⟩
    have B3 := Lib.hid (bt B2.out b3)
    clear b3
    go_wp2_with fail
    refine (M2.out _ _ (H2.out.keeps B3.out)).mono ?_
    rintro e w4 ⟨rfl, b4⟩
    have B4 := Lib.hid (bt B3.out b4)
    clear b4
    go_wp2
    go_ret
    exact ⟨rfl, B4.out⟩
  have c01 := cmp_any Q0.out Q1.out
  have c10 := cmp_any Q1.out Q0.out
  have c12 := cmp_any Q1.out Q2.out
  have c02 := cmp_any Q0.out Q2.out
  have hch0 := ((anyB_iff l0).1 Q0.out).chain
  have hch1 := ((anyB_iff l1).1 Q1.out).chain
  have hneg := hold_neg (all l0) (all l1)
  have hsame := hold_same hch0 hch1
  rcases hold_range (all l0) (all l1) with hx | hx | hx
  · skip
    have C01 := Lib.hid (cmp_lit (p := l0) (q := l1) (c := -1) (by rw [c01]; exact hx))
    have C10 := Lib.hid (cmp_lit (p := l1) (q := l0) (c := 1) (by rw [c10, hneg, hx]; first | done | rfl))
    have S01 := Lib.hid (psame_is (p := l0) (q := l1) (c := false) (by refine decide_eq_false (fun h => ?_); have := hsame.2 h; omega))
    rcases hold_range (all l1) (all l2) with hz | hz | hz
    · skip
      have C12 := Lib.hid (cmp_lit (p := l1) (q := l2) (c := -1) (by rw [c12]; exact hz))
      have C02 := Lib.hid (cmp_lit (p := l0) (q := l2) (c := -1) (by rw [c02]; exact hold_trans _ _ _ hx hz))
      clear c01 c10 c12 c02 hch0 hch1 hneg hsame hx hz
      go_enter Try.func6, Try.ntmps6
      go_wp2_with fail
      refine AL.out.mono ?_
      rintro e w1 ⟨rfl, b1⟩
      have B1 := Lib.hid b1
      clear b1
      go_wp2_with fail
      refine (M0.out _ _ (H0.out.keeps B1.out)).mono ?_
      rintro e w2 ⟨rfl, b2⟩
      have B2 := Lib.hid (bt B1.out b2)
      clear b2
      go_wp2_with fail
      refine (M1.out _ _ (H1.out.keeps B2.out)).mono ?_
      rintro e w3 ⟨rfl, b3⟩
      have B3 := Lib.hid (bt B2.out b3)
      clear b3
      go_wp2_with fail
      refine (M2.out _ _ (H2.out.keeps B3.out)).mono ?_
      rintro e w4 ⟨rfl, b4⟩
      have B4 := Lib.hid (bt B3.out b4)
      clear b4
      go_wp2_with fail
      refine (C01.out _ _ _ (H0.out.keeps B4.out) (H1.out.keeps B4.out)).mono ?_
      rintro e w5 ⟨rfl, b5⟩
      have B5 := Lib.hid (bt B4.out b5)
      clear b5
      go_wp2_with fail
      refine (C10.out _ _ _ (H1.out.keeps B5.out) (H0.out.keeps B5.out)).mono ?_
      rintro e w6 ⟨rfl, b6⟩
      have B6 := Lib.hid (bt B5.out b6)
      clear b6
      go_wp2_with fail
      refine (S01.out _ _ _ (H0.out.keeps B6.out) (H1.out.keeps B6.out)).mono ?_
      rintro e w7 ⟨rfl, b7⟩
      have B7 := Lib.hid (bt B6.out b7)
      clear b7
      go_wp2_with fail
      refine (C12.out _ _ _ (H1.out.keeps B7.out) (H2.out.keeps B7.out)).mono ?_
      rintro e w8 ⟨rfl, b8⟩
      have B8 := Lib.hid (bt B7.out b8)
      clear b8
      go_wp2_with fail
      refine (C02.out _ _ _ (H0.out.keeps B8.out) (H2.out.keeps B8.out)).mono ?_
      rintro e w9 ⟨rfl, b9⟩
      have B9 := Lib.hid (bt B8.out b9)
      clear b9
      go_wp2
      go_ret
      exact ⟨rfl, B9.out⟩
    · skip
      have C12 := Lib.hid (cmp_lit (p := l1) (q := l2) (c := 0) (by rw [c12]; exact hz))
      clear c01 c10 c12 c02 hch0 hch1 hneg hsame hx hz
      go_enter Try.func6, Try.ntmps6
      go_wp2_with fail
      refine AL.out.mono ?_
      rintro e w1 ⟨rfl, b1⟩
      have B1 := Lib.hid b1
      clear b1
      go_wp2_with fail
      refine (M0.out _ _ (H0.out.keeps B1.out)).mono ?_
      rintro e w2 ⟨rfl, b2⟩
      have B2 := Lib.hid (bt B1.out b2)
      clear b2
      go_wp2_with fail
      refine (M1.out _ _ (H1.out.keeps B2.out)).mono ?_
      rintro e w3 ⟨rfl, b3⟩
      have B3 := Lib.hid (bt B2.out b3)
      clear b3
      go_wp2_with fail
      refine (M2.out _ _ (H2.out.keeps B3.out)).mono ?_
      rintro e w4 ⟨rfl, b4⟩
      have B4 := Lib.hid (bt B3.out b4)
      clear b4
      go_wp2_with fail
      refine (C01.out _ _ _ (H0.out.keeps B4.out) (H1.out.keeps B4.out)).mono ?_
      rintro e w5 ⟨rfl, b5⟩
      have B5 := Lib.hid (bt B4.out b5)
      clear b5
      go_wp2_with fail
      refine (C10.out _ _ _ (H1.out.keeps B5.out) (H0.out.keeps B5.out)).mono ?_
      rintro e w6 ⟨rfl, b6⟩
      have B6 := Lib.hid (bt B5.out b6)
      clear b6
      go_wp2_with fail
      refine (S01.out _ _ _ (H0.out.keeps B6.out) (H1.out.keeps B6.out)).mono ?_
      rintro e w7 ⟨rfl, b7⟩
      have B7 := Lib.hid (bt B6.out b7)
      clear b7
      go_wp2_with fail
      refine (C12.out _ _ _ (H1.out.keeps B7.out) (H2.out.keeps B7.out)).mono ?_
      rintro e w8 ⟨rfl, b8⟩
      have B8 := Lib.hid (bt B7.out b8)
      clear b8
      go_wp2
      go_ret
      exact ⟨rfl, B8.out⟩
    · skip
      have C12 := Lib.hid (cmp_lit (p := l1) (q := l2) (c := 1) (by rw [c12]; exact hz))
      clear c01 c10 c12 c02 hch0 hch1 hneg hsame hx hz
      go_enter Try.func6, Try.ntmps6
      go_wp2_with fail
      refine AL.out.mono ?_
      rintro e w1 ⟨rfl, b1⟩
      have B1 := Lib.hid b1
      clear b1
      go_wp2_with fail
      refine (M0.out _ _ (H0.out.keeps B1.out)).mono ?_
      rintro e w2 ⟨rfl, b2⟩
      have B2 := Lib.hid (bt B1.out b2)
      clear b2
      go_wp2_with fail
      refine (M1.out _ _ (H1.out.keeps B2.out)).mono ?_
      rintro e w3 ⟨rfl, b3⟩
      have B3 := Lib.hid (bt B2.out b3)
      clear b3
      go_wp2_with fail
      refine (M2.out _ _ (H2.out.keeps B3.out)).mono ?_
      rintro e w4 ⟨rfl, b4⟩
      have B4 := Lib.hid (bt B3.out b4)
      clear b4
      go_wp2_with fail
      refine (C01.out _ _ _ (H0.out.keeps B4.out) (H1.out.keeps B4.out)).mono ?_
      rintro e w5 ⟨rfl, b5⟩
      have B5 := Lib.hid (bt B4.out b5)
      clear b5
      go_wp2_with fail
      refine (C10.out _ _ _ (H1.out.keeps B5.out) (H0.out.keeps B5.out)).mono ?_
      rintro e w6 ⟨rfl, b6⟩
      have B6 := Lib.hid (bt B5.out b6)
      clear b6
      go_wp2_with fail
      refine (S01.out _ _ _ (H0.out.keeps B6.out) (H1.out.keeps B6.out)).mono ?_
      rintro e w7 ⟨rfl, b7⟩
      have B7 := Lib.hid (bt B6.out b7)
      clear b7
      go_wp2_with fail
      refine (C12.out _ _ _ (H1.out.keeps B7.out) (H2.out.keeps B7.out)).mono ?_
      rintro e w8 ⟨rfl, b8⟩
      have B8 := Lib.hid (bt B7.out b8)
      clear b8
      go_wp2
      go_ret
      exact ⟨rfl, B8.out⟩
  · skip
    have C01 := Lib.hid (cmp_lit (p := l0) (q := l1) (c := 0) (by rw [c01]; exact hx))
    have C10 := Lib.hid (cmp_lit (p := l1) (q := l0) (c := 0) (by rw [c10, hneg, hx]; first | done | rfl))
    have S01 := Lib.hid (psame_is (p := l0) (q := l1) (c := true) (by rw [hsame.1 hx]; simp))
    clear c01 c10 c12 c02 hch0 hch1 hneg hsame hx
    go_enter Try.func6, Try.ntmps6
    go_wp2_with fail
    refine AL.out.mono ?_
    rintro e w1 ⟨rfl, b1⟩
    have B1 := Lib.hid b1
    clear b1
    go_wp2_with fail
    refine (M0.out _ _ (H0.out.keeps B1.out)).mono ?_
    rintro e w2 ⟨rfl, b2⟩
    have B2 := Lib.hid (bt B1.out b2)
    clear b2
    go_wp2_with fail
    refine (M1.out _ _ (H1.out.keeps B2.out)).mono ?_
    rintro e w3 ⟨rfl, b3⟩
    have B3 := Lib.hid (bt B2.out b3)
    clear b3
    go_wp2_with fail
    refine (M2.out _ _ (H2.out.keeps B3.out)).mono ?_
    rintro e w4 ⟨rfl, b4⟩
    have B4 := Lib.hid (bt B3.out b4)
    clear b4
    go_wp2_with fail
    refine (C01.out _ _ _ (H0.out.keeps B4.out) (H1.out.keeps B4.out)).mono ?_
    rintro e w5 ⟨rfl, b5⟩
    have B5 := Lib.hid (bt B4.out b5)
    clear b5
    go_wp2_with fail
    refine (C10.out _ _ _ (H1.out.keeps B5.out) (H0.out.keeps B5.out)).mono ?_
    rintro e w6 ⟨rfl, b6⟩
    have B6 := Lib.hid (bt B5.out b6)
    clear b6
    go_wp2_with fail
    refine (S01.out _ _ _ (H0.out.keeps B6.out) (H1.out.keeps B6.out)).mono ?_
    rintro e w7 ⟨rfl, b7⟩
    have B7 := Lib.hid (bt B6.out b7)
    clear b7
    go_wp2
    go_ret
    exact ⟨rfl, B7.out⟩
  · skip
    have C01 := Lib.hid (cmp_lit (p := l0) (q := l1) (c := 1) (by rw [c01]; exact hx))
    have C10 := Lib.hid (cmp_lit (p := l1) (q := l0) (c := -1) (by rw [c10, hneg, hx]; first | done | rfl))
    have S01 := Lib.hid (psame_is (p := l0) (q := l1) (c := false) (by refine decide_eq_false (fun h => ?_); have := hsame.2 h; omega))
    clear c01 c10 c12 c02 hch0 hch1 hneg hsame hx
    go_enter Try.func6, Try.ntmps6
    go_wp2_with fail
    refine AL.out.mono ?_
    rintro e w1 ⟨rfl, b1⟩
    have B1 := Lib.hid b1
    clear b1
    go_wp2_with fail
    refine (M0.out _ _ (H0.out.keeps B1.out)).mono ?_
    rintro e w2 ⟨rfl, b2⟩
    have B2 := Lib.hid (bt B1.out b2)
    clear b2
    go_wp2_with fail
    refine (M1.out _ _ (H1.out.keeps B2.out)).mono ?_
    rintro e w3 ⟨rfl, b3⟩
    have B3 := Lib.hid (bt B2.out b3)
    clear b3
    go_wp2_with fail
    refine (M2.out _ _ (H2.out.keeps B3.out)).mono ?_
    rintro e w4 ⟨rfl, b4⟩
    have B4 := Lib.hid (bt B3.out b4)
    clear b4
    go_wp2_with fail
    refine (C01.out _ _ _ (H0.out.keeps B4.out) (H1.out.keeps B4.out)).mono ?_
    rintro e w5 ⟨rfl, b5⟩
    have B5 := Lib.hid (bt B4.out b5)
    clear b5
    go_wp2_with fail
    refine (C10.out _ _ _ (H1.out.keeps B5.out) (H0.out.keeps B5.out)).mono ?_
    rintro e w6 ⟨rfl, b6⟩
    have B6 := Lib.hid (bt B5.out b6)
    clear b6
    go_wp2_with fail
    refine (S01.out _ _ _ (H0.out.keeps B6.out) (H1.out.keeps B6.out)).mono ?_
    rintro e w7 ⟨rfl, b7⟩
    have B7 := Lib.hid (bt B6.out b7)
    clear b7
    go_wp2
    go_ret
    exact ⟨rfl, B7.out⟩
end Go.Proofs.Ytfhmleigceakjaa.Place
