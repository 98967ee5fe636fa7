/- The law SpanSets: its walk. Conditions: the slices' cells are spans. -/
import Derived.Test.YtefamdajblingaaSpanLits
namespace Go.Proofs.Ytefamdajblingaa.Spans
open Go.RowKit
attribute [local go_sem ↓] Go.wp_at_zero Go.wp_at_succ

set_option maxRecDepth 100000 in
set_option maxHeartbeats 8000000 in
theorem sets_walk (ao0 : Option Addr) (cap0 : Nat) (l0 : List Sp) (ao1 : Option Addr) (cap1 : Nat) (l1 : List Sp) (t : Nat) (w : World)
    (hr0 : Sps w (.slice ao0 l0.length cap0) l0) (hr1 : Sps w (.slice ao1 l1.length cap1) l1) :
    Calls Try.prog 5 #[.slice ao0 l0.length cap0, .slice ao1 l1.length cap1, .int .u32 (t : Int)] w fun e w' => e = .returned (.bool true) ∧ Below w.heap.size w w' := by
  obtain ⟨n0, hn0⟩ : ∃ n, n = l0.length := ⟨_, rfl⟩
  obtain ⟨n1, hn1⟩ : ∃ n, n = l1.length := ⟨_, rfl⟩
  rw [← hn0] at hr0
  rw [← hn1] at hr1
  rw [← hn0, ← hn1]
  have H0 := Lib.hid hr0
  have H1 := Lib.hid hr1
  have N0 := Lib.hid hn0
  have N1 := Lib.hid hn1
  have AL := Lib.hid (alive_any w)
  clear hr0 hr1 hn0 hn1
  by_cases g0 : 500 < n0
  · have t0 : decide ((500 : Int) < (n0 : Int)) = true := decide_eq_true (by omega)
    have u0 : decide (500 < n0) = true := decide_eq_true g0
    go_enter Try.func5, Try.ntmps5
    go_wp2_with fail
    refine AL.out.mono ?_
    rintro e w1 ⟨rfl, b1⟩
    go_wp2
    go_ret
    exact ⟨rfl, b1⟩
  have t0 : decide ((500 : Int) < (n0 : Int)) = false := decide_eq_false (by omega)
  have u0 : decide (500 < n0) = false := decide_eq_false g0
  by_cases g1 : 500 < n1
  · have t1 : decide ((500 : Int) < (n1 : Int)) = true := decide_eq_true (by omega)
    have u1 : decide (500 < n1) = true := decide_eq_true g1
    go_enter Try.func5, Try.ntmps5
    go_wp2_with fail
    refine AL.out.mono ?_
    rintro e w1 ⟨rfl, b1⟩
    go_wp2
    go_ret
    exact ⟨rfl, b1⟩
  have t1 : decide ((500 : Int) < (n1 : Int)) = false := decide_eq_false (by omega)
  have u1 : decide (500 < n1) = false := decide_eq_false g1
  by_cases hm : mayB l0 = true ∧ mayB l1 = true
  case neg =>
    have J := Lib.hid (join_lit (joins_bad hm))
    have E := Lib.hid (less_lit (lefts_bad hm))
    go_enter Try.func5, Try.ntmps5
    go_wp2_with fail
    refine (AL.out).mono ?_
    rintro e w1 ⟨rfl, b1⟩
    have HB1 := Lib.hid b1
    clear b1
    go_wp2_with fail
    refine (J.out _ _ _ (H0.out.keeps HB1.out) (H1.out.keeps HB1.out)).mono ?_
    rintro e w2 ⟨aox, capx, rfl, o2, b2⟩
    have HB2 := Lib.hid b2
    have Sx := Lib.hid (Sps.own o2)
    clear o2
    clear b2
    go_wp2_with fail
    refine (E.out _ _ _ (H0.out.keeps (bt HB1.out HB2.out)) (H1.out.keeps (bt HB1.out HB2.out))).mono ?_
    rintro e w3 ⟨aoy, capy, rfl, o3, b3⟩
    have HB3 := Lib.hid b3
    have Sy := Lib.hid (Sps.own o3)
    clear o3
    clear b3
    go_wp2
    go_ret
    exact ⟨rfl, (bt HB1.out (bt HB2.out HB3.out))⟩
  case pos =>
    have hs : l0.length + l1.length ≤ 1024 := by have := N0.out; have := N1.out; omega
    obtain ⟨L, hL⟩ : ∃ L, L = both l0 l1 := ⟨_, rfl⟩
    obtain ⟨M, hM⟩ : ∃ M, M = left l0 l1 := ⟨_, rfl⟩
    have J := Lib.hid (join_lit (joins_few hm.1 hm.2 hs))
    have E := Lib.hid (less_lit (lefts_few hm.1 hm.2 hs))
    have hl := has_both hm.1 hm.2 hs t
    have hk := has_left hm.1 hm.2 hs t
    have C1 := Lib.hid (chk_lit (chk_may (both_may hm.1 hm.2 hs)))
    have C2 := Lib.hid (chk_lit (chk_may (left_may hm.1 hm.2 hs)))
    rw [← hL] at J C1 hl
    rw [← hM] at E C2 hk
    obtain ⟨p, hp⟩ : ∃ p, has l0 t = p := ⟨_, rfl⟩
    obtain ⟨q, hq⟩ : ∃ q, has l1 t = q := ⟨_, rfl⟩
    rw [hp, hq] at hl hk
    have P := Lib.hid (has_lit hp)
    have Q := Lib.hid (has_lit hq)
    have X := Lib.hid (has_lit hl)
    have Y := Lib.hid (has_lit hk)
    clear hL hM hl hk hp hq hs hm
    go_enter Try.func5, Try.ntmps5
    go_wp2_with fail
    refine (AL.out).mono ?_
    rintro e w1 ⟨rfl, b1⟩
    have HB1 := Lib.hid b1
    clear b1
    go_wp2_with fail
    refine (J.out _ _ _ (H0.out.keeps HB1.out) (H1.out.keeps HB1.out)).mono ?_
    rintro e w2 ⟨aox, capx, rfl, o2, b2⟩
    have HB2 := Lib.hid b2
    have Sx := Lib.hid (Sps.own o2)
    clear o2
    clear b2
    go_wp2_with fail
    refine (E.out _ _ _ (H0.out.keeps (bt HB1.out HB2.out)) (H1.out.keeps (bt HB1.out HB2.out))).mono ?_
    rintro e w3 ⟨aoy, capy, rfl, o3, b3⟩
    have HB3 := Lib.hid b3
    have Sy := Lib.hid (Sps.own o3)
    clear o3
    clear b3
    go_wp2_with fail
    refine (X.out _ _ (Sx.out.keeps HB3.out)).mono ?_
    rintro e w4 ⟨rfl, b4⟩
    have HB4 := Lib.hid b4
    clear b4
    go_wp2_with fail
    refine (P.out _ _ (H0.out.keeps (bt HB1.out (bt HB2.out (bt HB3.out HB4.out))))).mono ?_
    rintro e w5 ⟨rfl, b5⟩
    have HB5 := Lib.hid b5
    clear b5
    cases p with
    | true =>
      go_wp2_with fail
      refine (Y.out _ _ (Sy.out.keeps (bt HB4.out HB5.out))).mono ?_
      rintro e w6 ⟨rfl, b6⟩
      have HB6 := Lib.hid b6
      clear b6
      go_wp2_with fail
      refine (P.out _ _ (H0.out.keeps (bt HB1.out (bt HB2.out (bt HB3.out (bt HB4.out (bt HB5.out HB6.out))))))).mono ?_
      rintro e w7 ⟨rfl, b7⟩
      have HB7 := Lib.hid b7
      clear b7
      go_wp2_with fail
      refine (Q.out _ _ (H1.out.keeps (bt HB1.out (bt HB2.out (bt HB3.out (bt HB4.out (bt HB5.out (bt HB6.out HB7.out)))))))).mono ?_
      rintro e w8 ⟨rfl, b8⟩
      have HB8 := Lib.hid b8
      clear b8
      cases q with
      | true =>
        go_wp2_with fail
        refine (C1.out _ _ (Sx.out.keeps (bt HB3.out (bt HB4.out (bt HB5.out (bt HB6.out (bt HB7.out HB8.out))))))).mono ?_
        rintro e w9 ⟨rfl, b9⟩
        have HB9 := Lib.hid b9
        clear b9
        go_wp2_with fail
        refine (C2.out _ _ (Sy.out.keeps (bt HB4.out (bt HB5.out (bt HB6.out (bt HB7.out (bt HB8.out HB9.out))))))).mono ?_
        rintro e w10 ⟨rfl, b10⟩
        have HB10 := Lib.hid b10
        clear b10
        go_wp2
        go_ret
        exact ⟨rfl, (bt HB1.out (bt HB2.out (bt HB3.out (bt HB4.out (bt HB5.out (bt HB6.out (bt HB7.out (bt HB8.out (bt HB9.out HB10.out)))))))))⟩
      | false =>
        go_wp2_with fail
        refine (C1.out _ _ (Sx.out.keeps (bt HB3.out (bt HB4.out (bt HB5.out (bt HB6.out (bt HB7.out HB8.out))))))).mono ?_
        rintro e w9 ⟨rfl, b9⟩
        have HB9 := Lib.hid b9
        clear b9
        go_wp2_with fail
        refine (C2.out _ _ (Sy.out.keeps (bt HB4.out (bt HB5.out (bt HB6.out (bt HB7.out (bt HB8.out HB9.out))))))).mono ?_
        rintro e w10 ⟨rfl, b10⟩
        have HB10 := Lib.hid b10
        clear b10
        go_wp2
        go_ret
        exact ⟨rfl, (bt HB1.out (bt HB2.out (bt HB3.out (bt HB4.out (bt HB5.out (bt HB6.out (bt HB7.out (bt HB8.out (bt HB9.out HB10.out)))))))))⟩
    | false =>
      go_wp2_with fail
      refine (Q.out _ _ (H1.out.keeps (bt HB1.out (bt HB2.out (bt HB3.out (bt HB4.out HB5.out)))))).mono ?_
      rintro e w6 ⟨rfl, b6⟩
      have HB6 := Lib.hid b6
      clear b6
      cases q with
      | true =>
        go_wp2_with fail
        refine (Y.out _ _ (Sy.out.keeps (bt HB4.out (bt HB5.out HB6.out)))).mono ?_
        rintro e w7 ⟨rfl, b7⟩
        have HB7 := Lib.hid b7
        clear b7
        go_wp2_with fail
        refine (P.out _ _ (H0.out.keeps (bt HB1.out (bt HB2.out (bt HB3.out (bt HB4.out (bt HB5.out (bt HB6.out HB7.out)))))))).mono ?_
        rintro e w8 ⟨rfl, b8⟩
        have HB8 := Lib.hid b8
        clear b8
        go_wp2_with fail
        refine (C1.out _ _ (Sx.out.keeps (bt HB3.out (bt HB4.out (bt HB5.out (bt HB6.out (bt HB7.out HB8.out))))))).mono ?_
        rintro e w9 ⟨rfl, b9⟩
        have HB9 := Lib.hid b9
        clear b9
        go_wp2_with fail
        refine (C2.out _ _ (Sy.out.keeps (bt HB4.out (bt HB5.out (bt HB6.out (bt HB7.out (bt HB8.out HB9.out))))))).mono ?_
        rintro e w10 ⟨rfl, b10⟩
        have HB10 := Lib.hid b10
        clear b10
        go_wp2
        go_ret
        exact ⟨rfl, (bt HB1.out (bt HB2.out (bt HB3.out (bt HB4.out (bt HB5.out (bt HB6.out (bt HB7.out (bt HB8.out (bt HB9.out HB10.out)))))))))⟩
      | false =>
        go_wp2_with fail
        refine (Y.out _ _ (Sy.out.keeps (bt HB4.out (bt HB5.out HB6.out)))).mono ?_
        rintro e w7 ⟨rfl, b7⟩
        have HB7 := Lib.hid b7
        clear b7
        go_wp2_with fail
        refine (P.out _ _ (H0.out.keeps (bt HB1.out (bt HB2.out (bt HB3.out (bt HB4.out (bt HB5.out (bt HB6.out HB7.out)))))))).mono ?_
        rintro e w8 ⟨rfl, b8⟩
        have HB8 := Lib.hid b8
        clear b8
        go_wp2_with fail
        refine (C1.out _ _ (Sx.out.keeps (bt HB3.out (bt HB4.out (bt HB5.out (bt HB6.out (bt HB7.out HB8.out))))))).mono ?_
        rintro e w9 ⟨rfl, b9⟩
        have HB9 := Lib.hid b9
        clear b9
        go_wp2_with fail
        refine (C2.out _ _ (Sy.out.keeps (bt HB4.out (bt HB5.out (bt HB6.out (bt HB7.out (bt HB8.out HB9.out))))))).mono ?_
        rintro e w10 ⟨rfl, b10⟩
        have HB10 := Lib.hid b10
        clear b10
        go_wp2
        go_ret
        exact ⟨rfl, (bt HB1.out (bt HB2.out (bt HB3.out (bt HB4.out (bt HB5.out (bt HB6.out (bt HB7.out (bt HB8.out (bt HB9.out HB10.out)))))))))⟩
end Go.Proofs.Ytefamdajblingaa.Spans
