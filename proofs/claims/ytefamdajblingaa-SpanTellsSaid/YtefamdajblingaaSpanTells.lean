/- The law SpanTells: its walk. Conditions: the slices' cells are spans. -/
import Derived.Test.YtefamdajblingaaSpanLits
namespace Go.Proofs.Ytefamdajblingaa.Spans
open Go.RowKit
attribute [local go_sem ↓] Go.wp_at_zero Go.wp_at_succ

set_option maxRecDepth 100000 in
set_option maxHeartbeats 8000000 in
theorem tells_walk (ao0 : Option Addr) (cap0 : Nat) (l0 : List Sp) (ao1 : Option Addr) (cap1 : Nat) (l1 : List Sp) (f t : Nat) (hf : f < 4294967296) (ht : t < 4294967296) (w : World)
    (hr0 : Sps w (.slice ao0 l0.length cap0) l0) (hr1 : Sps w (.slice ao1 l1.length cap1) l1) :
    Calls Try.prog 4 #[.slice ao0 l0.length cap0, .slice ao1 l1.length cap1, .int .u32 (f : Int), .int .u32 (t : Int)] w fun e w' => e = .returned (.bool true) ∧ Below w.heap.size w w' := by
  obtain ⟨n0, hn0⟩ : ∃ n, n = l0.length := ⟨_, rfl⟩
  obtain ⟨n1, hn1⟩ : ∃ n, n = l1.length := ⟨_, rfl⟩
  rw [← hn0] at hr0
  rw [← hn1] at hr1
  rw [← hn0, ← hn1]
  have H0 := Lib.hid hr0
  have H1 := Lib.hid hr1
  have N0 := Lib.hid hn0
  have N1 := Lib.hid hn1
  clear hr0 hr1 hn0 hn1
  by_cases g0 : 2000 < n0
  · have t0 : decide ((2000 : Int) < (n0 : Int)) = true := decide_eq_true (by omega)
    have u0 : decide (2000 < n0) = true := decide_eq_true g0
    go_enter Try.func4, Try.ntmps4
    go_wp2
    go_ret
    exact ⟨rfl, Below.refl _ _⟩
  have t0 : decide ((2000 : Int) < (n0 : Int)) = false := decide_eq_false (by omega)
  have u0 : decide (2000 < n0) = false := decide_eq_false g0
  by_cases g1 : 2000 < n1
  · have t1 : decide ((2000 : Int) < (n1 : Int)) = true := decide_eq_true (by omega)
    have u1 : decide (2000 < n1) = true := decide_eq_true g1
    go_enter Try.func4, Try.ntmps4
    go_wp2
    go_ret
    exact ⟨rfl, Below.refl _ _⟩
  have t1 : decide ((2000 : Int) < (n1 : Int)) = false := decide_eq_false (by omega)
  have u1 : decide (2000 < n1) = false := decide_eq_false g1
  have h0 : l0.length ≤ 1000000 := by have := N0.out; omega
  have h1 : l1.length ≤ 1000000 := by have := N1.out; omega
  obtain ⟨L, c, hL⟩ : ∃ L c, adds l0 f t = (L, c) := ⟨_, _, rfl⟩
  obtain ⟨M, d, hM⟩ : ∃ M d, joins l0 l1 = (M, d) := ⟨_, _, rfl⟩
  obtain ⟨O, g, hO⟩ : ∃ O g, lefts l0 l1 = (O, g) := ⟨_, _, rfl⟩
  have AD := Lib.hid (add_lit hf ht hL)
  have RA := Lib.hid (radd_lit hf ht hL)
  have JO := Lib.hid (join_lit hM)
  have RJ := Lib.hid (rjoin_lit hM)
  have LE := Lib.hid (less_lit hO)
  have RL := Lib.hid (rless_lit hO)
  have S1 := Lib.hid (rsame_lit (decide_eq_true (rfl : L = L)))
  have S2 := Lib.hid (rsame_lit (decide_eq_true (rfl : M = M)))
  have S3 := Lib.hid (rsame_lit (decide_eq_true (rfl : O = O)))
  have S4 := Lib.hid (same_lit (decide_eq_true (rfl : l0 = l0)))
  have S5 := Lib.hid (rsame_lit (decide_eq_true (rfl : l0 = l0)))
  have S6 := Lib.hid (rsame_lit (decide_eq_true (rfl : l1 = l1)))
  obtain ⟨ck, hck⟩ : ∃ c, chk l0 = c := ⟨_, rfl⟩
  obtain ⟨hs, hhs⟩ : ∃ c, has l0 f = c := ⟨_, rfl⟩
  obtain ⟨ct, hct⟩ : ∃ c : Int, (count l0 : Int) = c := ⟨_, rfl⟩
  obtain ⟨sm, hsm⟩ : ∃ c, decide (l0 = l1) = c := ⟨_, rfl⟩
  have C1 := Lib.hid (chk_lit hck)
  have C2 := Lib.hid (rchk_lit hck)
  have C3 := Lib.hid (has_lit hhs)
  have C4 := Lib.hid (rhas_lit hhs)
  have C5 := Lib.hid (count_lit hct)
  have C6 := Lib.hid (rcount_lit hct)
  have C7 := Lib.hid (same_lit hsm)
  have C8 := Lib.hid (rsame_lit hsm)
  have TW0 := Lib.hid (rtwin_lit h0)
  have TW1 := Lib.hid (rtwin_lit h1)
  have PT := Lib.hid (twin_lit h0)
  clear hL hM hO hck hhs hct hsm h0 h1 hf ht
  go_enter Try.func4, Try.ntmps4
  go_wp2_with fail
  refine (TW0.out _ _ (H0.out.keeps (Below.refl _ _))).mono ?_
  rintro e w1 ⟨aox, capx, rfl, o1, b1⟩
  have HB1 := Lib.hid b1
  have Sx := Lib.hid (Sps.own o1)
  have Ox := Lib.hid o1
  clear o1
  clear b1
  go_wp2_with fail
  refine (TW1.out _ _ (H1.out.keeps HB1.out)).mono ?_
  rintro e w2 ⟨aoy, capy, rfl, o2, b2⟩
  have HB2 := Lib.hid b2
  have Sy := Lib.hid (Sps.own o2)
  have Oy := Lib.hid o2
  clear o2
  clear b2
  go_wp2_with fail
  refine (PT.out _ _ (Sx.out.keeps HB2.out)).mono ?_
  rintro e w3 ⟨aot, capt, rfl, o3, b3⟩
  have HB3 := Lib.hid b3
  have St := Lib.hid (Sps.own o3)
  have Ot := Lib.hid o3
  clear o3
  clear b3
  go_wp2_with fail
  refine (AD.out _ _ (Sx.out.keeps (bt HB2.out HB3.out))).mono ?_
  rintro e w4 ⟨aol, capl, rfl, o4, b4⟩
  have HB4 := Lib.hid b4
  have Sl := Lib.hid (Sps.own o4)
  have Ol := Lib.hid o4
  clear o4
  clear b4
  go_wp2_with fail
  refine (RA.out _ _ (H0.out.keeps (bt HB1.out (bt HB2.out (bt HB3.out HB4.out))))).mono ?_
  rintro e w5 ⟨aom, capm, rfl, o5, b5⟩
  have HB5 := Lib.hid b5
  have Sm := Lib.hid (Sps.own o5)
  have Om := Lib.hid o5
  clear o5
  clear b5
  go_wp2_with fail
  refine (JO.out _ _ _ (Sx.out.keeps (bt HB2.out (bt HB3.out (bt HB4.out HB5.out)))) (Sy.out.keeps (bt HB3.out (bt HB4.out HB5.out)))).mono ?_
  rintro e w6 ⟨aon, capn, rfl, o6, b6⟩
  have HB6 := Lib.hid b6
  have Sn := Lib.hid (Sps.own o6)
  have On := Lib.hid o6
  clear o6
  clear b6
  go_wp2_with fail
  refine (RJ.out _ _ _ (H0.out.keeps (bt HB1.out (bt HB2.out (bt HB3.out (bt HB4.out (bt HB5.out HB6.out)))))) (H1.out.keeps (bt HB1.out (bt HB2.out (bt HB3.out (bt HB4.out (bt HB5.out HB6.out))))))).mono ?_
  rintro e w7 ⟨aoo, capo, rfl, o7, b7⟩
  have HB7 := Lib.hid b7
  have So := Lib.hid (Sps.own o7)
  have Oo := Lib.hid o7
  clear o7
  clear b7
  go_wp2_with fail
  refine (LE.out _ _ _ (Sx.out.keeps (bt HB2.out (bt HB3.out (bt HB4.out (bt HB5.out (bt HB6.out HB7.out)))))) (Sy.out.keeps (bt HB3.out (bt HB4.out (bt HB5.out (bt HB6.out HB7.out)))))).mono ?_
  rintro e w8 ⟨aop, capp, rfl, o8, b8⟩
  have HB8 := Lib.hid b8
  have Sp := Lib.hid (Sps.own o8)
  have Op := Lib.hid o8
  clear o8
  clear b8
  go_wp2_with fail
  refine (RL.out _ _ _ (H0.out.keeps (bt HB1.out (bt HB2.out (bt HB3.out (bt HB4.out (bt HB5.out (bt HB6.out (bt HB7.out HB8.out)))))))) (H1.out.keeps (bt HB1.out (bt HB2.out (bt HB3.out (bt HB4.out (bt HB5.out (bt HB6.out (bt HB7.out HB8.out))))))))).mono ?_
  rintro e w9 ⟨aoq, capq, rfl, o9, b9⟩
  have HB9 := Lib.hid b9
  have Sq := Lib.hid (Sps.own o9)
  have Oq := Lib.hid o9
  clear o9
  clear b9
  go_wp2_with fail
  refine (S1.out _ _ _ (Sl.out.keeps (bt HB5.out (bt HB6.out (bt HB7.out (bt HB8.out HB9.out))))) (Sm.out.keeps (bt HB6.out (bt HB7.out (bt HB8.out HB9.out))))).mono ?_
  rintro e w10 ⟨rfl, b10⟩
  have HB10 := Lib.hid b10
  clear b10
  go_wp2_with fail
  refine (S2.out _ _ _ (Sn.out.keeps (bt HB7.out (bt HB8.out (bt HB9.out HB10.out)))) (So.out.keeps (bt HB8.out (bt HB9.out HB10.out)))).mono ?_
  rintro e w11 ⟨rfl, b11⟩
  have HB11 := Lib.hid b11
  clear b11
  go_wp2_with fail
  refine (S3.out _ _ _ (Sp.out.keeps (bt HB9.out (bt HB10.out HB11.out))) (Sq.out.keeps (bt HB10.out HB11.out))).mono ?_
  rintro e w12 ⟨rfl, b12⟩
  have HB12 := Lib.hid b12
  clear b12
  go_wp2_with fail
  refine (C1.out _ _ (Sx.out.keeps (bt HB2.out (bt HB3.out (bt HB4.out (bt HB5.out (bt HB6.out (bt HB7.out (bt HB8.out (bt HB9.out (bt HB10.out (bt HB11.out HB12.out)))))))))))).mono ?_
  rintro e w13 ⟨rfl, b13⟩
  have HB13 := Lib.hid b13
  clear b13
  go_wp2_with fail
  refine (C2.out _ _ (H0.out.keeps (bt HB1.out (bt HB2.out (bt HB3.out (bt HB4.out (bt HB5.out (bt HB6.out (bt HB7.out (bt HB8.out (bt HB9.out (bt HB10.out (bt HB11.out (bt HB12.out HB13.out)))))))))))))).mono ?_
  rintro e w14 ⟨rfl, b14⟩
  have HB14 := Lib.hid b14
  clear b14
  go_wp2_with fail
  refine (C3.out _ _ (Sx.out.keeps (bt HB2.out (bt HB3.out (bt HB4.out (bt HB5.out (bt HB6.out (bt HB7.out (bt HB8.out (bt HB9.out (bt HB10.out (bt HB11.out (bt HB12.out (bt HB13.out HB14.out)))))))))))))).mono ?_
  rintro e w15 ⟨rfl, b15⟩
  have HB15 := Lib.hid b15
  clear b15
  go_wp2_with fail
  refine (C4.out _ _ (H0.out.keeps (bt HB1.out (bt HB2.out (bt HB3.out (bt HB4.out (bt HB5.out (bt HB6.out (bt HB7.out (bt HB8.out (bt HB9.out (bt HB10.out (bt HB11.out (bt HB12.out (bt HB13.out (bt HB14.out HB15.out)))))))))))))))).mono ?_
  rintro e w16 ⟨rfl, b16⟩
  have HB16 := Lib.hid b16
  clear b16
  go_wp2_with fail
  refine (C5.out _ _ (Sx.out.keeps (bt HB2.out (bt HB3.out (bt HB4.out (bt HB5.out (bt HB6.out (bt HB7.out (bt HB8.out (bt HB9.out (bt HB10.out (bt HB11.out (bt HB12.out (bt HB13.out (bt HB14.out (bt HB15.out HB16.out)))))))))))))))).mono ?_
  rintro e w17 ⟨rfl, b17⟩
  have HB17 := Lib.hid b17
  clear b17
  go_wp2_with fail
  refine (C6.out _ _ (H0.out.keeps (bt HB1.out (bt HB2.out (bt HB3.out (bt HB4.out (bt HB5.out (bt HB6.out (bt HB7.out (bt HB8.out (bt HB9.out (bt HB10.out (bt HB11.out (bt HB12.out (bt HB13.out (bt HB14.out (bt HB15.out (bt HB16.out HB17.out)))))))))))))))))).mono ?_
  rintro e w18 ⟨rfl, b18⟩
  have HB18 := Lib.hid b18
  clear b18
  go_wp2_with fail
  refine (C7.out _ _ _ (Sx.out.keeps (bt HB2.out (bt HB3.out (bt HB4.out (bt HB5.out (bt HB6.out (bt HB7.out (bt HB8.out (bt HB9.out (bt HB10.out (bt HB11.out (bt HB12.out (bt HB13.out (bt HB14.out (bt HB15.out (bt HB16.out (bt HB17.out HB18.out))))))))))))))))) (Sy.out.keeps (bt HB3.out (bt HB4.out (bt HB5.out (bt HB6.out (bt HB7.out (bt HB8.out (bt HB9.out (bt HB10.out (bt HB11.out (bt HB12.out (bt HB13.out (bt HB14.out (bt HB15.out (bt HB16.out (bt HB17.out HB18.out))))))))))))))))).mono ?_
  rintro e w19 ⟨rfl, b19⟩
  have HB19 := Lib.hid b19
  clear b19
  go_wp2_with fail
  refine (C8.out _ _ _ (H0.out.keeps (bt HB1.out (bt HB2.out (bt HB3.out (bt HB4.out (bt HB5.out (bt HB6.out (bt HB7.out (bt HB8.out (bt HB9.out (bt HB10.out (bt HB11.out (bt HB12.out (bt HB13.out (bt HB14.out (bt HB15.out (bt HB16.out (bt HB17.out (bt HB18.out HB19.out))))))))))))))))))) (H1.out.keeps (bt HB1.out (bt HB2.out (bt HB3.out (bt HB4.out (bt HB5.out (bt HB6.out (bt HB7.out (bt HB8.out (bt HB9.out (bt HB10.out (bt HB11.out (bt HB12.out (bt HB13.out (bt HB14.out (bt HB15.out (bt HB16.out (bt HB17.out (bt HB18.out HB19.out)))))))))))))))))))).mono ?_
  rintro e w20 ⟨rfl, b20⟩
  have HB20 := Lib.hid b20
  clear b20
  go_wp2_with fail
  refine (S4.out _ _ _ (Sx.out.keeps (bt HB2.out (bt HB3.out (bt HB4.out (bt HB5.out (bt HB6.out (bt HB7.out (bt HB8.out (bt HB9.out (bt HB10.out (bt HB11.out (bt HB12.out (bt HB13.out (bt HB14.out (bt HB15.out (bt HB16.out (bt HB17.out (bt HB18.out (bt HB19.out HB20.out))))))))))))))))))) (H0.out.keeps (bt HB1.out (bt HB2.out (bt HB3.out (bt HB4.out (bt HB5.out (bt HB6.out (bt HB7.out (bt HB8.out (bt HB9.out (bt HB10.out (bt HB11.out (bt HB12.out (bt HB13.out (bt HB14.out (bt HB15.out (bt HB16.out (bt HB17.out (bt HB18.out (bt HB19.out HB20.out))))))))))))))))))))).mono ?_
  rintro e w21 ⟨rfl, b21⟩
  have HB21 := Lib.hid b21
  clear b21
  go_wp2_with fail
  refine (S5.out _ _ _ (St.out.keeps (bt HB4.out (bt HB5.out (bt HB6.out (bt HB7.out (bt HB8.out (bt HB9.out (bt HB10.out (bt HB11.out (bt HB12.out (bt HB13.out (bt HB14.out (bt HB15.out (bt HB16.out (bt HB17.out (bt HB18.out (bt HB19.out (bt HB20.out HB21.out)))))))))))))))))) (H0.out.keeps (bt HB1.out (bt HB2.out (bt HB3.out (bt HB4.out (bt HB5.out (bt HB6.out (bt HB7.out (bt HB8.out (bt HB9.out (bt HB10.out (bt HB11.out (bt HB12.out (bt HB13.out (bt HB14.out (bt HB15.out (bt HB16.out (bt HB17.out (bt HB18.out (bt HB19.out (bt HB20.out HB21.out)))))))))))))))))))))).mono ?_
  rintro e w22 ⟨rfl, b22⟩
  have HB22 := Lib.hid b22
  clear b22
  clear AD RA JO RJ LE RL S1 S2 S3 C1 C2 C3 C4 C5 C6 C7 C8 S4 PT TW0 TW1
  have BD := Lib.hid (bt HB3.out (bt HB4.out (bt HB5.out (bt HB6.out (bt HB7.out (bt HB8.out (bt HB9.out (bt HB10.out (bt HB11.out (bt HB12.out (bt HB13.out (bt HB14.out (bt HB15.out (bt HB16.out (bt HB17.out (bt HB18.out (bt HB19.out (bt HB20.out (bt HB21.out HB22.out)))))))))))))))))))
  have Zl := Lib.hid (own_stays Ol.out (bt HB5.out (bt HB6.out (bt HB7.out (bt HB8.out (bt HB9.out (bt HB10.out (bt HB11.out (bt HB12.out (bt HB13.out (bt HB14.out (bt HB15.out (bt HB16.out (bt HB17.out (bt HB18.out (bt HB19.out (bt HB20.out (bt HB21.out HB22.out))))))))))))))))))
  have Zn := Lib.hid (own_stays On.out (bt HB7.out (bt HB8.out (bt HB9.out (bt HB10.out (bt HB11.out (bt HB12.out (bt HB13.out (bt HB14.out (bt HB15.out (bt HB16.out (bt HB17.out (bt HB18.out (bt HB19.out (bt HB20.out (bt HB21.out HB22.out))))))))))))))))
  have Zp := Lib.hid (own_stays Op.out (bt HB9.out (bt HB10.out (bt HB11.out (bt HB12.out (bt HB13.out (bt HB14.out (bt HB15.out (bt HB16.out (bt HB17.out (bt HB18.out (bt HB19.out (bt HB20.out (bt HB21.out HB22.out))))))))))))))
  have Zt := Lib.hid (own_stays Ot.out (bt HB4.out (bt HB5.out (bt HB6.out (bt HB7.out (bt HB8.out (bt HB9.out (bt HB10.out (bt HB11.out (bt HB12.out (bt HB13.out (bt HB14.out (bt HB15.out (bt HB16.out (bt HB17.out (bt HB18.out (bt HB19.out (bt HB20.out (bt HB21.out HB22.out)))))))))))))))))))
  go_wp2_with fail
  refine (spoil_any Zl.out).mono ?_
  rintro e w23 ⟨rfl, b23, q23⟩
  have BD := Lib.hid (BD.out.trans (b23.mono (HB3.out).size))
  have Zn := Lib.hid (own_other Zn.out q23 (blk_ne' Ol.out On.out (HB5.out).size))
  have Zp := Lib.hid (own_other Zp.out q23 (blk_ne' Ol.out Op.out ((bt HB5.out (bt HB6.out HB7.out))).size))
  have Zt := Lib.hid (own_other Zt.out q23 (blk_ne Ot.out Ol.out (Nat.le_refl _)))
  clear b23 q23 Zl
  go_wp2_with fail
  refine (spoil_any Zn.out).mono ?_
  rintro e w24 ⟨rfl, b24, q24⟩
  have BD := Lib.hid (BD.out.trans (b24.mono ((bt HB3.out (bt HB4.out HB5.out))).size))
  have Zp := Lib.hid (own_other Zp.out q24 (blk_ne' On.out Op.out (HB7.out).size))
  have Zt := Lib.hid (own_other Zt.out q24 (blk_ne Ot.out On.out ((bt HB4.out HB5.out)).size))
  clear b24 q24 Zn
  go_wp2_with fail
  refine (spoil_any Zp.out).mono ?_
  rintro e w25 ⟨rfl, b25, q25⟩
  have BD := Lib.hid (BD.out.trans (b25.mono ((bt HB3.out (bt HB4.out (bt HB5.out (bt HB6.out HB7.out))))).size))
  have Zt := Lib.hid (own_other Zt.out q25 (blk_ne Ot.out Op.out ((bt HB4.out (bt HB5.out (bt HB6.out HB7.out)))).size))
  clear b25 q25 Zp
  go_wp2_with fail
  refine (spoil_any Zt.out).mono ?_
  rintro e w26 ⟨rfl, b26, q26⟩
  have BD := Lib.hid (BD.out.trans (b26.mono (Nat.le_refl _)))
  clear b26 q26 Zt
  go_wp2_with fail
  refine (S5.out _ _ _ ((Sx.out.keeps HB2.out).keeps BD.out) ((H0.out.keeps (bt HB1.out HB2.out)).keeps BD.out)).mono ?_
  rintro e w27 ⟨rfl, b27⟩
  have BD := Lib.hid (bt BD.out b27)
  clear b27
  go_wp2_with fail
  refine (S6.out _ _ _ ((Sy.out.keeps (Below.refl _ _)).keeps BD.out) ((H1.out.keeps (bt HB1.out HB2.out)).keeps BD.out)).mono ?_
  rintro e w28 ⟨rfl, b28⟩
  have BD := Lib.hid (bt BD.out b28)
  clear b28
  go_wp2
  go_ret
  exact ⟨rfl, bt (bt HB1.out HB2.out) BD.out⟩
end Go.Proofs.Ytefamdajblingaa.Spans
