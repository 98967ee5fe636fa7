/- The law ClockTells: its walk. Conditions: the slices' cells are replicas' spans; no slice of spans takes more than 2^47 bytes. -/
import Derived.Test.YtinglfhndlklaaaClockLits
namespace Go.Proofs.Ytinglfhndlklaaa.Clocks
open Go.RowKit Go.Proofs.Ytinglfhndlklaaa.Spans
attribute [local go_sem ↓] Go.wp_at_zero Go.wp_at_succ

set_option maxRecDepth 100000 in
set_option maxHeartbeats 8000000 in
theorem tells_walk (ao0 : Option Addr) (cap0 : Nat) (l0 : List Tm) (ao1 : Option Addr) (cap1 : Nat) (l1 : List Tm) (a : Id) (w : World)
    (hr0 : Tms w (.slice ao0 l0.length cap0) l0) (hr1 : Tms w (.slice ao1 l1.length cap1) l1) (hz0 : ∀ x ∈ l0, x.2.length ≤ 17592186044416) (hz1 : ∀ x ∈ l1, x.2.length ≤ 17592186044416) :
    Calls Try.prog 4 #[.slice ao0 l0.length cap0, .slice ao1 l1.length cap1, .agg #[.int .u32 (a.t : Int), .int .u8 (a.r : Int)]] w fun e w' => e = .returned (.bool true) ∧ Below w.heap.size w w' := by
  have G0 : Hid (∀ W : World, Below w.heap.size w W → Calls Try.prog 21 #[.slice ao0 l0.length cap0] W fun e w' => (∃ g, e = .returned (.bool g) ∧ (g = false → l0.length ≤ 300 ∧ tot l0 ≤ 300)) ∧ W = w') := fun W hW => great_sz (hr0.keeps hW) hz0
  have G1 : Hid (∀ W : World, Below w.heap.size w W → Calls Try.prog 21 #[.slice ao1 l1.length cap1] W fun e w' => (∃ g, e = .returned (.bool g) ∧ (g = false → l1.length ≤ 300 ∧ tot l1 ≤ 300)) ∧ W = w') := fun W hW => great_sz (hr1.keeps hW) hz1
  have H0 := Lib.hid hr0
  have H1 := Lib.hid hr1
  have HB1 : Hid (Below w.heap.size w (w.alloc (.cells #[.int .u32 (a.t : Int), .int .u8 (a.r : Int)] 34))) := (Below.refl _ _).alloc (Nat.le_refl _) _
  have BX := Lib.hid (box_id w a)
  clear hr0 hr1 hz0 hz1
  go_enter Try.func4, Try.ntmps4
  go_wp2_with fail
  refine (G0.out _ HB1.out).mono ?_
  rintro e w1 ⟨⟨g0, rfl, hg0⟩, rfl⟩
  have HG0 := Lib.hid hg0
  clear hg0
  cases g0
  case true =>
    go_wp2
    go_ret
    exact ⟨rfl, HB1.out⟩
  go_wp2_with fail
  refine (G1.out _ HB1.out).mono ?_
  rintro e w1 ⟨⟨g1, rfl, hg1⟩, rfl⟩
  have HG1 := Lib.hid hg1
  clear hg1
  cases g1
  case true =>
    go_wp2
    go_ret
    exact ⟨rfl, HB1.out⟩
  obtain ⟨s0, z0⟩ := HG0.out (by trivial)
  obtain ⟨s1, z1⟩ := HG1.out (by trivial)
  obtain ⟨L, c, hL⟩ : ∃ L c, addsC l0 a = (L, c) := ⟨_, _, rfl⟩
  obtain ⟨M, d, hM⟩ : ∃ M d, joinsC l0 l1 = (M, d) := ⟨_, _, rfl⟩
  obtain ⟨O, g, hO⟩ : ∃ O g, leftsC l0 l1 = (O, g) := ⟨_, _, rfl⟩
  have AD := Lib.hid (add_lit (few_add z0 a) hL)
  have RA := Lib.hid (radd_lit (few_add z0 a) hL)
  have JO := Lib.hid (join_lit (few_two z0 z1) hM)
  have RJ := Lib.hid (rjoin_lit (few_two z0 z1) hM)
  have LE := Lib.hid (less_lit (few_two z0 z1) hO)
  have RL := Lib.hid (rless_lit (few_two z0 z1) hO)
  have S1 := Lib.hid (rsame_lit (decide_eq_true (rfl : L = L)))
  have S2 := Lib.hid (rsame_lit (decide_eq_true (rfl : M = M)))
  have S3 := Lib.hid (rsame_lit (decide_eq_true (rfl : O = O)))
  have S5 := Lib.hid (rsame_lit (decide_eq_true (rfl : l0 = l0)))
  have S6 := Lib.hid (rsame_lit (decide_eq_true (rfl : l1 = l1)))
  have TW0 := Lib.hid (rtwin_lit s0 z0)
  have TW1 := Lib.hid (rtwin_lit s1 z1)
  obtain ⟨n0, hn0⟩ : ∃ n, n = l0.length := ⟨_, rfl⟩
  obtain ⟨n1, hn1⟩ : ∃ n, n = l1.length := ⟨_, rfl⟩
  rw [← hn0] at H0 ⊢
  rw [← hn1] at H1 ⊢
  clear hL hM hO s0 z0 s1 z1 G0 G1 HG0 HG1 hn0 hn1
  go_wp2_with fail
  refine (TW0.out _ _ (H0.out.keeps HB1.out)).mono ?_
  rintro e w2 ⟨vx, rfl, o2, b2⟩
  have HB2 := Lib.hid b2
  have Sx := Lib.hid o2.tms
  obtain ⟨aox, capx, rfl⟩ := o2.tms.shape
  clear o2
  clear b2
  go_wp2_with fail
  refine (TW1.out _ _ (H1.out.keeps (bt HB1.out HB2.out))).mono ?_
  rintro e w3 ⟨vy, rfl, o3, b3⟩
  have HB3 := Lib.hid b3
  have Sy := Lib.hid o3.tms
  obtain ⟨aoy, capy, rfl⟩ := o3.tms.shape
  clear o3
  clear b3
  obtain ⟨c0, c1⟩ := BX.out _ (bt HB2.out HB3.out)
  go_wp2_with fail
  refine (AD.out _ _ (Sx.out.keeps HB3.out)).mono ?_
  rintro e w4 ⟨vl, rfl, o4, b4⟩
  have HB4 := Lib.hid b4
  have Sl := Lib.hid o4.tms
  have Pl := Lib.hid (OwnC.spl o4)
  obtain ⟨aol, capl, rfl⟩ := o4.tms.shape
  clear o4
  clear b4
  clear c0 c1
  obtain ⟨c0, c1⟩ := BX.out _ (bt HB2.out (bt HB3.out HB4.out))
  go_wp2_with fail
  refine (RA.out _ _ (H0.out.keeps (bt HB1.out (bt HB2.out (bt HB3.out HB4.out))))).mono ?_
  rintro e w5 ⟨vm, rfl, o5, b5⟩
  have HB5 := Lib.hid b5
  have Sm := Lib.hid o5.tms
  obtain ⟨aom, capm, rfl⟩ := o5.tms.shape
  clear o5
  clear b5
  clear c0 c1
  go_wp2_with fail
  refine (JO.out _ _ _ (Sx.out.keeps (bt HB3.out (bt HB4.out HB5.out))) (Sy.out.keeps (bt HB4.out HB5.out))).mono ?_
  rintro e w6 ⟨vn, rfl, o6, b6⟩
  have HB6 := Lib.hid b6
  have Sn := Lib.hid o6.tms
  have Pn := Lib.hid (OwnC.spl o6)
  obtain ⟨aon, capn, rfl⟩ := o6.tms.shape
  clear o6
  clear b6
  go_wp2_with fail
  refine (RJ.out _ _ _ (H0.out.keeps (bt HB1.out (bt HB2.out (bt HB3.out (bt HB4.out (bt HB5.out HB6.out)))))) (H1.out.keeps (bt HB1.out (bt HB2.out (bt HB3.out (bt HB4.out (bt HB5.out HB6.out))))))).mono ?_
  rintro e w7 ⟨vo, rfl, o7, b7⟩
  have HB7 := Lib.hid b7
  have So := Lib.hid o7.tms
  obtain ⟨aoo, capo, rfl⟩ := o7.tms.shape
  clear o7
  clear b7
  go_wp2_with fail
  refine (LE.out _ _ _ (Sx.out.keeps (bt HB3.out (bt HB4.out (bt HB5.out (bt HB6.out HB7.out))))) (Sy.out.keeps (bt HB4.out (bt HB5.out (bt HB6.out HB7.out))))).mono ?_
  rintro e w8 ⟨vp, rfl, o8, b8⟩
  have HB8 := Lib.hid b8
  have Sp := Lib.hid o8.tms
  have Pp := Lib.hid (OwnC.spl o8)
  obtain ⟨aop, capp, rfl⟩ := o8.tms.shape
  clear o8
  clear b8
  go_wp2_with fail
  refine (RL.out _ _ _ (H0.out.keeps (bt HB1.out (bt HB2.out (bt HB3.out (bt HB4.out (bt HB5.out (bt HB6.out (bt HB7.out HB8.out)))))))) (H1.out.keeps (bt HB1.out (bt HB2.out (bt HB3.out (bt HB4.out (bt HB5.out (bt HB6.out (bt HB7.out HB8.out))))))))).mono ?_
  rintro e w9 ⟨vq, rfl, o9, b9⟩
  have HB9 := Lib.hid b9
  have Sq := Lib.hid o9.tms
  obtain ⟨aoq, capq, rfl⟩ := o9.tms.shape
  clear o9
  clear b9
  go_wp2_with fail
  refine (S1.out _ _ _ (Sl.out.keeps (bt HB5.out (bt HB6.out (bt HB7.out (bt HB8.out HB9.out))))) (Sm.out.keeps (bt HB6.out (bt HB7.out (bt HB8.out HB9.out))))).mono ?_
  rintro e w10 ⟨rfl, b10⟩
  have HB10 := Lib.hid b10
  clear b10
  go_wp2_with fail
  refine (S2.out _ _ _ (Sn.out.keeps (bt HB7.out (bt HB8.out (bt HB9.out HB10.out)))) (So.out.keeps (bt HB8.out (bt HB9.out HB10.out)))).mono ?_
  rintro e w11 ⟨rfl, b11⟩
  have HB11 := Lib.hid b11
  clear b11
  go_wp2_with fail
  refine (S3.out _ _ _ (Sp.out.keeps (bt HB9.out (bt HB10.out HB11.out))) (Sq.out.keeps (bt HB10.out HB11.out))).mono ?_
  rintro e w12 ⟨rfl, b12⟩
  have HB12 := Lib.hid b12
  clear b12
  have Ql := Lib.hid (Pl.out.keeps (bt HB5.out (bt HB6.out (bt HB7.out (bt HB8.out (bt HB9.out (bt HB10.out (bt HB11.out HB12.out))))))))
  have Qn := Lib.hid (Pn.out.keeps (bt HB7.out (bt HB8.out (bt HB9.out (bt HB10.out (bt HB11.out HB12.out))))))
  have Qp := Lib.hid (Pp.out.keeps (bt HB9.out (bt HB10.out (bt HB11.out HB12.out))))
  have Z := Lib.hid (Below.refl w3.heap.size w12)
  have ln : w4.heap.size ≤ w5.heap.size := HB5.out.size
  have np : w6.heap.size ≤ w7.heap.size := HB7.out.size
  have l1' : w3.heap.size ≤ w4.heap.size := HB4.out.size
  have n1' : w5.heap.size ≤ w6.heap.size := HB6.out.size
  go_wp2_with fail
  refine (spoilC_any Ql.out).mono ?_
  rintro e y1 ⟨rfl, s1⟩
  have Qn' := Lib.hid (Qn.out.sand s1 ln)
  clear Qn
  have Qn := Qn'
  clear Qn'
  have Qp' := Lib.hid (Qp.out.sand s1 (by omega))
  clear Qp
  have Qp := Qp'
  clear Qp'
  have Z' := Lib.hid (Z.out.trans (s1.1.mono (by omega)))
  clear Z
  have Z := Z'
  clear Z' s1
  go_wp2_with fail
  refine (spoilC_any Qn.out).mono ?_
  rintro e y2 ⟨rfl, s2⟩
  have Qp' := Lib.hid (Qp.out.sand s2 np)
  clear Qp
  have Qp := Qp'
  clear Qp'
  have Z' := Lib.hid (Z.out.trans (s2.1.mono (by omega)))
  clear Z
  have Z := Z'
  clear Z' s2
  go_wp2_with fail
  refine (spoilC_any Qp.out).mono ?_
  rintro e y3 ⟨rfl, s3⟩
  have Z' := Lib.hid (Z.out.trans (s3.1.mono (by omega)))
  clear Z
  have Z := Z'
  clear Z' s3
  go_wp2_with fail
  refine (S5.out _ _ _ (Sx.out.keeps ((bt HB3.out (bt HB4.out (bt HB5.out (bt HB6.out (bt HB7.out (bt HB8.out (bt HB9.out (bt HB10.out (bt HB11.out HB12.out))))))))).trans (Z.out.mono HB3.out.size))) (H0.out.keeps ((bt HB1.out (bt HB2.out (bt HB3.out (bt HB4.out (bt HB5.out (bt HB6.out (bt HB7.out (bt HB8.out (bt HB9.out (bt HB10.out (bt HB11.out HB12.out))))))))))).trans (Z.out.mono (bt HB1.out (bt HB2.out HB3.out)).size)))).mono ?_
  rintro e x1 ⟨rfl, d1⟩
  have D1 := Lib.hid d1
  clear d1
  go_wp2_with fail
  refine (S6.out _ _ _ (Sy.out.keeps (bt ((bt HB4.out (bt HB5.out (bt HB6.out (bt HB7.out (bt HB8.out (bt HB9.out (bt HB10.out (bt HB11.out HB12.out)))))))).trans (Z.out.mono (Nat.le_refl _))) D1.out)) (H1.out.keeps (bt ((bt HB1.out (bt HB2.out (bt HB3.out (bt HB4.out (bt HB5.out (bt HB6.out (bt HB7.out (bt HB8.out (bt HB9.out (bt HB10.out (bt HB11.out HB12.out))))))))))).trans (Z.out.mono (bt HB1.out (bt HB2.out HB3.out)).size)) D1.out))).mono ?_
  rintro e x2 ⟨rfl, d2⟩
  have D2 := Lib.hid (bt D1.out d2)
  clear d2
  go_wp2
  go_ret
  exact ⟨rfl, bt ((bt HB1.out (bt HB2.out (bt HB3.out (bt HB4.out (bt HB5.out (bt HB6.out (bt HB7.out (bt HB8.out (bt HB9.out (bt HB10.out (bt HB11.out HB12.out))))))))))).trans (Z.out.mono (bt HB1.out (bt HB2.out HB3.out)).size)) D2.out⟩
end Go.Proofs.Ytinglfhndlklaaa.Clocks
