/- BagLess answers true, and changes nothing that was there. Conditions: none. -/
import Derived.Test.YtocjkegkgnbboaaPk35
import Derived.Test.YtocjkegkgnbboaaPk25

namespace Go.Proofs.Ytocjkegkgnbboaa.Bags
open Go.RowKit Go.WideShapes Stamp Go.Proofs.Ytocjkegkgnbboaa.Place Ops Codes
attribute [local go_sem ↓] Go.wp_at_zero Go.wp_at_succ
attribute [local go_sem] yielded_undef

set_option maxRecDepth 100000 in
set_option maxHeartbeats 16000000 in
theorem less_walk {l : List Opn} {ao0 : Option Addr} {cap0 : Nat} {ao1 : Option Addr} {cap1 : Nat} {c : List Clocks.Tm} (a : Id) {w : World} (hr0 : OpL w (.slice ao0 l.length cap0) l) (hr1 : Tms w (.slice ao1 c.length cap1) c) :
    Calls Try.prog 8 #[.slice ao0 l.length cap0, .slice ao1 c.length cap1, .agg #[.int .u32 (a.t : Int), .int .u8 (a.r : Int)]] w fun e w' => e = .returned (.bool true) ∧ Below w.heap.size w w' := by
  have HR0 := Lib.hid hr0
  have HR1 := Lib.hid hr1
  have AV := Lib.hid alive11_any
  have GR : Hid (∀ W : World, OpL W (.slice ao0 l.length cap0) l → Calls Try.prog 18 #[.slice ao0 l.length cap0, .int .i64 60] W fun e w' => GrtO l 60 e ∧ W = w') := fun W h => greatO_any h
  have GC : Hid (∀ W : World, Tms W (.slice ao1 c.length cap1) c → Calls Try.prog 19 #[.slice ao1 c.length cap1] W fun e w' => Clocks.Grt c e ∧ W = w') := fun W h => Clocks.great_any h
  have LS : Hid (∀ (W : World) (v u : Value), OpL W v l → Tms W u c → Calls Try.prog 11 #[v, u] W (DoneN (lessL l c) (lessE l c) W)) := fun W v u h h2 => bLess_any h h2
  have FD : Hid (∀ (W : World) (v : Value) (L : List Opn), OpL W v L → Calls Try.prog 27 #[v, .agg #[.int .u32 (a.t : Int), .int .u8 (a.r : Int)]] W (FoundN (findL L a) W)) := fun W v L h => bFind_any a h
  have HS : Hid (∀ (W : World) (v : Value), Tms W v c → Calls Try.prog 36 #[v, .agg #[.int .u32 (a.t : Int), .int .u8 (a.r : Int)]] W fun e w' => e = .returned (.bool (Clocks.hasC c a)) ∧ Below W.heap.size W w') := fun W v h => Clocks.cHas_any a h
  have CK : Hid (∀ (W : World) (v : Value) (L : List Opn), OpL W v L → Calls Try.prog 17 #[v] W fun e w' => e = .returned (.int .i64 (chkL L)) ∧ Below W.heap.size W w') := fun W v L h => bCheck_any h
  have hge : ∀ {m : Int} {e : Ending}, GrtO l m e → ∃ g, e = .returned (.bool g) := fun ⟨g, h1, h2⟩ => ⟨g, h1⟩
  have hgc : ∀ {e : Ending}, Clocks.Grt c e → ∃ g, e = .returned (.bool g) := fun ⟨g, h1, h2⟩ => ⟨g, h1⟩
  have ALL := Lib.hid (less_all (l := l) (c := c) a)
  have NIL := Lib.hid (less_nil (l := l) (c := c))
  obtain ⟨n0, hn0⟩ : ∃ n, n = l.length := ⟨_, rfl⟩
  obtain ⟨n1, hn1⟩ : ∃ n, n = c.length := ⟨_, rfl⟩
  obtain ⟨X, hX⟩ : ∃ z, lessL l c = z := ⟨_, rfl⟩
  obtain ⟨E, hE⟩ : ∃ z, lessE l c = z := ⟨_, rfl⟩
  obtain ⟨hc, hhc⟩ : ∃ z, Clocks.hasC c a = z := ⟨_, rfl⟩
  rw [hX, hE] at LS NIL ALL
  rw [hhc] at HS ALL
  rw [← hn0] at HR0 GR ⊢
  rw [← hn1] at HR1 GC ⊢
  obtain ⟨A, hA⟩ : ∃ A, A = a := ⟨_, rfl⟩
  rw [← hA] at ALL
  have FDA : Hid (∀ (W : World) (v : Value) (L : List Opn), OpL W v L → Calls Try.prog 27 #[v, .agg #[.int .u32 (a.t : Int), .int .u8 (a.r : Int)]] W (FoundN (findL L A) W)) := by rw [hA]; exact FD
  clear FD
  obtain ⟨ta, ra, hta, hra⟩ := a
  simp only at HS FDA ⊢
  have XI : Hid ((w.alloc (.cells #[.int .u32 (ta : Int), .int .u8 (ra : Int)] 27)).heap[w.heap.size]? = some (.cells #[.int .u32 (ta : Int), .int .u8 (ra : Int)] 27)) := blk_new rfl
  have B0 : Hid (Below w.heap.size w (w.alloc (.cells #[.int .u32 (ta : Int), .int .u8 (ra : Int)] 27))) := (Below.refl _ _).alloc (Nat.le_refl _) _
  have L0 := Lib.hid (HR0.out.keeps B0.out)
  have C0 := Lib.hid (HR1.out.keeps B0.out)
  clear hr0 hr1 hn0 hn1 hX hE hhc hA HR0 HR1
  go_enter Try.func8, Try.ntmps8
  go_wp2_with fail
  refine (AV.out _).mono ?_
  rintro e w1 ⟨rfl, b1⟩
  have B_1 := Lib.hid (bt B0.out b1)
  clear B0
  have H_2 := Lib.hid (blk_below b1 XI.out)
  clear XI
  have L_3 := Lib.hid (L0.out.keeps b1)
  clear L0
  have C_4 := Lib.hid (C0.out.keeps b1)
  clear C0
  clear b1 AV
  go_wp2_with fail
  refine (GR.out _ L_3.out).mono ?_
  rintro e w2 ⟨hg, rfl⟩
  obtain ⟨g, rfl⟩ := hge hg
  clear hg hge GR
  cases g
  rotate_left
  · go_wp2
    go_ret
    exact ⟨rfl, B_1.out⟩
  go_wp2_with fail
  refine (GC.out _ C_4.out).mono ?_
  rintro e w2 ⟨hg, rfl⟩
  obtain ⟨g, rfl⟩ := hgc hg
  clear hg hgc GC
  cases g
  rotate_left
  · go_wp2
    go_ret
    exact ⟨rfl, B_1.out⟩
  go_wp2_with fail
  refine (LS.out _ _ _ L_3.out C_4.out).mono ?_
  rintro e w3 ⟨vx, rfl, ox, b3⟩
  have B_5 := Lib.hid (bt B_1.out b3)
  clear B_1
  have H_6 := Lib.hid (blk_below b3 H_2.out)
  clear H_2
  have L_7 := Lib.hid (L_3.out.keeps b3)
  clear L_3
  have C_8 := Lib.hid (C_4.out.keeps b3)
  clear C_4
  have X_9 := Lib.hid (ox.opl)
  clear ox b3 LS
  by_cases hE0 : E = 0
  rotate_left
  · obtain ⟨rfl, hE1⟩ := NIL.out hE0
    obtain ⟨aX, cX, rfl⟩ : ∃ ao cap, vx = .slice ao 0 cap := X_9.out.shape
    go_wp2
    go_ret
    exact ⟨rfl, B_5.out⟩
  subst hE0
  obtain ⟨al1, al2⟩ := ALL.out rfl
  obtain ⟨Q1, hQ1⟩ : ∃ q, findL l A = q := ⟨_, rfl⟩
  obtain ⟨Q2, hQ2⟩ : ∃ q, findL X A = q := ⟨_, rfl⟩
  rw [hQ1, hQ2] at al1
  have F1 := Lib.hid (fun W v => FDA.out W v l)
  have F2 := Lib.hid (fun W v => FDA.out W v X)
  have C2 := Lib.hid (fun W v => CK.out W v X)
  rw [hQ1] at F1
  rw [hQ2] at F2
  rw [al2] at C2
  have AL1 := Lib.hid al1
  clear hQ1 hQ2 al1 al2 FDA CK NIL ALL
  unfold FoundN at F1 F2
  obtain ⟨x1, hx1⟩ : ∃ x, x = Q1.getD zop := ⟨_, rfl⟩
  obtain ⟨s1, hs1⟩ : ∃ b, b = Q1.isSome := ⟨_, rfl⟩
  rw [← hx1, ← hs1] at F1
  have HO1 : Hid (∀ v : Value, opv x1 v = .agg #[.int .u8 (x1.k : Int), .int .u32 (x1.t : Int), .int .u8 (x1.r : Int), v, .int .i64 x1.p]) := fun v => rfl
  obtain ⟨x2, hx2⟩ : ∃ x, x = Q2.getD zop := ⟨_, rfl⟩
  obtain ⟨s2, hs2⟩ : ∃ b, b = Q2.isSome := ⟨_, rfl⟩
  rw [← hx2, ← hs2] at F2
  have HO2 : Hid (∀ v : Value, opv x2 v = .agg #[.int .u8 (x2.k : Int), .int .u32 (x2.t : Int), .int .u8 (x2.r : Int), v, .int .i64 x2.p]) := fun v => rfl
  have SM : Hid (∀ (W : World) (u v : Value), Runs W u x1.pl → Runs W v x2.pl → Calls Try.prog 35 #[opv x1 u, opv x2 v] W fun e w' => e = .returned (.bool (sameB x1 x2)) ∧ Below W.heap.size W w') := fun W u v h h2 => Ops.oSame_any h h2
  have SS : Hid (s2 = (s1 && !hc) ∧ (s2 = true → sameB x1 x2 = true)) := by
    unfold Hid
    rw [hs2, hs1, hx1, hx2, AL1.out]
    cases hc
    · simp only [Bool.false_eq_true, if_false, Bool.not_false, Bool.and_true, true_and]
      intro _; exact (sameB_iff _ _).2 rfl
    · simp
  clear hx1 hx2 hs1 hs2 AL1
  obtain ⟨k1, hk1⟩ : ∃ z, x1.k = z := ⟨_, rfl⟩
  obtain ⟨t1, ht1⟩ : ∃ z, x1.t = z := ⟨_, rfl⟩
  obtain ⟨r1, hr1⟩ : ∃ z, x1.r = z := ⟨_, rfl⟩
  obtain ⟨p1, hp1⟩ : ∃ z, x1.p = z := ⟨_, rfl⟩
  rw [hk1, ht1, hr1, hp1] at HO1
  simp only [HO1.out] at F1 SM
  clear hk1 ht1 hr1 hp1 HO1
  obtain ⟨k2, hk2⟩ : ∃ z, x2.k = z := ⟨_, rfl⟩
  obtain ⟨t2, ht2⟩ : ∃ z, x2.t = z := ⟨_, rfl⟩
  obtain ⟨r2, hr2⟩ : ∃ z, x2.r = z := ⟨_, rfl⟩
  obtain ⟨p2, hp2⟩ : ∃ z, x2.p = z := ⟨_, rfl⟩
  rw [hk2, ht2, hr2, hp2] at HO2
  simp only [HO2.out] at F2 SM
  clear hk2 ht2 hr2 hp2 HO2
  have hc1 := cell_of_row _ _ 0 _ _ _ H_6.out
  have hd1 := cell_of_row _ _ 1 _ _ _ H_6.out
  go_wp2_with fail
  clear hc1 hd1
  refine (F1.out _ _ L_7.out).mono ?_
  rintro e w4 ⟨v1, rfl, o1, b1⟩
  obtain ⟨ua1, uc1, rfl⟩ := Sees.shape (Sees.own o1)
  obtain ⟨nu1, hnu1⟩ : ∃ n, n = x1.pl.length := ⟨_, rfl⟩
  rw [← hnu1] at o1 ⊢
  have ru1 : Runs w4 (.slice ua1 nu1 uc1) x1.pl := by rw [hnu1] at o1 ⊢; exact Go.Proofs.Ytocjkegkgnbboaa.Runs.own o1
  have B_10 := Lib.hid (bt B_5.out b1)
  clear B_5
  have H_11 := Lib.hid (blk_below b1 H_6.out)
  clear H_6
  have L_12 := Lib.hid (L_7.out.keeps b1)
  clear L_7
  have C_13 := Lib.hid (C_8.out.keeps b1)
  clear C_8
  have X_14 := Lib.hid (X_9.out.keeps b1)
  clear X_9
  have R1_15 := Lib.hid (ru1)
  have bo1 := (Below.refl w4.heap.size w4).alloc (Nat.le_refl _) (.cells #[.int .u8 (k1 : Int), .int .u32 (t1 : Int), .int .u8 (r1 : Int), .slice ua1 nu1 uc1, .int .i64 p1] 30)
  have B_16 := Lib.hid (bt B_10.out bo1)
  clear B_10
  have H_17 := Lib.hid (blk_below bo1 H_11.out)
  clear H_11
  have L_18 := Lib.hid (L_12.out.keeps bo1)
  clear L_12
  have C_19 := Lib.hid (C_13.out.keeps bo1)
  clear C_13
  have X_20 := Lib.hid (X_14.out.keeps bo1)
  clear X_14
  have R1_21 := Lib.hid (R1_15.out.keeps bo1)
  clear R1_15
  have F1x_22 := Lib.hid (five_new w4 (.int .u8 (k1 : Int)) (.int .u32 (t1 : Int)) (.int .u8 (r1 : Int)) (.slice ua1 nu1 uc1) (.int .i64 p1) 30)
  clear o1 b1 bo1 ru1 hnu1 F1
  have hc2 := cell_of_row _ _ 0 _ _ _ H_17.out
  have hd2 := cell_of_row _ _ 1 _ _ _ H_17.out
  go_wp2_with fail
  clear hc2 hd2
  refine (F2.out _ _ X_20.out).mono ?_
  rintro e w5 ⟨v2, rfl, o2, b2⟩
  obtain ⟨ua2, uc2, rfl⟩ := Sees.shape (Sees.own o2)
  obtain ⟨nu2, hnu2⟩ : ∃ n, n = x2.pl.length := ⟨_, rfl⟩
  rw [← hnu2] at o2 ⊢
  have ru2 : Runs w5 (.slice ua2 nu2 uc2) x2.pl := by rw [hnu2] at o2 ⊢; exact Go.Proofs.Ytocjkegkgnbboaa.Runs.own o2
  have B_23 := Lib.hid (bt B_16.out b2)
  clear B_16
  have H_24 := Lib.hid (blk_below b2 H_17.out)
  clear H_17
  have L_25 := Lib.hid (L_18.out.keeps b2)
  clear L_18
  have C_26 := Lib.hid (C_19.out.keeps b2)
  clear C_19
  have X_27 := Lib.hid (X_20.out.keeps b2)
  clear X_20
  have R1_28 := Lib.hid (R1_21.out.keeps b2)
  clear R1_21
  have F1x_29 := Lib.hid (F1x_22.out.keeps b2)
  clear F1x_22
  have R2_30 := Lib.hid (ru2)
  have bo2 := (Below.refl w5.heap.size w5).alloc (Nat.le_refl _) (.cells #[.int .u8 (k2 : Int), .int .u32 (t2 : Int), .int .u8 (r2 : Int), .slice ua2 nu2 uc2, .int .i64 p2] 30)
  have B_31 := Lib.hid (bt B_23.out bo2)
  clear B_23
  have H_32 := Lib.hid (blk_below bo2 H_24.out)
  clear H_24
  have L_33 := Lib.hid (L_25.out.keeps bo2)
  clear L_25
  have C_34 := Lib.hid (C_26.out.keeps bo2)
  clear C_26
  have X_35 := Lib.hid (X_27.out.keeps bo2)
  clear X_27
  have R1_36 := Lib.hid (R1_28.out.keeps bo2)
  clear R1_28
  have F1x_37 := Lib.hid (F1x_29.out.keeps bo2)
  clear F1x_29
  have R2_38 := Lib.hid (R2_30.out.keeps bo2)
  clear R2_30
  have F2x_39 := Lib.hid (five_new w5 (.int .u8 (k2 : Int)) (.int .u32 (t2 : Int)) (.int .u8 (r2 : Int)) (.slice ua2 nu2 uc2) (.int .i64 p2) 30)
  clear o2 b2 bo2 ru2 hnu2 F2
  cases s1
  · obtain rfl : s2 = false := by have := SS.out.1; simpa using this
    go_wp2_with fail
    refine (C2.out _ _ X_35.out).mono ?_
    rintro e w8 ⟨rfl, b8⟩
    have B_540 := Lib.hid (bt B_31.out b8)
    clear B_31
    clear b8
    go_wp2
    go_ret
    exact ⟨rfl, B_540.out⟩
  cases hc
  · obtain rfl : s2 = true := by have := SS.out.1; simpa using this
    have hsm := SS.out.2 rfl
    rw [hsm] at SM
    clear hsm
    have hc9 := cell_of_row _ _ 0 _ _ _ H_32.out
    have hd9 := cell_of_row _ _ 1 _ _ _ H_32.out
    go_wp2_with fail
    clear hc9 hd9
    refine (HS.out _ _ C_34.out).mono ?_
    rintro e w6 ⟨rfl, b6⟩
    have B_540 := Lib.hid (bt B_31.out b6)
    clear B_31
    have H_541 := Lib.hid (blk_below b6 H_32.out)
    clear H_32
    have L_542 := Lib.hid (L_33.out.keeps b6)
    clear L_33
    have C_543 := Lib.hid (C_34.out.keeps b6)
    clear C_34
    have X_544 := Lib.hid (X_35.out.keeps b6)
    clear X_35
    have R1_545 := Lib.hid (R1_36.out.keeps b6)
    clear R1_36
    have F1x_546 := Lib.hid (F1x_37.out.keeps b6)
    clear F1x_37
    have R2_547 := Lib.hid (R2_38.out.keeps b6)
    clear R2_38
    have F2x_548 := Lib.hid (F2x_39.out.keeps b6)
    clear F2x_39
    clear b6
    obtain ⟨-, y0, y1, y2, y3, y4⟩ := F1x_546.out
    obtain ⟨-, z0, z1, z2, z3, z4⟩ := F2x_548.out
    go_wp2_with fail
    clear y0 y1 y2 y3 y4 z0 z1 z2 z3 z4
    refine (SM.out _ _ _ R1_545.out R2_547.out).mono ?_
    rintro e w7 ⟨rfl, b7⟩
    have B_549 := Lib.hid (bt B_540.out b7)
    clear B_540
    have H_550 := Lib.hid (blk_below b7 H_541.out)
    clear H_541
    have L_551 := Lib.hid (L_542.out.keeps b7)
    clear L_542
    have C_552 := Lib.hid (C_543.out.keeps b7)
    clear C_543
    have X_553 := Lib.hid (X_544.out.keeps b7)
    clear X_544
    have R1_554 := Lib.hid (R1_545.out.keeps b7)
    clear R1_545
    have F1x_555 := Lib.hid (F1x_546.out.keeps b7)
    clear F1x_546
    have R2_556 := Lib.hid (R2_547.out.keeps b7)
    clear R2_547
    have F2x_557 := Lib.hid (F2x_548.out.keeps b7)
    clear F2x_548
    clear b7
    go_wp2_with fail
    refine (C2.out _ _ X_553.out).mono ?_
    rintro e w8 ⟨rfl, b8⟩
    have B_558 := Lib.hid (bt B_549.out b8)
    clear B_549
    clear b8
    go_wp2
    go_ret
    exact ⟨rfl, B_558.out⟩
  · obtain rfl : s2 = false := by have := SS.out.1; simpa using this
    have hc9 := cell_of_row _ _ 0 _ _ _ H_32.out
    have hd9 := cell_of_row _ _ 1 _ _ _ H_32.out
    go_wp2_with fail
    clear hc9 hd9
    refine (HS.out _ _ C_34.out).mono ?_
    rintro e w6 ⟨rfl, b6⟩
    have B_540 := Lib.hid (bt B_31.out b6)
    clear B_31
    have H_541 := Lib.hid (blk_below b6 H_32.out)
    clear H_32
    have L_542 := Lib.hid (L_33.out.keeps b6)
    clear L_33
    have C_543 := Lib.hid (C_34.out.keeps b6)
    clear C_34
    have X_544 := Lib.hid (X_35.out.keeps b6)
    clear X_35
    have R1_545 := Lib.hid (R1_36.out.keeps b6)
    clear R1_36
    have F1x_546 := Lib.hid (F1x_37.out.keeps b6)
    clear F1x_37
    have R2_547 := Lib.hid (R2_38.out.keeps b6)
    clear R2_38
    have F2x_548 := Lib.hid (F2x_39.out.keeps b6)
    clear F2x_39
    clear b6
    go_wp2_with fail
    refine (C2.out _ _ X_544.out).mono ?_
    rintro e w8 ⟨rfl, b8⟩
    have B_549 := Lib.hid (bt B_540.out b8)
    clear B_540
    clear b8
    go_wp2
    go_ret
    exact ⟨rfl, B_549.out⟩
end Go.Proofs.Ytocjkegkgnbboaa.Bags
