/- BagIs answers true, and changes nothing that was there. Conditions: the places are not longer than memory holds. -/
import Derived.Test.YtocjkegkgnbboaaPk32
import Derived.Test.YtocjkegkgnbboaaPk33
import Derived.Test.YtocjkegkgnbboaaPk12

namespace Go.Proofs.Ytocjkegkgnbboaa.Bags
open Go.RowKit Go.WideShapes Stamp Go.Proofs.Ytocjkegkgnbboaa.Place Ops Codes
attribute [local go_sem ↓] Go.wp_at_zero Go.wp_at_succ
attribute [local go_sem] yielded_undef

theorem one_spl {W : World} {base n : Nat} {ao : Option Addr} {cap : Nat} {cs : List Value} {c0 c1 c2 c4 : Value} (ho : W.ownsRow base 71 3 (.slice ao n cap) n cs) (hG : base ≤ W.heap.size) :
    SplO (W.alloc (.cells #[c0, c1, c2, .slice ao n cap, c4] 30)) base (W.heap.size + 1) (.slice (some ⟨W.heap.size, 0, none⟩) 1 1) 1 := by
  refine ⟨_, _, rfl, by omega, .inr ⟨W.heap.size, _, rfl, hG, by omega, heap_alloc_new W _, by simp, fun k hk => ?_⟩⟩
  obtain rfl : k = 0 := by omega
  refine ⟨ao, n, cap, rfl, Sees.max (Sees.own ho), ?_⟩
  rcases ho.2 with ⟨_, h1⟩ | ⟨g, cap', cur, h0, h1, h2, h3, _, h4, _⟩
  · exact .inl h1
  · obtain ⟨rfl, -, rfl⟩ := Value.slice.inj h0
    have hlt := (Array.getElem?_eq_some_iff.1 h2).1
    exact .inr ⟨g, cur, rfl, h1, by omega, by omega, blk_old h2, by rw [h4]; exact Nat.mul_le_mul_right 3 h3⟩

set_option maxRecDepth 100000 in
set_option maxHeartbeats 16000000 in
theorem is_walk {a : List Opn} {ao0 : Option Addr} {cap0 : Nat} {b : List Opn} {ao1 : Option Addr} {cap1 : Nat} (i : Id) {w : World}
    (hr0 : OpL w (.slice ao0 a.length cap0) a) (hz0 : ∀ o ∈ a, o.pl.length ≤ 8796093022208) (hr1 : OpL w (.slice ao1 b.length cap1) b) :
    Calls Try.prog 5 #[.slice ao0 a.length cap0, .slice ao1 b.length cap1, .agg #[.int .u32 (i.t : Int), .int .u8 (i.r : Int)]] w fun e w' => e = .returned (.bool true) ∧ Below w.heap.size w w' := by
  have HR0 := Lib.hid hr0
  have HR1 := Lib.hid hr1
  have GA : Hid (∀ W : World, OpL W (.slice ao0 a.length cap0) a → Calls Try.prog 18 #[.slice ao0 a.length cap0, .int .i64 100] W fun e w' => GrtO a 100 e ∧ W = w') := fun W h => greatO_any h
  have GB : Hid (∀ W : World, OpL W (.slice ao1 b.length cap1) b → Calls Try.prog 18 #[.slice ao1 b.length cap1, .int .i64 100] W fun e w' => GrtO b 100 e ∧ W = w') := fun W h => greatO_any h
  have TA : Hid (a.length ≤ 1100 → ∀ W : World, OpL W (.slice ao0 a.length cap0) a → Calls Try.prog 20 #[.slice ao0 a.length cap0] W fun e w' => ∃ v', e = .returned v' ∧ OwnL w' W.heap.size v' a ∧ Below W.heap.size W w') := fun hl W h => refTwinL_any h (by omega) hz0
  have TX : Hid (a.length ≤ 1100 → ∀ (W : World) (v : Value), OpL W v a → Calls Try.prog 30 #[v] W fun e w' => ∃ v', e = .returned v' ∧ OwnL w' W.heap.size v' a ∧ Below W.heap.size W w') := fun hl W v h => bTwin_any h (by omega) hz0
  have FD : Hid (∀ (W : World) (v : Value), OpL W v a → Calls Try.prog 27 #[v, .agg #[.int .u32 (i.t : Int), .int .u8 (i.r : Int)]] W (FoundN (findL a i) W)) := fun W v h => bFind_any i h
  have RF : Hid (∀ (W : World) (v : Value), OpL W v a → Calls Try.prog 28 #[v, .agg #[.int .u32 (i.t : Int), .int .u8 (i.r : Int)]] W fun e w' => ∃ u, e = .returned (.tuple #[opv ((findL a i).getD zop) u, .bool (findL a i).isSome]) ∧ Runs w' u ((findL a i).getD zop).pl ∧ Below W.heap.size W w') := fun W v h => by
    refine (refFindL_any i h).mono ?_
    rintro e w' ⟨u, rfl, hu, hb⟩
    exact ⟨u, rfl, (hu W (Below.refl _ _) h).keeps hb, hb⟩
  have ID : Hid (∀ (W : World) (v : Value), OpL W v a → Calls Try.prog 12 #[v] W (DoneC (idsC a) (chkL a) W)) := fun W v h => bIds_any h
  have RI : Hid (∀ (W : World) (v : Value), OpL W v a → Calls Try.prog 29 #[v] W (DoneC (idsC a) (chkL a) W)) := fun W v h => refIdsL_any h
  have CK : Hid (∀ (W : World) (v : Value), OpL W v a → Calls Try.prog 17 #[v] W fun e w' => e = .returned (.int .i64 (chkL a)) ∧ Below W.heap.size W w') := fun W v h => bCheck_any h
  have RC : Hid (∀ (W : World) (v : Value), OpL W v a → Calls Try.prog 32 #[v] W fun e w' => e = .returned (.int .i64 (chkL a)) ∧ Below W.heap.size W w') := fun W v h => refCheckL_any h
  have SL : Hid (∀ (W : World) (u v : Value) (m : List Opn), OpL W u m → OpL W v m → Calls Try.prog 25 #[u, v] W fun e w' => e = .returned (.bool true) ∧ Below W.heap.size W w') := fun W u v m h h2 => by
    have := refSameL_any h h2
    rwa [decide_eq_true rfl] at this
  have BS : Hid (∀ (W : World) (u v : Value) (m : List Opn), OpL W u m → OpL W v m → Calls Try.prog 33 #[u, v] W fun e w' => e = .returned (.bool true) ∧ Below W.heap.size W w') := fun W u v m h h2 => by
    have := bSame_any h h2
    rwa [decide_eq_true rfl] at this
  have SB : Hid (∀ (W : World) (u v : Value), OpL W u a → OpL W v b → Calls Try.prog 25 #[u, v] W fun e w' => e = .returned (.bool (decide (a = b))) ∧ Below W.heap.size W w') := fun W u v h h2 => refSameL_any h h2
  have BB : Hid (∀ (W : World) (u v : Value), OpL W u a → OpL W v b → Calls Try.prog 33 #[u, v] W fun e w' => e = .returned (.bool (decide (a = b))) ∧ Below W.heap.size W w') := fun W u v h h2 => bSame_any h h2
  have SC : Hid (∀ (W : World) (u v : Value) (c : List Clocks.Tm), Tms W u c → Tms W v c → Calls Try.prog 16 #[u, v] W fun e w' => e = .returned (.bool true) ∧ Below W.heap.size W w') := fun W u v c h h2 => by
    have := Clocks.refSameC_any h h2
    rwa [decide_eq_true rfl] at this
  have SP : Hid (∀ (W : World) (base top n : Nat) (v : Value), SplO W base top v n → Calls Try.prog 26 #[v] W fun e w' => e = .returned (.tuple #[]) ∧ Sand base top W w') := fun W base top n v h => spoil_any h
  obtain ⟨n0, hn0⟩ : ∃ n, n = a.length := ⟨_, rfl⟩
  obtain ⟨n1, hn1⟩ : ∃ n, n = b.length := ⟨_, rfl⟩
  have hga : ∀ {m : Int} {e : Ending}, GrtO a m e → ∃ g, e = .returned (.bool g) ∧ Hid (g = false → (n0 : Int) ≤ m) := fun ⟨g, h1, h2⟩ => ⟨g, h1, fun h => by have := (h2 h).1; omega⟩
  have hgb : ∀ {m : Int} {e : Ending}, GrtO b m e → ∃ g, e = .returned (.bool g) := fun ⟨g, h1, h2⟩ => ⟨g, h1⟩
  rw [← hn0] at HR0 GA TA TX ⊢
  rw [← hn1] at HR1 GB ⊢
  unfold FoundN at FD
  obtain ⟨Q, hQ⟩ : ∃ q, findL a i = q := ⟨_, rfl⟩
  rw [hQ] at FD RF
  obtain ⟨x1, hx1⟩ : ∃ x, x = Q.getD zop := ⟨_, rfl⟩
  obtain ⟨s1, hs1⟩ : ∃ b, b = Q.isSome := ⟨_, rfl⟩
  rw [← hx1, ← hs1] at FD RF
  have SM : Hid (∀ (W : World) (u v : Value), Runs W u x1.pl → Runs W v x1.pl → Calls Try.prog 31 #[opv x1 u, opv x1 v] W fun e w' => e = .returned (.bool true) ∧ Below W.heap.size W w') := fun W u v h h2 => by
    have := Ops.refSame_any h h2
    rwa [(sameB_iff x1 x1).2 rfl] at this
  have HO1 : Hid (∀ v : Value, opv x1 v = .agg #[.int .u8 (x1.k : Int), .int .u32 (x1.t : Int), .int .u8 (x1.r : Int), v, .int .i64 x1.p]) := fun v => rfl
  obtain ⟨k1, hk1⟩ : ∃ z, x1.k = z := ⟨_, rfl⟩
  obtain ⟨t1, ht1⟩ : ∃ z, x1.t = z := ⟨_, rfl⟩
  obtain ⟨r1, hr1'⟩ : ∃ z, x1.r = z := ⟨_, rfl⟩
  obtain ⟨p1, hp1⟩ : ∃ z, x1.p = z := ⟨_, rfl⟩
  rw [hk1, ht1, hr1', hp1] at HO1
  simp only [HO1.out] at FD RF SM
  obtain ⟨E, hE⟩ : ∃ z, chkL a = z := ⟨_, rfl⟩
  rw [hE] at ID RI CK RC
  unfold DoneC at ID RI
  obtain ⟨q, hq⟩ : ∃ z, decide (a = b) = z := ⟨_, rfl⟩
  rw [hq] at SB BB
  have sq : (q == q) = true := by cases q <;> rfl
  have se : (s1 == s1) = true := by cases s1 <;> rfl
  obtain ⟨ta, ra, hta, hra⟩ := i
  simp only at FD RF ⊢
  have XI : Hid ((w.alloc (.cells #[.int .u32 (ta : Int), .int .u8 (ra : Int)] 27)).heap[w.heap.size]? = some (.cells #[.int .u32 (ta : Int), .int .u8 (ra : Int)] 27)) := blk_new rfl
  have B0 : Hid (Below w.heap.size w (w.alloc (.cells #[.int .u32 (ta : Int), .int .u8 (ra : Int)] 27))) := (Below.refl _ _).alloc (Nat.le_refl _) _
  have A0 := Lib.hid (HR0.out.keeps B0.out)
  have D0 := Lib.hid (HR1.out.keeps B0.out)
  have WB0 : w.heap.size ≤ (w.alloc (.cells #[.int .u32 (ta : Int), .int .u8 (ra : Int)] 27)).heap.size := B0.out.size
  have WB := Lib.hid WB0
  clear hr0 hr1 hz0 hn0 hn1 hQ hx1 hs1 hk1 ht1 hr1' hp1 HO1 hE hq WB0
  go_enter Try.func5, Try.ntmps5
  go_wp2_with fail
  refine (GA.out _ A0.out).mono ?_
  rintro e w2 ⟨hg, rfl⟩
  obtain ⟨g, rfl, hg2⟩ := hga hg
  clear hg hga GA
  cases g
  rotate_left
  · go_wp2
    go_ret
    exact ⟨rfl, B0.out⟩
  go_wp2_with fail
  refine (GB.out _ D0.out).mono ?_
  rintro e w2 ⟨hg, rfl⟩
  obtain ⟨g, rfl⟩ := hgb hg
  clear hg hgb GB
  cases g
  rotate_left
  · go_wp2
    go_ret
    exact ⟨rfl, B0.out⟩
  have hlen : n0 ≤ 1100 := by have := hg2.out (by trivial); omega
  have TA2 := Lib.hid (TA.out hlen)
  have TX2 := Lib.hid (TX.out hlen)
  clear TA TX hg2 hlen
  go_wp2_with fail
  refine (TA2.out _ A0.out).mono ?_
  rintro e wx ⟨vx, rfl, ox, bx⟩
  have B_1 := Lib.hid (bt B0.out bx)
  clear B0
  have H_2 := Lib.hid (blk_below bx XI.out)
  clear XI
  have A_3 := Lib.hid (A0.out.keeps bx)
  clear A0
  have D_4 := Lib.hid (D0.out.keeps bx)
  clear D0
  have OWx := Lib.hid ox
  have SX := Lib.hid bx.size
  have X_5 := Lib.hid (ox)
  have BX_6 := Lib.hid (Below.refl wx.heap.size wx)
  clear ox bx TA2
  have hc1 := cell_of_row _ _ 0 _ _ _ H_2.out
  have hd1 := cell_of_row _ _ 1 _ _ _ H_2.out
  go_wp2_with fail
  clear hc1 hd1
  refine (FD.out _ _ X_5.out.opl).mono ?_
  rintro e wf ⟨v1, rfl, o1, b1⟩
  obtain ⟨ua1, uc1, rfl⟩ := Sees.shape (Sees.own o1)
  obtain ⟨nu1, hnu1⟩ : ∃ n, n = x1.pl.length := ⟨_, rfl⟩
  rw [← hnu1] at o1 ⊢
  have OWf := Lib.hid o1
  have ru1 : Runs wf (.slice ua1 nu1 uc1) x1.pl := by rw [hnu1] at o1 ⊢; exact Go.Proofs.Ytocjkegkgnbboaa.Runs.own o1
  have B_7 := Lib.hid (bt B_1.out b1)
  clear B_1
  have H_8 := Lib.hid (blk_below b1 H_2.out)
  clear H_2
  have A_9 := Lib.hid (A_3.out.keeps b1)
  clear A_3
  have D_10 := Lib.hid (D_4.out.keeps b1)
  clear D_4
  have X_11 := Lib.hid (X_5.out.keeps b1)
  clear X_5
  have BX_12 := Lib.hid (bt BX_6.out b1)
  clear BX_6
  have R1_13 := Lib.hid (ru1)
  have BF_14 := Lib.hid (Below.refl wf.heap.size wf)
  have bo1 := (Below.refl wf.heap.size wf).alloc (Nat.le_refl _) (.cells #[.int .u8 (k1 : Int), .int .u32 (t1 : Int), .int .u8 (r1 : Int), .slice ua1 nu1 uc1, .int .i64 p1] 30)
  have B_15 := Lib.hid (bt B_7.out bo1)
  clear B_7
  have H_16 := Lib.hid (blk_below bo1 H_8.out)
  clear H_8
  have A_17 := Lib.hid (A_9.out.keeps bo1)
  clear A_9
  have D_18 := Lib.hid (D_10.out.keeps bo1)
  clear D_10
  have X_19 := Lib.hid (X_11.out.keeps bo1)
  clear X_11
  have BX_20 := Lib.hid (bt BX_12.out bo1)
  clear BX_12
  have R1_21 := Lib.hid (R1_13.out.keeps bo1)
  clear R1_13
  have BF_22 := Lib.hid (bt BF_14.out bo1)
  clear BF_14
  obtain ⟨wg, hwg⟩ : ∃ x, x = wf.alloc (.cells #[.int .u8 (k1 : Int), .int .u32 (t1 : Int), .int .u8 (r1 : Int), .slice ua1 nu1 uc1, .int .i64 p1] 30) := ⟨_, rfl⟩
  have FG : Hid (Five wg wf.heap.size (.int .u8 (k1 : Int)) (.int .u32 (t1 : Int)) (.int .u8 (r1 : Int)) (.slice ua1 nu1 uc1) (.int .i64 p1)) := by rw [hwg]; exact five_new wf _ _ _ _ _ 30
  have HWG := Lib.hid hwg
  have SF := Lib.hid b1.size
  have SG : Hid (wf.heap.size + 1 = wg.heap.size) := by rw [hwg]; simp [Hid]
  rw [← hwg] at B_15
  rw [← hwg] at H_16
  rw [← hwg] at A_17
  rw [← hwg] at D_18
  rw [← hwg] at X_19
  rw [← hwg] at BX_20
  rw [← hwg] at R1_21
  rw [← hwg] at BF_22
  have F1x_23 := Lib.hid (FG.out)
  have BG_24 := Lib.hid (Below.refl wg.heap.size wg)
  clear o1 b1 bo1 ru1 hnu1 FD hwg
  have hc1 := cell_of_row _ _ 0 _ _ _ H_16.out
  have hd1 := cell_of_row _ _ 1 _ _ _ H_16.out
  rw [HWG.out] at hc1 hd1
  have RFA := Lib.hid (RF.out wg _ A_17.out)
  rw [HWG.out] at RFA
  go_wp2_with fail
  clear hc1 hd1
  refine RFA.out.mono ?_
  rintro e wh ⟨v2, rfl, o2, b2⟩
  obtain ⟨ua2, uc2, rfl⟩ := o2.shape
  obtain ⟨nu2, hnu2⟩ : ∃ n, n = x1.pl.length := ⟨_, rfl⟩
  rw [← hnu2] at o2 ⊢
  rw [← HWG.out] at b2
  have B_25 := Lib.hid (bt B_15.out b2)
  clear B_15
  have H_26 := Lib.hid (blk_below b2 H_16.out)
  clear H_16
  have A_27 := Lib.hid (A_17.out.keeps b2)
  clear A_17
  have D_28 := Lib.hid (D_18.out.keeps b2)
  clear D_18
  have X_29 := Lib.hid (X_19.out.keeps b2)
  clear X_19
  have BX_30 := Lib.hid (bt BX_20.out b2)
  clear BX_20
  have R1_31 := Lib.hid (R1_21.out.keeps b2)
  clear R1_21
  have BF_32 := Lib.hid (bt BF_22.out b2)
  clear BF_22
  have F1x_33 := Lib.hid (F1x_23.out.keeps b2)
  clear F1x_23
  have BG_34 := Lib.hid (bt BG_24.out b2)
  clear BG_24
  have R2_35 := Lib.hid (o2)
  have bo2 := (Below.refl wh.heap.size wh).alloc (Nat.le_refl _) (.cells #[.int .u8 (k1 : Int), .int .u32 (t1 : Int), .int .u8 (r1 : Int), .slice ua2 nu2 uc2, .int .i64 p1] 30)
  have B_36 := Lib.hid (bt B_25.out bo2)
  clear B_25
  have H_37 := Lib.hid (blk_below bo2 H_26.out)
  clear H_26
  have A_38 := Lib.hid (A_27.out.keeps bo2)
  clear A_27
  have D_39 := Lib.hid (D_28.out.keeps bo2)
  clear D_28
  have X_40 := Lib.hid (X_29.out.keeps bo2)
  clear X_29
  have BX_41 := Lib.hid (bt BX_30.out bo2)
  clear BX_30
  have R1_42 := Lib.hid (R1_31.out.keeps bo2)
  clear R1_31
  have BF_43 := Lib.hid (bt BF_32.out bo2)
  clear BF_32
  have F1x_44 := Lib.hid (F1x_33.out.keeps bo2)
  clear F1x_33
  have BG_45 := Lib.hid (bt BG_34.out bo2)
  clear BG_34
  have R2_46 := Lib.hid (R2_35.out.keeps bo2)
  clear R2_35
  have F2x_47 := Lib.hid (five_new wh (.int .u8 (k1 : Int)) (.int .u32 (t1 : Int)) (.int .u8 (r1 : Int)) (.slice ua2 nu2 uc2) (.int .i64 p1) 30)
  clear o2 b2 bo2 hnu2 RF RFA
  go_wp2_with fail
  refine (ID.out _ _ X_40.out.opl).mono ?_
  rintro e wc ⟨vc, rfl, oc, bwc⟩
  have B_48 := Lib.hid (bt B_36.out bwc)
  clear B_36
  have H_49 := Lib.hid (blk_below bwc H_37.out)
  clear H_37
  have A_50 := Lib.hid (A_38.out.keeps bwc)
  clear A_38
  have D_51 := Lib.hid (D_39.out.keeps bwc)
  clear D_39
  have X_52 := Lib.hid (X_40.out.keeps bwc)
  clear X_40
  have BX_53 := Lib.hid (bt BX_41.out bwc)
  clear BX_41
  have R1_54 := Lib.hid (R1_42.out.keeps bwc)
  clear R1_42
  have BF_55 := Lib.hid (bt BF_43.out bwc)
  clear BF_43
  have F1x_56 := Lib.hid (F1x_44.out.keeps bwc)
  clear F1x_44
  have BG_57 := Lib.hid (bt BG_45.out bwc)
  clear BG_45
  have R2_58 := Lib.hid (R2_46.out.keeps bwc)
  clear R2_46
  have F2x_59 := Lib.hid (F2x_47.out.keeps bwc)
  clear F2x_47
  have C_60 := Lib.hid (oc.tms)
  clear oc bwc ID
  go_wp2_with fail
  refine (RI.out _ _ A_50.out).mono ?_
  rintro e wd ⟨vd, rfl, od, bwd⟩
  have B_61 := Lib.hid (bt B_48.out bwd)
  clear B_48
  have H_62 := Lib.hid (blk_below bwd H_49.out)
  clear H_49
  have A_63 := Lib.hid (A_50.out.keeps bwd)
  clear A_50
  have D_64 := Lib.hid (D_51.out.keeps bwd)
  clear D_51
  have X_65 := Lib.hid (X_52.out.keeps bwd)
  clear X_52
  have BX_66 := Lib.hid (bt BX_53.out bwd)
  clear BX_53
  have R1_67 := Lib.hid (R1_54.out.keeps bwd)
  clear R1_54
  have BF_68 := Lib.hid (bt BF_55.out bwd)
  clear BF_55
  have F1x_69 := Lib.hid (F1x_56.out.keeps bwd)
  clear F1x_56
  have BG_70 := Lib.hid (bt BG_57.out bwd)
  clear BG_57
  have R2_71 := Lib.hid (R2_58.out.keeps bwd)
  clear R2_58
  have F2x_72 := Lib.hid (F2x_59.out.keeps bwd)
  clear F2x_59
  have C_73 := Lib.hid (C_60.out.keeps bwd)
  clear C_60
  have Dc_74 := Lib.hid (od.tms)
  clear od bwd RI
  have ST := Lib.hid BG_70.out.size
  go_wp2_with fail
  refine (TX2.out _ _ X_65.out.opl).mono ?_
  rintro e wt ⟨vt, rfl, ot, bwt⟩
  have B_75 := Lib.hid (bt B_61.out bwt)
  clear B_61
  have H_76 := Lib.hid (blk_below bwt H_62.out)
  clear H_62
  have A_77 := Lib.hid (A_63.out.keeps bwt)
  clear A_63
  have D_78 := Lib.hid (D_64.out.keeps bwt)
  clear D_64
  have X_79 := Lib.hid (X_65.out.keeps bwt)
  clear X_65
  have BX_80 := Lib.hid (bt BX_66.out bwt)
  clear BX_66
  have R1_81 := Lib.hid (R1_67.out.keeps bwt)
  clear R1_67
  have BF_82 := Lib.hid (bt BF_68.out bwt)
  clear BF_68
  have F1x_83 := Lib.hid (F1x_69.out.keeps bwt)
  clear F1x_69
  have BG_84 := Lib.hid (bt BG_70.out bwt)
  clear BG_70
  have R2_85 := Lib.hid (R2_71.out.keeps bwt)
  clear R2_71
  have F2x_86 := Lib.hid (F2x_72.out.keeps bwt)
  clear F2x_72
  have C_87 := Lib.hid (C_73.out.keeps bwt)
  clear C_73
  have Dc_88 := Lib.hid (Dc_74.out.keeps bwt)
  clear Dc_74
  have OWt := Lib.hid ot
  have SWT := Lib.hid bwt.size
  have T_89 := Lib.hid (ot)
  have BT_90 := Lib.hid (Below.refl wt.heap.size wt)
  clear ot bwt TX2
  obtain ⟨-, y0, y1, y2, y3, y4⟩ := F1x_83.out
  obtain ⟨-, z0, z1, z2, z3, z4⟩ := F2x_86.out
  go_wp2_with fail
  clear y0 y1 y2 y3 y4 z0 z1 z2 z3 z4
  refine (SM.out _ _ _ R1_81.out R2_85.out).mono ?_
  rintro e v1x ⟨rfl, bv1x⟩
  have B_91 := Lib.hid (bt B_75.out bv1x)
  clear B_75
  have H_92 := Lib.hid (blk_below bv1x H_76.out)
  clear H_76
  have A_93 := Lib.hid (A_77.out.keeps bv1x)
  clear A_77
  have D_94 := Lib.hid (D_78.out.keeps bv1x)
  clear D_78
  have X_95 := Lib.hid (X_79.out.keeps bv1x)
  clear X_79
  have BX_96 := Lib.hid (bt BX_80.out bv1x)
  clear BX_80
  have R1_97 := Lib.hid (R1_81.out.keeps bv1x)
  clear R1_81
  have BF_98 := Lib.hid (bt BF_82.out bv1x)
  clear BF_82
  have F1x_99 := Lib.hid (F1x_83.out.keeps bv1x)
  clear F1x_83
  have BG_100 := Lib.hid (bt BG_84.out bv1x)
  clear BG_84
  have R2_101 := Lib.hid (R2_85.out.keeps bv1x)
  clear R2_85
  have F2x_102 := Lib.hid (F2x_86.out.keeps bv1x)
  clear F2x_86
  have C_103 := Lib.hid (C_87.out.keeps bv1x)
  clear C_87
  have Dc_104 := Lib.hid (Dc_88.out.keeps bv1x)
  clear Dc_88
  have T_105 := Lib.hid (T_89.out.keeps bv1x)
  clear T_89
  have BT_106 := Lib.hid (bt BT_90.out bv1x)
  clear BT_90
  clear bv1x SM
  go_wp2_with fail
  refine (SC.out _ _ _ _ C_103.out Dc_104.out).mono ?_
  rintro e v2x ⟨rfl, bv2x⟩
  have B_107 := Lib.hid (bt B_91.out bv2x)
  clear B_91
  have H_108 := Lib.hid (blk_below bv2x H_92.out)
  clear H_92
  have A_109 := Lib.hid (A_93.out.keeps bv2x)
  clear A_93
  have D_110 := Lib.hid (D_94.out.keeps bv2x)
  clear D_94
  have X_111 := Lib.hid (X_95.out.keeps bv2x)
  clear X_95
  have BX_112 := Lib.hid (bt BX_96.out bv2x)
  clear BX_96
  have R1_113 := Lib.hid (R1_97.out.keeps bv2x)
  clear R1_97
  have BF_114 := Lib.hid (bt BF_98.out bv2x)
  clear BF_98
  have F1x_115 := Lib.hid (F1x_99.out.keeps bv2x)
  clear F1x_99
  have BG_116 := Lib.hid (bt BG_100.out bv2x)
  clear BG_100
  have R2_117 := Lib.hid (R2_101.out.keeps bv2x)
  clear R2_101
  have F2x_118 := Lib.hid (F2x_102.out.keeps bv2x)
  clear F2x_102
  have C_119 := Lib.hid (C_103.out.keeps bv2x)
  clear C_103
  have Dc_120 := Lib.hid (Dc_104.out.keeps bv2x)
  clear Dc_104
  have T_121 := Lib.hid (T_105.out.keeps bv2x)
  clear T_105
  have BT_122 := Lib.hid (bt BT_106.out bv2x)
  clear BT_106
  clear bv2x
  go_wp2_with fail
  refine (CK.out _ _ X_111.out.opl).mono ?_
  rintro e v3x ⟨rfl, bv3x⟩
  have B_123 := Lib.hid (bt B_107.out bv3x)
  clear B_107
  have H_124 := Lib.hid (blk_below bv3x H_108.out)
  clear H_108
  have A_125 := Lib.hid (A_109.out.keeps bv3x)
  clear A_109
  have D_126 := Lib.hid (D_110.out.keeps bv3x)
  clear D_110
  have X_127 := Lib.hid (X_111.out.keeps bv3x)
  clear X_111
  have BX_128 := Lib.hid (bt BX_112.out bv3x)
  clear BX_112
  have R1_129 := Lib.hid (R1_113.out.keeps bv3x)
  clear R1_113
  have BF_130 := Lib.hid (bt BF_114.out bv3x)
  clear BF_114
  have F1x_131 := Lib.hid (F1x_115.out.keeps bv3x)
  clear F1x_115
  have BG_132 := Lib.hid (bt BG_116.out bv3x)
  clear BG_116
  have R2_133 := Lib.hid (R2_117.out.keeps bv3x)
  clear R2_117
  have F2x_134 := Lib.hid (F2x_118.out.keeps bv3x)
  clear F2x_118
  have C_135 := Lib.hid (C_119.out.keeps bv3x)
  clear C_119
  have Dc_136 := Lib.hid (Dc_120.out.keeps bv3x)
  clear Dc_120
  have T_137 := Lib.hid (T_121.out.keeps bv3x)
  clear T_121
  have BT_138 := Lib.hid (bt BT_122.out bv3x)
  clear BT_122
  clear bv3x
  go_wp2_with fail
  refine (RC.out _ _ A_125.out).mono ?_
  rintro e v4x ⟨rfl, bv4x⟩
  have B_139 := Lib.hid (bt B_123.out bv4x)
  clear B_123
  have H_140 := Lib.hid (blk_below bv4x H_124.out)
  clear H_124
  have A_141 := Lib.hid (A_125.out.keeps bv4x)
  clear A_125
  have D_142 := Lib.hid (D_126.out.keeps bv4x)
  clear D_126
  have X_143 := Lib.hid (X_127.out.keeps bv4x)
  clear X_127
  have BX_144 := Lib.hid (bt BX_128.out bv4x)
  clear BX_128
  have R1_145 := Lib.hid (R1_129.out.keeps bv4x)
  clear R1_129
  have BF_146 := Lib.hid (bt BF_130.out bv4x)
  clear BF_130
  have F1x_147 := Lib.hid (F1x_131.out.keeps bv4x)
  clear F1x_131
  have BG_148 := Lib.hid (bt BG_132.out bv4x)
  clear BG_132
  have R2_149 := Lib.hid (R2_133.out.keeps bv4x)
  clear R2_133
  have F2x_150 := Lib.hid (F2x_134.out.keeps bv4x)
  clear F2x_134
  have C_151 := Lib.hid (C_135.out.keeps bv4x)
  clear C_135
  have Dc_152 := Lib.hid (Dc_136.out.keeps bv4x)
  clear Dc_136
  have T_153 := Lib.hid (T_137.out.keeps bv4x)
  clear T_137
  have BT_154 := Lib.hid (bt BT_138.out bv4x)
  clear BT_138
  clear bv4x
  go_wp2_with fail
  refine (SL.out _ _ _ _ T_153.out.opl A_141.out).mono ?_
  rintro e v5x ⟨rfl, bv5x⟩
  have B_155 := Lib.hid (bt B_139.out bv5x)
  clear B_139
  have H_156 := Lib.hid (blk_below bv5x H_140.out)
  clear H_140
  have A_157 := Lib.hid (A_141.out.keeps bv5x)
  clear A_141
  have D_158 := Lib.hid (D_142.out.keeps bv5x)
  clear D_142
  have X_159 := Lib.hid (X_143.out.keeps bv5x)
  clear X_143
  have BX_160 := Lib.hid (bt BX_144.out bv5x)
  clear BX_144
  have R1_161 := Lib.hid (R1_145.out.keeps bv5x)
  clear R1_145
  have BF_162 := Lib.hid (bt BF_146.out bv5x)
  clear BF_146
  have F1x_163 := Lib.hid (F1x_147.out.keeps bv5x)
  clear F1x_147
  have BG_164 := Lib.hid (bt BG_148.out bv5x)
  clear BG_148
  have R2_165 := Lib.hid (R2_149.out.keeps bv5x)
  clear R2_149
  have F2x_166 := Lib.hid (F2x_150.out.keeps bv5x)
  clear F2x_150
  have C_167 := Lib.hid (C_151.out.keeps bv5x)
  clear C_151
  have Dc_168 := Lib.hid (Dc_152.out.keeps bv5x)
  clear Dc_152
  have T_169 := Lib.hid (T_153.out.keeps bv5x)
  clear T_153
  have BT_170 := Lib.hid (bt BT_154.out bv5x)
  clear BT_154
  clear bv5x
  go_wp2_with fail
  refine (BB.out _ _ _ X_159.out.opl D_158.out).mono ?_
  rintro e v6x ⟨rfl, bv6x⟩
  have B_171 := Lib.hid (bt B_155.out bv6x)
  clear B_155
  have H_172 := Lib.hid (blk_below bv6x H_156.out)
  clear H_156
  have A_173 := Lib.hid (A_157.out.keeps bv6x)
  clear A_157
  have D_174 := Lib.hid (D_158.out.keeps bv6x)
  clear D_158
  have X_175 := Lib.hid (X_159.out.keeps bv6x)
  clear X_159
  have BX_176 := Lib.hid (bt BX_160.out bv6x)
  clear BX_160
  have R1_177 := Lib.hid (R1_161.out.keeps bv6x)
  clear R1_161
  have BF_178 := Lib.hid (bt BF_162.out bv6x)
  clear BF_162
  have F1x_179 := Lib.hid (F1x_163.out.keeps bv6x)
  clear F1x_163
  have BG_180 := Lib.hid (bt BG_164.out bv6x)
  clear BG_164
  have R2_181 := Lib.hid (R2_165.out.keeps bv6x)
  clear R2_165
  have F2x_182 := Lib.hid (F2x_166.out.keeps bv6x)
  clear F2x_166
  have C_183 := Lib.hid (C_167.out.keeps bv6x)
  clear C_167
  have Dc_184 := Lib.hid (Dc_168.out.keeps bv6x)
  clear Dc_168
  have T_185 := Lib.hid (T_169.out.keeps bv6x)
  clear T_169
  have BT_186 := Lib.hid (bt BT_170.out bv6x)
  clear BT_170
  clear bv6x
  go_wp2_with fail
  refine (SB.out _ _ _ A_173.out D_174.out).mono ?_
  rintro e v7x ⟨rfl, bv7x⟩
  have B_187 := Lib.hid (bt B_171.out bv7x)
  clear B_171
  have H_188 := Lib.hid (blk_below bv7x H_172.out)
  clear H_172
  have A_189 := Lib.hid (A_173.out.keeps bv7x)
  clear A_173
  have D_190 := Lib.hid (D_174.out.keeps bv7x)
  clear D_174
  have X_191 := Lib.hid (X_175.out.keeps bv7x)
  clear X_175
  have BX_192 := Lib.hid (bt BX_176.out bv7x)
  clear BX_176
  have R1_193 := Lib.hid (R1_177.out.keeps bv7x)
  clear R1_177
  have BF_194 := Lib.hid (bt BF_178.out bv7x)
  clear BF_178
  have F1x_195 := Lib.hid (F1x_179.out.keeps bv7x)
  clear F1x_179
  have BG_196 := Lib.hid (bt BG_180.out bv7x)
  clear BG_180
  have R2_197 := Lib.hid (R2_181.out.keeps bv7x)
  clear R2_181
  have F2x_198 := Lib.hid (F2x_182.out.keeps bv7x)
  clear F2x_182
  have C_199 := Lib.hid (C_183.out.keeps bv7x)
  clear C_183
  have Dc_200 := Lib.hid (Dc_184.out.keeps bv7x)
  clear Dc_184
  have T_201 := Lib.hid (T_185.out.keeps bv7x)
  clear T_185
  have BT_202 := Lib.hid (bt BT_186.out bv7x)
  clear BT_186
  clear bv7x
  go_wp2_with fail
  refine (BS.out _ _ _ _ X_191.out.opl A_189.out).mono ?_
  rintro e v8x ⟨rfl, bv8x⟩
  have B_203 := Lib.hid (bt B_187.out bv8x)
  clear B_187
  have H_204 := Lib.hid (blk_below bv8x H_188.out)
  clear H_188
  have A_205 := Lib.hid (A_189.out.keeps bv8x)
  clear A_189
  have D_206 := Lib.hid (D_190.out.keeps bv8x)
  clear D_190
  have X_207 := Lib.hid (X_191.out.keeps bv8x)
  clear X_191
  have BX_208 := Lib.hid (bt BX_192.out bv8x)
  clear BX_192
  have R1_209 := Lib.hid (R1_193.out.keeps bv8x)
  clear R1_193
  have BF_210 := Lib.hid (bt BF_194.out bv8x)
  clear BF_194
  have F1x_211 := Lib.hid (F1x_195.out.keeps bv8x)
  clear F1x_195
  have BG_212 := Lib.hid (bt BG_196.out bv8x)
  clear BG_196
  have R2_213 := Lib.hid (R2_197.out.keeps bv8x)
  clear R2_197
  have F2x_214 := Lib.hid (F2x_198.out.keeps bv8x)
  clear F2x_198
  have C_215 := Lib.hid (C_199.out.keeps bv8x)
  clear C_199
  have Dc_216 := Lib.hid (Dc_200.out.keeps bv8x)
  clear Dc_200
  have T_217 := Lib.hid (T_201.out.keeps bv8x)
  clear T_201
  have BT_218 := Lib.hid (bt BT_202.out bv8x)
  clear BT_202
  clear bv8x
  have ZT := Lib.hid (spl_at OWt.out BT_218.out)
  have z1 := SX.out
  have z2 := SF.out
  have z3 := SG.out
  have z4 := ST.out
  have z5 := WB.out
  have ZZ : Hid (w.heap.size ≤ wx.heap.size ∧ wx.heap.size ≤ wf.heap.size ∧ wf.heap.size ≤ wd.heap.size ∧ wg.heap.size ≤ wd.heap.size) := by unfold Hid; omega
  clear z1 z2 z3 z4 z5 SX SF SG ST WB SWT
  go_wp2_with fail
  refine (SP.out _ _ _ _ _ ZT.out).mono ?_
  rintro e wt1 ⟨rfl, s1x⟩
  have E1 := Lib.hid (BX_208.out.trans (s1x.1.mono (Nat.le_trans ZZ.out.2.1 ZZ.out.2.2.1)))
  have T1 := Lib.hid (B_203.out.trans (s1x.1.mono (Nat.le_trans ZZ.out.1 (Nat.le_trans ZZ.out.2.1 ZZ.out.2.2.1))))
  have G1 := Lib.hid (BG_212.out.trans (s1x.1.mono ZZ.out.2.2.2))
  have K1 := Lib.hid (BF_210.out.trans (s1x.1.mono ZZ.out.2.2.1))
  clear s1x ZT
  obtain ⟨-, y0, y1, y2, y3, y4⟩ := FG.out.keeps G1.out
  have OF1 := Lib.hid (own_stays OWf.out K1.out)
  have PO := Lib.hid (one_spl (c0 := .int .u8 (k1 : Int)) (c1 := .int .u32 (t1 : Int)) (c2 := .int .u8 (r1 : Int)) (c4 := .int .i64 p1) OF1.out E1.out.size)
  go_wp2_with fail
  clear y0 y1 y2 y3 y4
  refine (SP.out _ _ _ _ _ PO.out).mono ?_
  rintro e wt2 ⟨rfl, s2x⟩
  have E2 := Lib.hid (E1.out.trans (((Below.refl _ _).alloc E1.out.size _).trans s2x.1))
  have T2 := Lib.hid (T1.out.trans (((Below.refl _ _).alloc T1.out.size _).trans (s2x.1.mono ZZ.out.1)))
  clear s2x PO OF1 K1 G1 E1 T1
  go_wp2_with fail
  refine (SL.out _ _ _ _ (OWx.out.opl.keeps E2.out) (HR0.out.keeps T2.out)).mono ?_
  rintro e wt4 ⟨rfl, b4⟩
  have T4 := Lib.hid (bt T2.out b4)
  clear b4 E2 T2
  go_wp2
  go_ret
  exact ⟨rfl, T4.out⟩
end Go.Proofs.Ytocjkegkgnbboaa.Bags
