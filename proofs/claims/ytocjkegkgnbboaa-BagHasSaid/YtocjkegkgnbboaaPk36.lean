/- BagHas answers true, and changes nothing that was there. Conditions: none. -/
import Derived.Test.YtocjkegkgnbboaaPk35
import Derived.Test.YtocjkegkgnbboaaPk25

namespace Go.Proofs.Ytocjkegkgnbboaa.Bags
open Go.RowKit Go.WideShapes Stamp Go.Proofs.Ytocjkegkgnbboaa.Place Ops Codes
attribute [local go_sem ↓] Go.wp_at_zero Go.wp_at_succ
attribute [local go_sem] yielded_undef

theorem add_nil {l : List Opn} {o : Opn} (h : addE l o ≠ 0) : addL l o = [] ∧ (addE l o == 0) = false := ⟨by unfold addL; rw [if_neg h], by simpa using h⟩
theorem has_all {l : List Opn} {o : Opn} (a : Id) (h : addE l o = 0) :
    findL (addL l o) a = (match findL l a with | some y => some y | none => if idO o = a then some o else none) ∧ Clocks.hasC (idsC (addL l o)) a = (findL (addL l o) a).isSome ∧ Clocks.countC (idsC (addL l o)) = (addL l o).length ∧ chkL (addL l o) = 0 := by
  obtain ⟨e, hb⟩ := addL_bag h
  have hl : Bag l := by
    rcases addE_cases l o with ⟨h3, _⟩ | ⟨h3, _⟩ | ⟨_, h3, _, _⟩
    · rw [h] at h3; cases h3
    · rw [h] at h3; cases h3
    · exact h3
  have e1 : findL l a = findO l a := by unfold findL; rw [if_pos ((bagB_iff _).2 hl)]
  have e2 : findL (addL l o) a = findO (addL l o) a := by unfold findL; rw [if_pos ((bagB_iff _).2 hb)]
  obtain ⟨i1, i2, i3⟩ := ids_all hb a
  refine ⟨?_, by rw [i1, e2], i2, i3⟩
  rw [e2, e1, e]
  exact find_with hl.2.2 a

set_option maxRecDepth 100000 in
set_option maxHeartbeats 16000000 in
theorem has_walk {l : List Opn} {ao0 : Option Addr} {cap0 : Nat} {o : Opn} {ao1 : Option Addr} {cap1 : Nat} (a : Id) {w : World} (hr0 : OpL w (.slice ao0 l.length cap0) l) (hr1 : Runs w (.slice ao1 o.pl.length cap1) o.pl) :
    Calls Try.prog 7 #[.slice ao0 l.length cap0, opv o (.slice ao1 o.pl.length cap1), .agg #[.int .u32 (a.t : Int), .int .u8 (a.r : Int)]] w fun e w' => e = .returned (.bool true) ∧ Below w.heap.size w w' := by
  have HR0 := Lib.hid hr0
  have HR1 := Lib.hid hr1
  have AV := Lib.hid alive11_any
  have GR : Hid (∀ W : World, OpL W (.slice ao0 l.length cap0) l → Calls Try.prog 18 #[.slice ao0 l.length cap0, .int .i64 60] W fun e w' => GrtO l 60 e ∧ W = w') := fun W h => greatO_any h
  have AD : Hid (∀ (W : World) (v u : Value), OpL W v l → Runs W u o.pl → Calls Try.prog 13 #[v, opv o u] W (DoneN (addL l o) (addE l o) W)) := fun W v u h h2 => bAdd_any h h2
  have FD : Hid (∀ (W : World) (v : Value) (L : List Opn), OpL W v L → Calls Try.prog 27 #[v, .agg #[.int .u32 (a.t : Int), .int .u8 (a.r : Int)]] W (FoundN (findL L a) W)) := fun W v L h => bFind_any a h
  have HS : Hid (∀ (W : World) (v : Value) (c : List Clocks.Tm), Tms W v c → Calls Try.prog 36 #[v, .agg #[.int .u32 (a.t : Int), .int .u8 (a.r : Int)]] W fun e w' => e = .returned (.bool (Clocks.hasC c a)) ∧ Below W.heap.size W w') := fun W v c h => Clocks.cHas_any a h
  have CN : Hid (∀ (W : World) (v : Value) (c : List Clocks.Tm), Tms W v c → Calls Try.prog 37 #[v] W fun e w' => e = .returned (.int .i64 (Clocks.countC c : Int)) ∧ Below W.heap.size W w') := fun W v c h => Clocks.cCount_any h
  have CK : Hid (∀ (W : World) (v : Value) (L : List Opn), OpL W v L → Calls Try.prog 17 #[v] W fun e w' => e = .returned (.int .i64 (chkL L)) ∧ Below W.heap.size W w') := fun W v L h => bCheck_any h
  have ID : Hid (∀ (W : World) (v : Value) (L : List Opn), OpL W v L → Calls Try.prog 12 #[v] W (DoneC (idsC L) (chkL L) W)) := fun W v L h => bIds_any h
  have hge : ∀ {m : Int} {e : Ending}, GrtO l m e → ∃ g, e = .returned (.bool g) := fun ⟨g, h1, h2⟩ => ⟨g, h1⟩
  have ALL := Lib.hid (has_all (l := l) (o := o) a)
  have NIL := Lib.hid (add_nil (l := l) (o := o))
  have IDO : Hid (idO o = a ↔ o.t = a.t ∧ o.r = a.r) := Id.eq_iff
  obtain ⟨n0, hn0⟩ : ∃ n, n = l.length := ⟨_, rfl⟩
  obtain ⟨nu0, hnu0⟩ : ∃ n, n = o.pl.length := ⟨_, rfl⟩
  obtain ⟨X, hX⟩ : ∃ z, addL l o = z := ⟨_, rfl⟩
  obtain ⟨E, hE⟩ : ∃ z, addE l o = z := ⟨_, rfl⟩
  rw [hX, hE] at AD NIL ALL
  rw [← hn0] at HR0 GR ⊢
  rw [← hnu0] at HR1 ⊢
  obtain ⟨A, hA⟩ : ∃ A, A = a := ⟨_, rfl⟩
  rw [← hA] at ALL
  have IDA : Hid (idO o = A ↔ o.t = a.t ∧ o.r = a.r) := by rw [hA]; exact IDO
  have FDA : Hid (∀ (W : World) (v : Value) (L : List Opn), OpL W v L → Calls Try.prog 27 #[v, .agg #[.int .u32 (a.t : Int), .int .u8 (a.r : Int)]] W (FoundN (findL L A) W)) := by rw [hA]; exact FD
  have HSA : Hid (∀ (W : World) (v : Value) (c : List Clocks.Tm), Tms W v c → Calls Try.prog 36 #[v, .agg #[.int .u32 (a.t : Int), .int .u8 (a.r : Int)]] W fun e w' => e = .returned (.bool (Clocks.hasC c A)) ∧ Below W.heap.size W w') := by rw [hA]; exact HS
  clear FD HS IDO
  obtain ⟨ta, ra, hta, hra⟩ := a
  simp only at HSA FDA IDA ⊢
  have HO0 : Hid (∀ v : Value, opv o v = .agg #[.int .u8 (o.k : Int), .int .u32 (o.t : Int), .int .u8 (o.r : Int), v, .int .i64 o.p]) := fun v => rfl
  have SO : Hid (∀ (x : Opn) (W : World) (u v : Value), Runs W u x.pl → Runs W v o.pl → Calls Try.prog 35 #[opv x u, opv o v] W fun e w' => e = .returned (.bool (sameB x o)) ∧ Below W.heap.size W w') := fun x W u v h h2 => Ops.oSame_any h h2
  obtain ⟨k0, hk0⟩ : ∃ z, o.k = z := ⟨_, rfl⟩
  obtain ⟨t0, ht0⟩ : ∃ z, o.t = z := ⟨_, rfl⟩
  obtain ⟨r0, hr0'⟩ : ∃ z, o.r = z := ⟨_, rfl⟩
  obtain ⟨p0, hp0⟩ : ∃ z, o.p = z := ⟨_, rfl⟩
  rw [hk0, ht0, hr0', hp0] at HO0
  rw [ht0, hr0'] at IDA
  simp only [HO0.out] at AD SO ⊢
  obtain ⟨uo0, hu0⟩ : ∃ z, z = ao1 := ⟨_, rfl⟩
  obtain ⟨uc0, hc0⟩ : ∃ z, z = cap1 := ⟨_, rfl⟩
  rw [← hu0, ← hc0] at HR1 ⊢
  have XO : Hid (((w.alloc (.cells #[.int .u8 (k0 : Int), .int .u32 (t0 : Int), .int .u8 (r0 : Int), .slice uo0 nu0 uc0, .int .i64 p0] 30)).alloc (.cells #[.int .u32 (ta : Int), .int .u8 (ra : Int)] 27)).heap[w.heap.size]? = some (.cells #[.int .u8 (k0 : Int), .int .u32 (t0 : Int), .int .u8 (r0 : Int), .slice uo0 nu0 uc0, .int .i64 p0] 30)) := blk_old (blk_new rfl)
  have XI : Hid (((w.alloc (.cells #[.int .u8 (k0 : Int), .int .u32 (t0 : Int), .int .u8 (r0 : Int), .slice uo0 nu0 uc0, .int .i64 p0] 30)).alloc (.cells #[.int .u32 (ta : Int), .int .u8 (ra : Int)] 27)).heap[w.heap.size + 1]? = some (.cells #[.int .u32 (ta : Int), .int .u8 (ra : Int)] 27)) := blk_new (by simp)
  have B0 : Hid (Below w.heap.size w ((w.alloc (.cells #[.int .u8 (k0 : Int), .int .u32 (t0 : Int), .int .u8 (r0 : Int), .slice uo0 nu0 uc0, .int .i64 p0] 30)).alloc (.cells #[.int .u32 (ta : Int), .int .u8 (ra : Int)] 27))) := ((Below.refl _ _).alloc (Nat.le_refl _) _).alloc (by simp) _
  have L0 := Lib.hid (HR0.out.keeps B0.out)
  have O0 := Lib.hid (HR1.out.keeps B0.out)
  clear hr0 hr1 hn0 hnu0 hX hE hA HR0 HR1 hk0 ht0 hr0' hp0 hu0 hc0 HO0
  obtain ⟨b1, hb1⟩ : ∃ b, decide (ta = t0) = b := ⟨_, rfl⟩
  obtain ⟨b2, hb2⟩ : ∃ b, decide (ra = r0) = b := ⟨_, rfl⟩
  have hb1' : ((ta : Int) == (t0 : Int)) = b1 := by rw [← hb1]; by_cases h : ta = t0 <;> simp [h] <;> omega
  have hb2' : ((ra : Int) == (r0 : Int)) = b2 := by rw [← hb2]; by_cases h : ra = r0 <;> simp [h] <;> omega
  have IDB : Hid (decide (idO o = A) = (b1 && b2)) := by
    unfold Hid
    rw [← hb1, ← hb2, ← Bool.decide_and]
    exact decide_eq_decide.2 (by rw [IDA.out]; exact ⟨fun h => ⟨h.1.symm, h.2.symm⟩, fun h => ⟨h.1.symm, h.2.symm⟩⟩)
  clear IDA
  obtain ⟨q4, hq4⟩ : ∃ q, decide (100 < nu0) = q := ⟨_, rfl⟩
  have hq4' : decide ((100 : Int) < (nu0 : Int)) = q4 := by rw [← hq4]; exact decide_eq_decide.2 (by omega)
  go_enter Try.func7, Try.ntmps7
  go_wp2_with fail
  refine (AV.out _).mono ?_
  rintro e w1 ⟨rfl, b1'⟩
  have B_1 := Lib.hid (bt B0.out b1')
  clear B0
  have H_2 := Lib.hid (blk_below b1' XI.out)
  clear XI
  have Ho_3 := Lib.hid (blk_below b1' XO.out)
  clear XO
  have L_4 := Lib.hid (L0.out.keeps b1')
  clear L0
  have O_5 := Lib.hid (O0.out.keeps b1')
  clear O0
  clear b1' AV
  go_wp2_with fail
  refine (GR.out _ L_4.out).mono ?_
  rintro e w2 ⟨hg, rfl⟩
  obtain ⟨g, rfl⟩ := hge hg
  clear hg hge GR
  cases g
  rotate_left
  · go_wp2
    go_ret
    exact ⟨rfl, B_1.out⟩
  obtain ⟨f0, f1, f2, f3, f4⟩ := cells5 Ho_3.out
  cases q4
  rotate_left
  · go_wp2
    go_ret
    exact ⟨rfl, B_1.out⟩
  go_wp2_with fail
  clear f0 f1 f2 f3 f4
  refine (AD.out _ _ _ L_4.out O_5.out).mono ?_
  rintro e w3 ⟨vx, rfl, ox, b3⟩
  have B_6 := Lib.hid (bt B_1.out b3)
  clear B_1
  have H_7 := Lib.hid (blk_below b3 H_2.out)
  clear H_2
  have Ho_8 := Lib.hid (blk_below b3 Ho_3.out)
  clear Ho_3
  have L_9 := Lib.hid (L_4.out.keeps b3)
  clear L_4
  have O_10 := Lib.hid (O_5.out.keeps b3)
  clear O_5
  have X_11 := Lib.hid (ox.opl)
  clear ox b3 AD
  by_cases hE0 : E = 0
  rotate_left
  · obtain ⟨rfl, hE1⟩ := NIL.out hE0
    obtain ⟨aX, cX, rfl⟩ : ∃ ao cap, vx = .slice ao 0 cap := X_11.out.shape
    go_wp2
    go_ret
    exact ⟨rfl, B_6.out⟩
  subst hE0
  obtain ⟨al1, al2, al3, al4⟩ := ALL.out rfl
  obtain ⟨aX, cX, rfl⟩ := X_11.out.shape
  obtain ⟨nX, hnX⟩ : ∃ n, n = X.length := ⟨_, rfl⟩
  rw [← hnX] at al3 ⊢
  rw [← hnX] at X_11
  obtain ⟨Q1, hQ1⟩ : ∃ q, findL l A = q := ⟨_, rfl⟩
  obtain ⟨Q2, hQ2⟩ : ∃ q, findL X A = q := ⟨_, rfl⟩
  rw [hQ1, hQ2] at al1
  rw [hQ2] at al2
  have F1 := Lib.hid (fun W v => FDA.out W v l)
  have F2 := Lib.hid (fun W v => FDA.out W v X)
  have C2 := Lib.hid (fun W v => CK.out W v X)
  have I2 := Lib.hid (fun W v => ID.out W v X)
  have H2 := Lib.hid (fun W v => HSA.out W v (idsC X))
  have N2 := Lib.hid (fun W v => CN.out W v (idsC X))
  rw [hQ1] at F1
  rw [hQ2] at F2
  rw [al4] at C2 I2
  rw [al2] at H2
  rw [al3] at N2
  have AL1 := Lib.hid al1
  clear hQ1 hQ2 al1 al2 al3 al4 FDA CK ID HSA CN NIL ALL hnX
  unfold FoundN at F1 F2
  unfold DoneC at I2
  obtain ⟨x1, hx1⟩ : ∃ x, x = Q1.getD zop := ⟨_, rfl⟩
  obtain ⟨s1, hs1⟩ : ∃ b, b = Q1.isSome := ⟨_, rfl⟩
  rw [← hx1, ← hs1] at F1
  have HO1 : Hid (∀ v : Value, opv x1 v = .agg #[.int .u8 (x1.k : Int), .int .u32 (x1.t : Int), .int .u8 (x1.r : Int), v, .int .i64 x1.p]) := fun v => rfl
  obtain ⟨x2, hx2⟩ : ∃ x, x = Q2.getD zop := ⟨_, rfl⟩
  obtain ⟨s2, hs2⟩ : ∃ b, b = Q2.isSome := ⟨_, rfl⟩
  rw [← hx2, ← hs2] at F2
  have HO2 : Hid (∀ v : Value, opv x2 v = .agg #[.int .u8 (x2.k : Int), .int .u32 (x2.t : Int), .int .u8 (x2.r : Int), v, .int .i64 x2.p]) := fun v => rfl
  rw [← hs2] at H2
  have SM : Hid (∀ (W : World) (u v : Value), Runs W u x1.pl → Runs W v x2.pl → Calls Try.prog 35 #[opv x1 u, opv x2 v] W fun e w' => e = .returned (.bool (sameB x1 x2)) ∧ Below W.heap.size W w') := fun W u v h h2 => Ops.oSame_any h h2
  have SO2 := Lib.hid (fun W => SO.out x2 W)
  have SS : Hid ((s1 = true → s2 = true ∧ sameB x1 x2 = true) ∧ (s1 = false → s2 = (b1 && b2) ∧ (s2 = true → sameB x2 o = true))) := by
    unfold Hid
    rw [hs2, hs1, hx1, hx2, AL1.out]
    cases Q1 with
    | some y => exact ⟨fun _ => ⟨rfl, (sameB_iff _ _).2 rfl⟩, fun h => by cases h⟩
    | none =>
      refine ⟨fun h => (by cases h), fun _ => ?_⟩
      by_cases he : idO o = A
      · simp only [if_pos he]
        have := IDB.out
        rw [decide_eq_true he] at this
        exact ⟨this, fun _ => (sameB_iff _ _).2 rfl⟩
      · simp only [if_neg he]
        have := IDB.out
        rw [decide_eq_false he] at this
        exact ⟨this, fun h => by cases h⟩
  clear hx1 hx2 hs1 hs2 AL1 SO IDB
  obtain ⟨k1, hk1⟩ : ∃ z, x1.k = z := ⟨_, rfl⟩
  obtain ⟨t1, ht1⟩ : ∃ z, x1.t = z := ⟨_, rfl⟩
  obtain ⟨r1, hr1⟩ : ∃ z, x1.r = z := ⟨_, rfl⟩
  obtain ⟨p1, hp1⟩ : ∃ z, x1.p = z := ⟨_, rfl⟩
  rw [hk1, ht1, hr1, hp1] at HO1
  simp only [HO1.out] at F1 SM
  clear hk1 ht1 hr1 hp1 HO1
  obtain ⟨k2, hk2⟩ : ∃ z, x2.k = z := ⟨_, rfl⟩
  obtain ⟨t2, ht2⟩ : ∃ z, x2.t = z := ⟨_, rfl⟩
  obtain ⟨r2, hr2⟩ : ∃ z, x2.r = z := ⟨_, rfl⟩
  obtain ⟨p2, hp2⟩ : ∃ z, x2.p = z := ⟨_, rfl⟩
  rw [hk2, ht2, hr2, hp2] at HO2
  simp only [HO2.out] at F2 SM SO2
  clear hk2 ht2 hr2 hp2 HO2
  have hc1 := cell_of_row _ _ 0 _ _ _ H_7.out
  have hd1 := cell_of_row _ _ 1 _ _ _ H_7.out
  go_wp2_with fail
  clear hc1 hd1
  refine (F1.out _ _ L_9.out).mono ?_
  rintro e w4 ⟨v1, rfl, o1, b1x⟩
  obtain ⟨ua1, uc1, rfl⟩ := Sees.shape (Sees.own o1)
  obtain ⟨nu1, hnu1⟩ : ∃ n, n = x1.pl.length := ⟨_, rfl⟩
  rw [← hnu1] at o1 ⊢
  have ru1 : Runs w4 (.slice ua1 nu1 uc1) x1.pl := by rw [hnu1] at o1 ⊢; exact Go.Proofs.Ytocjkegkgnbboaa.Runs.own o1
  have B_12 := Lib.hid (bt B_6.out b1x)
  clear B_6
  have H_13 := Lib.hid (blk_below b1x H_7.out)
  clear H_7
  have Ho_14 := Lib.hid (blk_below b1x Ho_8.out)
  clear Ho_8
  have L_15 := Lib.hid (L_9.out.keeps b1x)
  clear L_9
  have O_16 := Lib.hid (O_10.out.keeps b1x)
  clear O_10
  have X_17 := Lib.hid (X_11.out.keeps b1x)
  clear X_11
  have R1_18 := Lib.hid (ru1)
  have bo1 := (Below.refl w4.heap.size w4).alloc (Nat.le_refl _) (.cells #[.int .u8 (k1 : Int), .int .u32 (t1 : Int), .int .u8 (r1 : Int), .slice ua1 nu1 uc1, .int .i64 p1] 30)
  have B_19 := Lib.hid (bt B_12.out bo1)
  clear B_12
  have H_20 := Lib.hid (blk_below bo1 H_13.out)
  clear H_13
  have Ho_21 := Lib.hid (blk_below bo1 Ho_14.out)
  clear Ho_14
  have L_22 := Lib.hid (L_15.out.keeps bo1)
  clear L_15
  have O_23 := Lib.hid (O_16.out.keeps bo1)
  clear O_16
  have X_24 := Lib.hid (X_17.out.keeps bo1)
  clear X_17
  have R1_25 := Lib.hid (R1_18.out.keeps bo1)
  clear R1_18
  have F1x_26 := Lib.hid (five_new w4 (.int .u8 (k1 : Int)) (.int .u32 (t1 : Int)) (.int .u8 (r1 : Int)) (.slice ua1 nu1 uc1) (.int .i64 p1) 30)
  clear o1 b1x bo1 ru1 hnu1 F1
  have hc2 := cell_of_row _ _ 0 _ _ _ H_20.out
  have hd2 := cell_of_row _ _ 1 _ _ _ H_20.out
  go_wp2_with fail
  clear hc2 hd2
  refine (F2.out _ _ X_24.out).mono ?_
  rintro e w5 ⟨v2, rfl, o2, b2x⟩
  obtain ⟨ua2, uc2, rfl⟩ := Sees.shape (Sees.own o2)
  obtain ⟨nu2, hnu2⟩ : ∃ n, n = x2.pl.length := ⟨_, rfl⟩
  rw [← hnu2] at o2 ⊢
  have ru2 : Runs w5 (.slice ua2 nu2 uc2) x2.pl := by rw [hnu2] at o2 ⊢; exact Go.Proofs.Ytocjkegkgnbboaa.Runs.own o2
  have B_27 := Lib.hid (bt B_19.out b2x)
  clear B_19
  have H_28 := Lib.hid (blk_below b2x H_20.out)
  clear H_20
  have Ho_29 := Lib.hid (blk_below b2x Ho_21.out)
  clear Ho_21
  have L_30 := Lib.hid (L_22.out.keeps b2x)
  clear L_22
  have O_31 := Lib.hid (O_23.out.keeps b2x)
  clear O_23
  have X_32 := Lib.hid (X_24.out.keeps b2x)
  clear X_24
  have R1_33 := Lib.hid (R1_25.out.keeps b2x)
  clear R1_25
  have F1x_34 := Lib.hid (F1x_26.out.keeps b2x)
  clear F1x_26
  have R2_35 := Lib.hid (ru2)
  have bo2 := (Below.refl w5.heap.size w5).alloc (Nat.le_refl _) (.cells #[.int .u8 (k2 : Int), .int .u32 (t2 : Int), .int .u8 (r2 : Int), .slice ua2 nu2 uc2, .int .i64 p2] 30)
  have B_36 := Lib.hid (bt B_27.out bo2)
  clear B_27
  have H_37 := Lib.hid (blk_below bo2 H_28.out)
  clear H_28
  have Ho_38 := Lib.hid (blk_below bo2 Ho_29.out)
  clear Ho_29
  have L_39 := Lib.hid (L_30.out.keeps bo2)
  clear L_30
  have O_40 := Lib.hid (O_31.out.keeps bo2)
  clear O_31
  have X_41 := Lib.hid (X_32.out.keeps bo2)
  clear X_32
  have R1_42 := Lib.hid (R1_33.out.keeps bo2)
  clear R1_33
  have F1x_43 := Lib.hid (F1x_34.out.keeps bo2)
  clear F1x_34
  have R2_44 := Lib.hid (R2_35.out.keeps bo2)
  clear R2_35
  have F2x_45 := Lib.hid (five_new w5 (.int .u8 (k2 : Int)) (.int .u32 (t2 : Int)) (.int .u8 (r2 : Int)) (.slice ua2 nu2 uc2) (.int .i64 p2) 30)
  clear o2 b2x bo2 ru2 hnu2 F2
  go_wp2_with fail
  refine (I2.out _ _ X_41.out).mono ?_
  rintro e w6 ⟨vc, rfl, oc, b6⟩
  have B_46 := Lib.hid (bt B_36.out b6)
  clear B_36
  have H_47 := Lib.hid (blk_below b6 H_37.out)
  clear H_37
  have Ho_48 := Lib.hid (blk_below b6 Ho_38.out)
  clear Ho_38
  have L_49 := Lib.hid (L_39.out.keeps b6)
  clear L_39
  have O_50 := Lib.hid (O_40.out.keeps b6)
  clear O_40
  have X_51 := Lib.hid (X_41.out.keeps b6)
  clear X_41
  have R1_52 := Lib.hid (R1_42.out.keeps b6)
  clear R1_42
  have F1x_53 := Lib.hid (F1x_43.out.keeps b6)
  clear F1x_43
  have R2_54 := Lib.hid (R2_44.out.keeps b6)
  clear R2_44
  have F2x_55 := Lib.hid (F2x_45.out.keeps b6)
  clear F2x_45
  have C_56 := Lib.hid (oc.tms)
  clear oc b6 I2
  cases s1
  rotate_left
  · obtain ⟨rfl, hsm⟩ := SS.out.1 rfl
    rw [hsm] at SM
    clear hsm
    obtain ⟨-, y0, y1, y2, y3, y4⟩ := F1x_53.out
    obtain ⟨-, z0, z1, z2, z3, z4⟩ := F2x_55.out
    go_wp2_with fail
    clear y0 y1 y2 y3 y4 z0 z1 z2 z3 z4
    refine (SM.out _ _ _ R1_52.out R2_54.out).mono ?_
    rintro e w7 ⟨rfl, b7⟩
    have B_557 := Lib.hid (bt B_46.out b7)
    clear B_46
    have H_558 := Lib.hid (blk_below b7 H_47.out)
    clear H_47
    have Ho_559 := Lib.hid (blk_below b7 Ho_48.out)
    clear Ho_48
    have L_560 := Lib.hid (L_49.out.keeps b7)
    clear L_49
    have O_561 := Lib.hid (O_50.out.keeps b7)
    clear O_50
    have X_562 := Lib.hid (X_51.out.keeps b7)
    clear X_51
    have R1_563 := Lib.hid (R1_52.out.keeps b7)
    clear R1_52
    have F1x_564 := Lib.hid (F1x_53.out.keeps b7)
    clear F1x_53
    have R2_565 := Lib.hid (R2_54.out.keeps b7)
    clear R2_54
    have F2x_566 := Lib.hid (F2x_55.out.keeps b7)
    clear F2x_55
    have C_567 := Lib.hid (C_56.out.keeps b7)
    clear C_56
    clear b7
    have hc9 := cell_of_row _ _ 0 _ _ _ H_558.out
    have hd9 := cell_of_row _ _ 1 _ _ _ H_558.out
    go_wp2_with fail
    clear hc9 hd9
    refine (H2.out _ _ C_567.out).mono ?_
    rintro e w8 ⟨rfl, b8⟩
    have B_568 := Lib.hid (bt B_557.out b8)
    clear B_557
    have X_569 := Lib.hid (X_562.out.keeps b8)
    clear X_562
    have C_570 := Lib.hid (C_567.out.keeps b8)
    clear C_567
    clear b8
    go_wp2_with fail
    refine (N2.out _ _ C_570.out).mono ?_
    rintro e w9 ⟨rfl, b9⟩
    have B_571 := Lib.hid (bt B_568.out b9)
    clear B_568
    have X_572 := Lib.hid (X_569.out.keeps b9)
    clear X_569
    clear b9
    go_wp2_with fail
    refine (C2.out _ _ X_572.out).mono ?_
    rintro e w10 ⟨rfl, b10⟩
    have B_573 := Lib.hid (bt B_571.out b10)
    clear B_571
    clear b10
    go_wp2
    go_ret
    exact ⟨rfl, B_573.out⟩
  obtain ⟨hs2, hsm⟩ := SS.out.2 rfl
  cases b1
  · obtain rfl : s2 = false := by simpa using hs2
    clear hs2 hsm
    cases b2
    · have hc7 := cell_of_row _ _ 0 _ _ _ H_47.out
      have hd7 := cell_of_row _ _ 1 _ _ _ H_47.out
      obtain ⟨y0, y1, y2, y3, y4⟩ := cells5 Ho_48.out
      have hc9 := cell_of_row _ _ 0 _ _ _ H_47.out
      have hd9 := cell_of_row _ _ 1 _ _ _ H_47.out
      go_wp2_with fail
      clear hc9 hd9
      refine (H2.out _ _ C_56.out).mono ?_
      rintro e w8 ⟨rfl, b8⟩
      have B_557 := Lib.hid (bt B_46.out b8)
      clear B_46
      have X_558 := Lib.hid (X_51.out.keeps b8)
      clear X_51
      have C_559 := Lib.hid (C_56.out.keeps b8)
      clear C_56
      clear b8
      go_wp2_with fail
      refine (N2.out _ _ C_559.out).mono ?_
      rintro e w9 ⟨rfl, b9⟩
      have B_560 := Lib.hid (bt B_557.out b9)
      clear B_557
      have X_561 := Lib.hid (X_558.out.keeps b9)
      clear X_558
      clear b9
      go_wp2_with fail
      refine (C2.out _ _ X_561.out).mono ?_
      rintro e w10 ⟨rfl, b10⟩
      have B_562 := Lib.hid (bt B_560.out b10)
      clear B_560
      clear b10
      go_wp2
      go_ret
      exact ⟨rfl, B_562.out⟩
    · have hc7 := cell_of_row _ _ 0 _ _ _ H_47.out
      have hd7 := cell_of_row _ _ 1 _ _ _ H_47.out
      obtain ⟨y0, y1, y2, y3, y4⟩ := cells5 Ho_48.out
      have hc9 := cell_of_row _ _ 0 _ _ _ H_47.out
      have hd9 := cell_of_row _ _ 1 _ _ _ H_47.out
      go_wp2_with fail
      clear hc9 hd9
      refine (H2.out _ _ C_56.out).mono ?_
      rintro e w8 ⟨rfl, b8⟩
      have B_557 := Lib.hid (bt B_46.out b8)
      clear B_46
      have X_558 := Lib.hid (X_51.out.keeps b8)
      clear X_51
      have C_559 := Lib.hid (C_56.out.keeps b8)
      clear C_56
      clear b8
      go_wp2_with fail
      refine (N2.out _ _ C_559.out).mono ?_
      rintro e w9 ⟨rfl, b9⟩
      have B_560 := Lib.hid (bt B_557.out b9)
      clear B_557
      have X_561 := Lib.hid (X_558.out.keeps b9)
      clear X_558
      clear b9
      go_wp2_with fail
      refine (C2.out _ _ X_561.out).mono ?_
      rintro e w10 ⟨rfl, b10⟩
      have B_562 := Lib.hid (bt B_560.out b10)
      clear B_560
      clear b10
      go_wp2
      go_ret
      exact ⟨rfl, B_562.out⟩
  cases b2
  · obtain rfl : s2 = false := by simpa using hs2
    clear hs2 hsm
    have hc7 := cell_of_row _ _ 0 _ _ _ H_47.out
    have hd7 := cell_of_row _ _ 1 _ _ _ H_47.out
    obtain ⟨y0, y1, y2, y3, y4⟩ := cells5 Ho_48.out
    have hc9 := cell_of_row _ _ 0 _ _ _ H_47.out
    have hd9 := cell_of_row _ _ 1 _ _ _ H_47.out
    go_wp2_with fail
    clear hc9 hd9
    refine (H2.out _ _ C_56.out).mono ?_
    rintro e w8 ⟨rfl, b8⟩
    have B_557 := Lib.hid (bt B_46.out b8)
    clear B_46
    have X_558 := Lib.hid (X_51.out.keeps b8)
    clear X_51
    have C_559 := Lib.hid (C_56.out.keeps b8)
    clear C_56
    clear b8
    go_wp2_with fail
    refine (N2.out _ _ C_559.out).mono ?_
    rintro e w9 ⟨rfl, b9⟩
    have B_560 := Lib.hid (bt B_557.out b9)
    clear B_557
    have X_561 := Lib.hid (X_558.out.keeps b9)
    clear X_558
    clear b9
    go_wp2_with fail
    refine (C2.out _ _ X_561.out).mono ?_
    rintro e w10 ⟨rfl, b10⟩
    have B_562 := Lib.hid (bt B_560.out b10)
    clear B_560
    clear b10
    go_wp2
    go_ret
    exact ⟨rfl, B_562.out⟩
  obtain rfl : s2 = true := by simpa using hs2
  have hsm2 := hsm rfl
  rw [hsm2] at SO2
  clear hs2 hsm hsm2
  have hc7 := cell_of_row _ _ 0 _ _ _ H_47.out
  have hd7 := cell_of_row _ _ 1 _ _ _ H_47.out
  obtain ⟨y0, y1, y2, y3, y4⟩ := cells5 Ho_48.out
  obtain ⟨-, z0, z1, z2, z3, z4⟩ := F2x_55.out
  go_wp2_with fail
  clear y0 y1 y2 y3 y4 z0 z1 z2 z3 z4 hc7 hd7
  refine (SO2.out _ _ _ R2_54.out O_50.out).mono ?_
  rintro e w7 ⟨rfl, b7⟩
  have B_557 := Lib.hid (bt B_46.out b7)
  clear B_46
  have H_558 := Lib.hid (blk_below b7 H_47.out)
  clear H_47
  have Ho_559 := Lib.hid (blk_below b7 Ho_48.out)
  clear Ho_48
  have L_560 := Lib.hid (L_49.out.keeps b7)
  clear L_49
  have O_561 := Lib.hid (O_50.out.keeps b7)
  clear O_50
  have X_562 := Lib.hid (X_51.out.keeps b7)
  clear X_51
  have R1_563 := Lib.hid (R1_52.out.keeps b7)
  clear R1_52
  have F1x_564 := Lib.hid (F1x_53.out.keeps b7)
  clear F1x_53
  have R2_565 := Lib.hid (R2_54.out.keeps b7)
  clear R2_54
  have F2x_566 := Lib.hid (F2x_55.out.keeps b7)
  clear F2x_55
  have C_567 := Lib.hid (C_56.out.keeps b7)
  clear C_56
  clear b7
  have hc9 := cell_of_row _ _ 0 _ _ _ H_558.out
  have hd9 := cell_of_row _ _ 1 _ _ _ H_558.out
  go_wp2_with fail
  clear hc9 hd9
  refine (H2.out _ _ C_567.out).mono ?_
  rintro e w8 ⟨rfl, b8⟩
  have B_568 := Lib.hid (bt B_557.out b8)
  clear B_557
  have X_569 := Lib.hid (X_562.out.keeps b8)
  clear X_562
  have C_570 := Lib.hid (C_567.out.keeps b8)
  clear C_567
  clear b8
  go_wp2_with fail
  refine (N2.out _ _ C_570.out).mono ?_
  rintro e w9 ⟨rfl, b9⟩
  have B_571 := Lib.hid (bt B_568.out b9)
  clear B_568
  have X_572 := Lib.hid (X_569.out.keeps b9)
  clear X_569
  clear b9
  go_wp2_with fail
  refine (C2.out _ _ X_572.out).mono ?_
  rintro e w10 ⟨rfl, b10⟩
  have B_573 := Lib.hid (bt B_571.out b10)
  clear B_571
  clear b10
  go_wp2
  go_ret
  exact ⟨rfl, B_573.out⟩
end Go.Proofs.Ytocjkegkgnbboaa.Bags
