/- BagTells answers true, and changes nothing that was there. Conditions: the places are not longer than memory holds. -/
import Derived.Test.YtocjkegkgnbboaaPk30
import Derived.Test.YtocjkegkgnbboaaPk31
import Derived.Test.YtocjkegkgnbboaaPk12

namespace Go.Proofs.Ytocjkegkgnbboaa.Bags
open Go.RowKit Go.WideShapes Stamp Go.Proofs.Ytocjkegkgnbboaa.Place Ops Codes
attribute [local go_sem ↓] Go.wp_at_zero Go.wp_at_succ
attribute [local go_sem] yielded_undef

theorem spl_at {w W : World} {base : Nat} {v : Value} {l : List Opn} (h : OwnL w base v l) (hb : Below w.heap.size w W) : SplO W base w.heap.size v l.length := (own_spl h).keeps hb

set_option maxRecDepth 100000 in
set_option maxHeartbeats 16000000 in
theorem tells_walk {a : List Opn} {ao0 : Option Addr} {cap0 : Nat} {b : List Opn} {ao1 : Option Addr} {cap1 : Nat} {o : Opn} {ao2 : Option Addr} {cap2 : Nat} {c : List Clocks.Tm} {ao3 : Option Addr} {cap3 : Nat} {w : World}
    (hr0 : OpL w (.slice ao0 a.length cap0) a) (hz0 : ∀ o ∈ a, o.pl.length ≤ 8796093022208) (hr1 : OpL w (.slice ao1 b.length cap1) b) (hz1 : ∀ o ∈ b, o.pl.length ≤ 8796093022208) (hr2 : Runs w (.slice ao2 o.pl.length cap2) o.pl) (hr3 : Tms w (.slice ao3 c.length cap3) c) :
    Calls Try.prog 4 #[.slice ao0 a.length cap0, .slice ao1 b.length cap1, opv o (.slice ao2 o.pl.length cap2), .slice ao3 c.length cap3] w fun e w' => e = .returned (.bool true) ∧ Below w.heap.size w w' := by
  have HR0 := Lib.hid hr0
  have HR1 := Lib.hid hr1
  have HR2 := Lib.hid hr2
  have HR3 := Lib.hid hr3
  have GA : Hid (∀ W : World, OpL W (.slice ao0 a.length cap0) a → Calls Try.prog 18 #[.slice ao0 a.length cap0, .int .i64 100] W fun e w' => GrtO a 100 e ∧ W = w') := fun W h => greatO_any h
  have GB : Hid (∀ W : World, OpL W (.slice ao1 b.length cap1) b → Calls Try.prog 18 #[.slice ao1 b.length cap1, .int .i64 100] W fun e w' => GrtO b 100 e ∧ W = w') := fun W h => greatO_any h
  have GC : Hid (∀ W : World, Tms W (.slice ao3 c.length cap3) c → Calls Try.prog 19 #[.slice ao3 c.length cap3] W fun e w' => Clocks.Grt c e ∧ W = w') := fun W h => Clocks.great_any h
  have TA : Hid (a.length ≤ 1100 → ∀ W : World, OpL W (.slice ao0 a.length cap0) a → Calls Try.prog 20 #[.slice ao0 a.length cap0] W fun e w' => ∃ v', e = .returned v' ∧ OwnL w' W.heap.size v' a ∧ Below W.heap.size W w') := fun hl W h => refTwinL_any h (by omega) hz0
  have TB : Hid (b.length ≤ 1100 → ∀ W : World, OpL W (.slice ao1 b.length cap1) b → Calls Try.prog 20 #[.slice ao1 b.length cap1] W fun e w' => ∃ v', e = .returned v' ∧ OwnL w' W.heap.size v' b ∧ Below W.heap.size W w') := fun hl W h => refTwinL_any h (by omega) hz1
  have AD : Hid (∀ (W : World) (v u : Value), OpL W v a → Runs W u o.pl → Calls Try.prog 13 #[v, opv o u] W (DoneN (addL a o) (addE a o) W)) := fun W v u h h2 => bAdd_any h h2
  have RA : Hid (∀ (W : World) (v u : Value), OpL W v a → Runs W u o.pl → Calls Try.prog 21 #[v, opv o u] W (DoneL (addL a o) (addE a o) W)) := fun W v u h h2 => refAdd_any h h2
  have JO : Hid (∀ (W : World) (u v : Value), OpL W u a → OpL W v b → Calls Try.prog 22 #[u, v] W (DoneN (joinO a b) (joinE a b) W)) := fun W u v h h2 => bJoin_any h h2
  have RJ : Hid (∀ (W : World) (u v : Value), OpL W u a → OpL W v b → Calls Try.prog 23 #[u, v] W (DoneL (joinO a b) (joinE a b) W)) := fun W u v h h2 => refJoin_any h h2
  have LS : Hid (∀ (W : World) (v u : Value), OpL W v a → Tms W u c → Calls Try.prog 11 #[v, u] W (DoneN (lessL a c) (lessE a c) W)) := fun W v u h h2 => bLess_any h h2
  have RL : Hid (∀ (W : World) (v u : Value), OpL W v a → Tms W u c → Calls Try.prog 24 #[v, u] W (DoneL (lessL a c) (lessE a c) W)) := fun W v u h h2 => refLessL_any h h2
  have SL : Hid (∀ (W : World) (u v : Value) (m : List Opn), OpL W u m → OpL W v m → Calls Try.prog 25 #[u, v] W fun e w' => e = .returned (.bool true) ∧ Below W.heap.size W w') := fun W u v m h h2 => by
    have := refSameL_any h h2
    rwa [decide_eq_true rfl] at this
  have SP : Hid (∀ (W : World) (base top n : Nat) (v : Value), SplO W base top v n → Calls Try.prog 26 #[v] W fun e w' => e = .returned (.tuple #[]) ∧ Sand base top W w') := fun W base top n v h => spoil_any h
  have hga : ∀ {m : Int} {e : Ending}, GrtO a m e → ∃ g, e = .returned (.bool g) := fun ⟨g, h1, h2⟩ => ⟨g, h1⟩
  have hgc : ∀ {e : Ending}, Clocks.Grt c e → ∃ g, e = .returned (.bool g) := fun ⟨g, h1, h2⟩ => ⟨g, h1⟩
  obtain ⟨n0, hn0⟩ : ∃ n, n = a.length := ⟨_, rfl⟩
  obtain ⟨n1, hn1⟩ : ∃ n, n = b.length := ⟨_, rfl⟩
  obtain ⟨n3, hn3⟩ : ∃ n, n = c.length := ⟨_, rfl⟩
  obtain ⟨nu0, hnu0⟩ : ∃ n, n = o.pl.length := ⟨_, rfl⟩
  have hgb : ∀ {m : Int} {e : Ending}, GrtO b m e → ∃ g, e = .returned (.bool g) ∧ Hid (g = false → (n1 : Int) ≤ m) := fun ⟨g, h1, h2⟩ => ⟨g, h1, fun h => by have := (h2 h).1; omega⟩
  rw [← hn0] at HR0 GA TA ⊢
  rw [← hn1] at HR1 GB TB ⊢
  rw [← hn3] at HR3 GC ⊢
  rw [← hnu0] at HR2 ⊢
  have HO0 : Hid (∀ v : Value, opv o v = .agg #[.int .u8 (o.k : Int), .int .u32 (o.t : Int), .int .u8 (o.r : Int), v, .int .i64 o.p]) := fun v => rfl
  obtain ⟨k0, hk0⟩ : ∃ z, o.k = z := ⟨_, rfl⟩
  obtain ⟨t0, ht0⟩ : ∃ z, o.t = z := ⟨_, rfl⟩
  obtain ⟨r0, hr0'⟩ : ∃ z, o.r = z := ⟨_, rfl⟩
  obtain ⟨p0, hp0⟩ : ∃ z, o.p = z := ⟨_, rfl⟩
  rw [hk0, ht0, hr0', hp0] at HO0
  simp only [HO0.out] at AD RA ⊢
  obtain ⟨uo0, hu0⟩ : ∃ z, z = ao2 := ⟨_, rfl⟩
  obtain ⟨uc0, hc0⟩ : ∃ z, z = cap2 := ⟨_, rfl⟩
  rw [← hu0, ← hc0] at HR2 ⊢
  obtain ⟨E1, hE1⟩ : ∃ z, addE a o = z := ⟨_, rfl⟩
  obtain ⟨E2, hE2⟩ : ∃ z, joinE a b = z := ⟨_, rfl⟩
  obtain ⟨E3, hE3⟩ : ∃ z, lessE a c = z := ⟨_, rfl⟩
  obtain ⟨R1, hR1⟩ : ∃ z, addL a o = z := ⟨_, rfl⟩
  obtain ⟨R2, hR2⟩ : ∃ z, joinO a b = z := ⟨_, rfl⟩
  obtain ⟨R3, hR3⟩ : ∃ z, lessL a c = z := ⟨_, rfl⟩
  rw [hE1, hR1] at AD RA
  rw [hE2, hR2] at JO RJ
  rw [hE3, hR3] at LS RL
  have XO : Hid ((w.alloc (.cells #[.int .u8 (k0 : Int), .int .u32 (t0 : Int), .int .u8 (r0 : Int), .slice uo0 nu0 uc0, .int .i64 p0] 30)).heap[w.heap.size]? = some (.cells #[.int .u8 (k0 : Int), .int .u32 (t0 : Int), .int .u8 (r0 : Int), .slice uo0 nu0 uc0, .int .i64 p0] 30)) := blk_new rfl
  have B0 : Hid (Below w.heap.size w (w.alloc (.cells #[.int .u8 (k0 : Int), .int .u32 (t0 : Int), .int .u8 (r0 : Int), .slice uo0 nu0 uc0, .int .i64 p0] 30))) := (Below.refl _ _).alloc (Nat.le_refl _) _
  have A0 := Lib.hid (HR0.out.keeps B0.out)
  have D0 := Lib.hid (HR1.out.keeps B0.out)
  have O0 := Lib.hid (HR2.out.keeps B0.out)
  have C0 := Lib.hid (HR3.out.keeps B0.out)
  have WB0 : w.heap.size ≤ (w.alloc (.cells #[.int .u8 (k0 : Int), .int .u32 (t0 : Int), .int .u8 (r0 : Int), .slice uo0 nu0 uc0, .int .i64 p0] 30)).heap.size := B0.out.size
  obtain ⟨wb, hwb⟩ : ∃ x, x = w.alloc (.cells #[.int .u8 (k0 : Int), .int .u32 (t0 : Int), .int .u8 (r0 : Int), .slice uo0 nu0 uc0, .int .i64 p0] 30) := ⟨_, rfl⟩
  have HWB := Lib.hid hwb
  rw [← hwb] at XO B0 A0 D0 O0 C0 WB0
  have WB := Lib.hid WB0
  clear WB0
  clear hr0 hr1 hr2 hr3 hz0 hz1 hn0 hn1 hn3 hnu0 hE1 hE2 hE3 hR1 hR2 hR3 hk0 ht0 hr0' hp0 hu0 hc0 HO0 hwb
  go_enter Try.func4, Try.ntmps4
  go_upto_region 1 with fail
  rw [← HWB.out]
  clear HWB
  go_cut [49] (fun t wx => wb = wx ∧ Tst t (n0 ≤ 1100 ∧ n1 ≤ 1100))
  case first =>
    obtain ⟨q0, hq0⟩ : ∃ q, decide (n0 ≤ 1024) = q := ⟨_, rfl⟩
    have hq0' : decide ((n0 : Int) ≤ 1024) = q0 := by rw [← hq0]; exact decide_eq_decide.2 (by omega)
    obtain ⟨q1, hq1⟩ : ∃ q, decide (1100 < n0) = q := ⟨_, rfl⟩
    have hq1' : decide ((1100 : Int) < (n0 : Int)) = q1 := by rw [← hq1]; exact decide_eq_decide.2 (by omega)
    obtain ⟨q4, hq4⟩ : ∃ q, decide (100 < nu0) = q := ⟨_, rfl⟩
    have hq4' : decide ((100 : Int) < (nu0 : Int)) = q4 := by rw [← hq4]; exact decide_eq_decide.2 (by omega)
    have HQ1 : Hid (decide (1100 < n0) = q1) := hq1
    have GA2 := Lib.hid (GA.out _ A0.out)
    have GB2 := Lib.hid (GB.out _ D0.out)
    have GC2 := Lib.hid (GC.out _ C0.out)
    clear GA GB GC TA TB AD RA JO RJ LS RL SL SP
    go_wp2_with fail
    refine GA2.out.mono ?_
    rintro e w2 ⟨hg, rfl⟩
    obtain ⟨g, rfl⟩ := hga hg
    clear hg hga GA2
    have YES : ∀ q : Bool, q = true → Tst (.bool q) (n0 ≤ 1100 ∧ n1 ≤ 1100) := fun q h => tst q (fun h2 => by rw [h] at h2; cases h2)
    have REST : Hid (q1 = false → True) := fun _ => trivial
    by_cases hgq : (g && q0 || q1) = true
    · cases g <;> cases q0 <;> cases q1 <;> simp at hgq <;> (go_wp2; (all_goals go_meet); (all_goals exact ⟨rfl, YES _ rfl⟩))
    obtain ⟨hgq1, rfl⟩ : (g && q0) = false ∧ q1 = false := by simpa using hgq
    have h1100 : n0 ≤ 1100 := by have := of_decide_eq_false HQ1.out; omega
    have HN0 := Lib.hid h1100
    clear hgq REST h1100
    have go : ∀ Q : Prop, Q → Q := fun _ h => h
    cases g
    · go_wp2_with fail
      refine GB2.out.mono ?_
      rintro e w3 ⟨hg, rfl⟩
      obtain ⟨g2, rfl, hg2⟩ := hgb hg
      clear hg hgb GB2
      cases g2
      rotate_left
      · go_wp2
        all_goals go_meet
        all_goals exact ⟨rfl, YES _ rfl⟩
      have HN1 := Lib.hid (hg2.out (by trivial))
      obtain ⟨f0, f1, f2, f3, f4⟩ := cells5 XO.out
      cases q4
      rotate_left
      · go_wp2
        all_goals go_meet
        all_goals exact ⟨rfl, YES _ rfl⟩
      go_wp2_with fail
      refine GC2.out.mono ?_
      rintro e w4 ⟨hg, rfl⟩
      obtain ⟨g3, rfl⟩ := hgc hg
      clear hg hgc GC2
      go_wp2
      all_goals go_meet
      all_goals exact ⟨rfl, tst _ (fun _ => ⟨HN0.out, by have := HN1.out; omega⟩)⟩
    · obtain rfl : q0 = false := by simpa using hgq1
      go_wp2_with fail
      refine GB2.out.mono ?_
      rintro e w3 ⟨hg, rfl⟩
      obtain ⟨g2, rfl, hg2⟩ := hgb hg
      clear hg hgb GB2
      cases g2
      rotate_left
      · go_wp2
        all_goals go_meet
        all_goals exact ⟨rfl, YES _ rfl⟩
      have HN1 := Lib.hid (hg2.out (by trivial))
      obtain ⟨f0, f1, f2, f3, f4⟩ := cells5 XO.out
      cases q4
      rotate_left
      · go_wp2
        all_goals go_meet
        all_goals exact ⟨rfl, YES _ rfl⟩
      go_wp2_with fail
      refine GC2.out.mono ?_
      rintro e w4 ⟨hg, rfl⟩
      obtain ⟨g3, rfl⟩ := hgc hg
      clear hg hgc GC2
      go_wp2
      all_goals go_meet
      all_goals exact ⟨rfl, tst _ (fun _ => ⟨HN0.out, by have := HN1.out; omega⟩)⟩
  case rest =>
    obtain ⟨rfl, q, rfl, hq⟩ := hcut
    cases q
    rotate_left
    · go_wp2
      go_ret
      exact ⟨rfl, B0.out⟩
    obtain ⟨h0, h1⟩ := hq rfl
    have TA2 := Lib.hid (TA.out h0)
    have TB2 := Lib.hid (TB.out h1)
    clear TA TB GA GB GC hga hgb hgc hq
    go_wp2_with fail
    refine (TA2.out _ A0.out).mono ?_
    rintro e wx ⟨vx, rfl, owx, bwx⟩
    have B_1 := Lib.hid (bt B0.out bwx)
    clear B0
    have Ho_2 := Lib.hid (blk_below bwx XO.out)
    clear XO
    have A_3 := Lib.hid (A0.out.keeps bwx)
    clear A0
    have D_4 := Lib.hid (D0.out.keeps bwx)
    clear D0
    have O_5 := Lib.hid (O0.out.keeps bwx)
    clear O0
    have C_6 := Lib.hid (C0.out.keeps bwx)
    clear C0
    have X_7 := Lib.hid (owx)
    have OWx := Lib.hid owx
    have SX := Lib.hid bwx.size
    have BX_8 := Lib.hid (Below.refl wx.heap.size wx)
    clear bwx owx
    go_wp2_with fail
    refine (TB2.out _ D_4.out).mono ?_
    rintro e wy ⟨vy, rfl, owy, bwy⟩
    have B_9 := Lib.hid (bt B_1.out bwy)
    clear B_1
    have Ho_10 := Lib.hid (blk_below bwy Ho_2.out)
    clear Ho_2
    have A_11 := Lib.hid (A_3.out.keeps bwy)
    clear A_3
    have D_12 := Lib.hid (D_4.out.keeps bwy)
    clear D_4
    have O_13 := Lib.hid (O_5.out.keeps bwy)
    clear O_5
    have C_14 := Lib.hid (C_6.out.keeps bwy)
    clear C_6
    have X_15 := Lib.hid (X_7.out.keeps bwy)
    clear X_7
    have BX_16 := Lib.hid (bt BX_8.out bwy)
    clear BX_8
    have Y_17 := Lib.hid (owy)
    have OWy := Lib.hid owy
    have SY := Lib.hid bwy.size
    have BY_18 := Lib.hid (Below.refl wy.heap.size wy)
    clear bwy owy
    obtain ⟨f0, f1, f2, f3, f4⟩ := cells5 Ho_10.out
    go_wp2_with fail
    clear f0 f1 f2 f3 f4
    refine (AD.out _ _ _ X_15.out.opl O_13.out).mono ?_
    rintro e wl ⟨vl, rfl, owl, bwl⟩
    have B_19 := Lib.hid (bt B_9.out bwl)
    clear B_9
    have Ho_20 := Lib.hid (blk_below bwl Ho_10.out)
    clear Ho_10
    have A_21 := Lib.hid (A_11.out.keeps bwl)
    clear A_11
    have D_22 := Lib.hid (D_12.out.keeps bwl)
    clear D_12
    have O_23 := Lib.hid (O_13.out.keeps bwl)
    clear O_13
    have C_24 := Lib.hid (C_14.out.keeps bwl)
    clear C_14
    have X_25 := Lib.hid (X_15.out.keeps bwl)
    clear X_15
    have BX_26 := Lib.hid (bt BX_16.out bwl)
    clear BX_16
    have Y_27 := Lib.hid (Y_17.out.keeps bwl)
    clear Y_17
    have BY_28 := Lib.hid (bt BY_18.out bwl)
    clear BY_18
    have SLx := Lib.hid bwl.size
    have OWl := Lib.hid owl
    have L_29 := Lib.hid (owl)
    have BL_30 := Lib.hid (Below.refl wl.heap.size wl)
    clear bwl owl
    obtain ⟨f0, f1, f2, f3, f4⟩ := cells5 Ho_20.out
    go_wp2_with fail
    clear f0 f1 f2 f3 f4
    refine (RA.out _ _ _ A_21.out O_23.out).mono ?_
    rintro e wm ⟨vm, rfl, owm, bwm⟩
    have B_31 := Lib.hid (bt B_19.out bwm)
    clear B_19
    have Ho_32 := Lib.hid (blk_below bwm Ho_20.out)
    clear Ho_20
    have A_33 := Lib.hid (A_21.out.keeps bwm)
    clear A_21
    have D_34 := Lib.hid (D_22.out.keeps bwm)
    clear D_22
    have O_35 := Lib.hid (O_23.out.keeps bwm)
    clear O_23
    have C_36 := Lib.hid (C_24.out.keeps bwm)
    clear C_24
    have X_37 := Lib.hid (X_25.out.keeps bwm)
    clear X_25
    have BX_38 := Lib.hid (bt BX_26.out bwm)
    clear BX_26
    have Y_39 := Lib.hid (Y_27.out.keeps bwm)
    clear Y_27
    have BY_40 := Lib.hid (bt BY_28.out bwm)
    clear BY_28
    have L_41 := Lib.hid (L_29.out.keeps bwm)
    clear L_29
    have BL_42 := Lib.hid (bt BL_30.out bwm)
    clear BL_30
    have M_43 := Lib.hid (owm)
    have SM := Lib.hid bwm.size
    clear bwm owm
    go_wp2_with fail
    refine (JO.out _ _ _ X_37.out.opl Y_39.out.opl).mono ?_
    rintro e wn ⟨vn, rfl, own, bwn⟩
    have B_44 := Lib.hid (bt B_31.out bwn)
    clear B_31
    have Ho_45 := Lib.hid (blk_below bwn Ho_32.out)
    clear Ho_32
    have A_46 := Lib.hid (A_33.out.keeps bwn)
    clear A_33
    have D_47 := Lib.hid (D_34.out.keeps bwn)
    clear D_34
    have O_48 := Lib.hid (O_35.out.keeps bwn)
    clear O_35
    have C_49 := Lib.hid (C_36.out.keeps bwn)
    clear C_36
    have X_50 := Lib.hid (X_37.out.keeps bwn)
    clear X_37
    have BX_51 := Lib.hid (bt BX_38.out bwn)
    clear BX_38
    have Y_52 := Lib.hid (Y_39.out.keeps bwn)
    clear Y_39
    have BY_53 := Lib.hid (bt BY_40.out bwn)
    clear BY_40
    have L_54 := Lib.hid (L_41.out.keeps bwn)
    clear L_41
    have BL_55 := Lib.hid (bt BL_42.out bwn)
    clear BL_42
    have M_56 := Lib.hid (M_43.out.keeps bwn)
    clear M_43
    have SN := Lib.hid bwn.size
    have OWn := Lib.hid own
    have N_57 := Lib.hid (own)
    have BN_58 := Lib.hid (Below.refl wn.heap.size wn)
    clear bwn own
    go_wp2_with fail
    refine (RJ.out _ _ _ A_46.out D_47.out).mono ?_
    rintro e wp ⟨vp, rfl, owp, bwp⟩
    have B_59 := Lib.hid (bt B_44.out bwp)
    clear B_44
    have Ho_60 := Lib.hid (blk_below bwp Ho_45.out)
    clear Ho_45
    have A_61 := Lib.hid (A_46.out.keeps bwp)
    clear A_46
    have D_62 := Lib.hid (D_47.out.keeps bwp)
    clear D_47
    have O_63 := Lib.hid (O_48.out.keeps bwp)
    clear O_48
    have C_64 := Lib.hid (C_49.out.keeps bwp)
    clear C_49
    have X_65 := Lib.hid (X_50.out.keeps bwp)
    clear X_50
    have BX_66 := Lib.hid (bt BX_51.out bwp)
    clear BX_51
    have Y_67 := Lib.hid (Y_52.out.keeps bwp)
    clear Y_52
    have BY_68 := Lib.hid (bt BY_53.out bwp)
    clear BY_53
    have L_69 := Lib.hid (L_54.out.keeps bwp)
    clear L_54
    have BL_70 := Lib.hid (bt BL_55.out bwp)
    clear BL_55
    have M_71 := Lib.hid (M_56.out.keeps bwp)
    clear M_56
    have N_72 := Lib.hid (N_57.out.keeps bwp)
    clear N_57
    have BN_73 := Lib.hid (bt BN_58.out bwp)
    clear BN_58
    have P_74 := Lib.hid (owp)
    have SPp := Lib.hid bwp.size
    clear bwp owp
    go_wp2_with fail
    refine (LS.out _ _ _ X_65.out.opl C_64.out).mono ?_
    rintro e wq ⟨vq, rfl, owq, bwq⟩
    have B_75 := Lib.hid (bt B_59.out bwq)
    clear B_59
    have Ho_76 := Lib.hid (blk_below bwq Ho_60.out)
    clear Ho_60
    have A_77 := Lib.hid (A_61.out.keeps bwq)
    clear A_61
    have D_78 := Lib.hid (D_62.out.keeps bwq)
    clear D_62
    have O_79 := Lib.hid (O_63.out.keeps bwq)
    clear O_63
    have C_80 := Lib.hid (C_64.out.keeps bwq)
    clear C_64
    have X_81 := Lib.hid (X_65.out.keeps bwq)
    clear X_65
    have BX_82 := Lib.hid (bt BX_66.out bwq)
    clear BX_66
    have Y_83 := Lib.hid (Y_67.out.keeps bwq)
    clear Y_67
    have BY_84 := Lib.hid (bt BY_68.out bwq)
    clear BY_68
    have L_85 := Lib.hid (L_69.out.keeps bwq)
    clear L_69
    have BL_86 := Lib.hid (bt BL_70.out bwq)
    clear BL_70
    have M_87 := Lib.hid (M_71.out.keeps bwq)
    clear M_71
    have N_88 := Lib.hid (N_72.out.keeps bwq)
    clear N_72
    have BN_89 := Lib.hid (bt BN_73.out bwq)
    clear BN_73
    have P_90 := Lib.hid (P_74.out.keeps bwq)
    clear P_74
    have SQ := Lib.hid bwq.size
    have OWq := Lib.hid owq
    have Q_91 := Lib.hid (owq)
    have BQ_92 := Lib.hid (Below.refl wq.heap.size wq)
    clear bwq owq
    go_wp2_with fail
    refine (RL.out _ _ _ A_77.out C_80.out).mono ?_
    rintro e wr ⟨vr, rfl, owr, bwr⟩
    have B_93 := Lib.hid (bt B_75.out bwr)
    clear B_75
    have Ho_94 := Lib.hid (blk_below bwr Ho_76.out)
    clear Ho_76
    have A_95 := Lib.hid (A_77.out.keeps bwr)
    clear A_77
    have D_96 := Lib.hid (D_78.out.keeps bwr)
    clear D_78
    have O_97 := Lib.hid (O_79.out.keeps bwr)
    clear O_79
    have C_98 := Lib.hid (C_80.out.keeps bwr)
    clear C_80
    have X_99 := Lib.hid (X_81.out.keeps bwr)
    clear X_81
    have BX_100 := Lib.hid (bt BX_82.out bwr)
    clear BX_82
    have Y_101 := Lib.hid (Y_83.out.keeps bwr)
    clear Y_83
    have BY_102 := Lib.hid (bt BY_84.out bwr)
    clear BY_84
    have L_103 := Lib.hid (L_85.out.keeps bwr)
    clear L_85
    have BL_104 := Lib.hid (bt BL_86.out bwr)
    clear BL_86
    have M_105 := Lib.hid (M_87.out.keeps bwr)
    clear M_87
    have N_106 := Lib.hid (N_88.out.keeps bwr)
    clear N_88
    have BN_107 := Lib.hid (bt BN_89.out bwr)
    clear BN_89
    have P_108 := Lib.hid (P_90.out.keeps bwr)
    clear P_90
    have Q_109 := Lib.hid (Q_91.out.keeps bwr)
    clear Q_91
    have BQ_110 := Lib.hid (bt BQ_92.out bwr)
    clear BQ_92
    have R_111 := Lib.hid (owr)
    have SR := Lib.hid bwr.size
    clear bwr owr
    go_wp2_with fail
    refine (SL.out _ _ _ _ L_103.out.opl M_105.out).mono ?_
    rintro e ws1 ⟨rfl, bws1⟩
    have B_112 := Lib.hid (bt B_93.out bws1)
    clear B_93
    have Ho_113 := Lib.hid (blk_below bws1 Ho_94.out)
    clear Ho_94
    have A_114 := Lib.hid (A_95.out.keeps bws1)
    clear A_95
    have D_115 := Lib.hid (D_96.out.keeps bws1)
    clear D_96
    have O_116 := Lib.hid (O_97.out.keeps bws1)
    clear O_97
    have C_117 := Lib.hid (C_98.out.keeps bws1)
    clear C_98
    have X_118 := Lib.hid (X_99.out.keeps bws1)
    clear X_99
    have BX_119 := Lib.hid (bt BX_100.out bws1)
    clear BX_100
    have Y_120 := Lib.hid (Y_101.out.keeps bws1)
    clear Y_101
    have BY_121 := Lib.hid (bt BY_102.out bws1)
    clear BY_102
    have L_122 := Lib.hid (L_103.out.keeps bws1)
    clear L_103
    have BL_123 := Lib.hid (bt BL_104.out bws1)
    clear BL_104
    have M_124 := Lib.hid (M_105.out.keeps bws1)
    clear M_105
    have N_125 := Lib.hid (N_106.out.keeps bws1)
    clear N_106
    have BN_126 := Lib.hid (bt BN_107.out bws1)
    clear BN_107
    have P_127 := Lib.hid (P_108.out.keeps bws1)
    clear P_108
    have Q_128 := Lib.hid (Q_109.out.keeps bws1)
    clear Q_109
    have BQ_129 := Lib.hid (bt BQ_110.out bws1)
    clear BQ_110
    have R_130 := Lib.hid (R_111.out.keeps bws1)
    clear R_111
    clear bws1
    go_wp2_with fail
    refine (SL.out _ _ _ _ N_125.out.opl P_127.out).mono ?_
    rintro e ws2 ⟨rfl, bws2⟩
    have B_131 := Lib.hid (bt B_112.out bws2)
    clear B_112
    have Ho_132 := Lib.hid (blk_below bws2 Ho_113.out)
    clear Ho_113
    have A_133 := Lib.hid (A_114.out.keeps bws2)
    clear A_114
    have D_134 := Lib.hid (D_115.out.keeps bws2)
    clear D_115
    have O_135 := Lib.hid (O_116.out.keeps bws2)
    clear O_116
    have C_136 := Lib.hid (C_117.out.keeps bws2)
    clear C_117
    have X_137 := Lib.hid (X_118.out.keeps bws2)
    clear X_118
    have BX_138 := Lib.hid (bt BX_119.out bws2)
    clear BX_119
    have Y_139 := Lib.hid (Y_120.out.keeps bws2)
    clear Y_120
    have BY_140 := Lib.hid (bt BY_121.out bws2)
    clear BY_121
    have L_141 := Lib.hid (L_122.out.keeps bws2)
    clear L_122
    have BL_142 := Lib.hid (bt BL_123.out bws2)
    clear BL_123
    have M_143 := Lib.hid (M_124.out.keeps bws2)
    clear M_124
    have N_144 := Lib.hid (N_125.out.keeps bws2)
    clear N_125
    have BN_145 := Lib.hid (bt BN_126.out bws2)
    clear BN_126
    have P_146 := Lib.hid (P_127.out.keeps bws2)
    clear P_127
    have Q_147 := Lib.hid (Q_128.out.keeps bws2)
    clear Q_128
    have BQ_148 := Lib.hid (bt BQ_129.out bws2)
    clear BQ_129
    have R_149 := Lib.hid (R_130.out.keeps bws2)
    clear R_130
    clear bws2
    go_wp2_with fail
    refine (SL.out _ _ _ _ Q_147.out.opl R_149.out).mono ?_
    rintro e ws3 ⟨rfl, bws3⟩
    have B_150 := Lib.hid (bt B_131.out bws3)
    clear B_131
    have Ho_151 := Lib.hid (blk_below bws3 Ho_132.out)
    clear Ho_132
    have A_152 := Lib.hid (A_133.out.keeps bws3)
    clear A_133
    have D_153 := Lib.hid (D_134.out.keeps bws3)
    clear D_134
    have O_154 := Lib.hid (O_135.out.keeps bws3)
    clear O_135
    have C_155 := Lib.hid (C_136.out.keeps bws3)
    clear C_136
    have X_156 := Lib.hid (X_137.out.keeps bws3)
    clear X_137
    have BX_157 := Lib.hid (bt BX_138.out bws3)
    clear BX_138
    have Y_158 := Lib.hid (Y_139.out.keeps bws3)
    clear Y_139
    have BY_159 := Lib.hid (bt BY_140.out bws3)
    clear BY_140
    have L_160 := Lib.hid (L_141.out.keeps bws3)
    clear L_141
    have BL_161 := Lib.hid (bt BL_142.out bws3)
    clear BL_142
    have M_162 := Lib.hid (M_143.out.keeps bws3)
    clear M_143
    have N_163 := Lib.hid (N_144.out.keeps bws3)
    clear N_144
    have BN_164 := Lib.hid (bt BN_145.out bws3)
    clear BN_145
    have P_165 := Lib.hid (P_146.out.keeps bws3)
    clear P_146
    have Q_166 := Lib.hid (Q_147.out.keeps bws3)
    clear Q_147
    have BQ_167 := Lib.hid (bt BQ_148.out bws3)
    clear BQ_148
    have R_168 := Lib.hid (R_149.out.keeps bws3)
    clear R_149
    clear bws3
    have ZL := Lib.hid (spl_at OWl.out BL_161.out)
    have ZN := Lib.hid (spl_at OWn.out BN_164.out)
    have ZQ := Lib.hid (spl_at OWq.out BQ_167.out)
    have z1 := SX.out
    have z2 := SY.out
    have z3 := SLx.out
    have z4 := SM.out
    have z5 := SN.out
    have z6 := SPp.out
    have z7 := SQ.out
    have ZZ : Hid (wx.heap.size ≤ wy.heap.size ∧ wl.heap.size ≤ wm.heap.size ∧ wn.heap.size ≤ wp.heap.size ∧ wb.heap.size ≤ wx.heap.size ∧ wy.heap.size ≤ wm.heap.size ∧ wm.heap.size ≤ wp.heap.size) := by unfold Hid; omega
    clear z1 z2 z3 z4 z5 z6 z7
    skip
    go_wp2_with fail
    refine (SP.out _ _ _ _ _ ZL.out).mono ?_
    rintro e wt1 ⟨rfl, s1⟩
    have N1 := Lib.hid (ZN.out.sand s1 ZZ.out.2.1)
    have Q1 := Lib.hid (ZQ.out.sand s1 (Nat.le_trans ZZ.out.2.1 ZZ.out.2.2.2.2.2))
    have E1 := Lib.hid (BX_157.out.trans (s1.1.mono ZZ.out.1))
    have G1 := Lib.hid (BY_159.out.trans s1.1)
    have T1 := Lib.hid (B_150.out.trans (s1.1.mono (Nat.le_trans WB.out (Nat.le_trans ZZ.out.2.2.2.1 ZZ.out.1))))
    clear s1 ZL ZN ZQ
    go_wp2_with fail
    refine (SP.out _ _ _ _ _ N1.out).mono ?_
    rintro e wt2 ⟨rfl, s2⟩
    have Q2 := Lib.hid (Q1.out.sand s2 ZZ.out.2.2.1)
    have E2 := Lib.hid (E1.out.trans (s2.1.mono (Nat.le_trans ZZ.out.1 ZZ.out.2.2.2.2.1)))
    have G2 := Lib.hid (G1.out.trans (s2.1.mono ZZ.out.2.2.2.2.1))
    have T2 := Lib.hid (T1.out.trans (s2.1.mono (Nat.le_trans WB.out (Nat.le_trans ZZ.out.2.2.2.1 (Nat.le_trans ZZ.out.1 ZZ.out.2.2.2.2.1)))))
    clear s2 N1 Q1 E1 G1 T1
    go_wp2_with fail
    refine (SP.out _ _ _ _ _ Q2.out).mono ?_
    rintro e wt3 ⟨rfl, s3⟩
    have E3 := Lib.hid (E2.out.trans (s3.1.mono (Nat.le_trans ZZ.out.1 (Nat.le_trans ZZ.out.2.2.2.2.1 ZZ.out.2.2.2.2.2))))
    have G3 := Lib.hid (G2.out.trans (s3.1.mono (Nat.le_trans ZZ.out.2.2.2.2.1 ZZ.out.2.2.2.2.2)))
    have T3 := Lib.hid (T2.out.trans (s3.1.mono (Nat.le_trans WB.out (Nat.le_trans ZZ.out.2.2.2.1 (Nat.le_trans ZZ.out.1 (Nat.le_trans ZZ.out.2.2.2.2.1 ZZ.out.2.2.2.2.2))))))
    clear s3 Q2 E2 G2 T2
    go_wp2_with fail
    refine (SL.out _ _ _ _ (OWx.out.opl.keeps E3.out) (HR0.out.keeps T3.out)).mono ?_
    rintro e wt4 ⟨rfl, b4⟩
    have T4 := Lib.hid (bt T3.out b4)
    have G4 := Lib.hid (bt G3.out b4)
    clear b4 E3 G3 T3
    go_wp2_with fail
    refine (SL.out _ _ _ _ (OWy.out.opl.keeps G4.out) (HR1.out.keeps T4.out)).mono ?_
    rintro e wt5 ⟨rfl, b5⟩
    have T5 := Lib.hid (bt T4.out b5)
    clear b5 G4 T4
    go_wp2
    go_ret
    exact ⟨rfl, T5.out⟩
end Go.Proofs.Ytocjkegkgnbboaa.Bags
