/- CoverTells answers true, and changes nothing that was there. Conditions: the places are not longer than memory holds. -/
import Derived.Test.YtdackenaknieaaaGreatPt26
import Derived.Test.YtdackenaknieaaaGreatPt29
import Derived.Test.YtdackenaknieaaaGreatPt12
import Derived.Test.YtdackenaknieaaaGreatPt11

namespace Go.Proofs.YtdackenaknieaaaGreat.Covers
open Go.RowKit Go.WideShapes Stamp Go.Proofs.YtdackenaknieaaaGreat.Place Ops Codes Bags Marks Homes
attribute [local go_sem ↓] Go.wp_at_zero Go.wp_at_succ
attribute [local go_sem] yielded_undef

/-- The places of a row of operations may be written over: they lie from base on, none in the row's own block. -/
def Spc (w : World) (base b : Nat) (cb : Array Value) (n : Nat) : Prop := w.heap[b]? = some (.cells cb 31 (0, 0)) ∧ n * 5 ≤ cb.size ∧ ∀ k, k < n → ∃ so m sc, cb[k * 5 + 3]? = some (.slice so m sc) ∧ m ≤ 9223372036854775807 ∧
    (m = 0 ∨ ∃ g cur, so = some ⟨g, 0, none⟩ ∧ base ≤ g ∧ g ≠ b ∧ w.heap[g]? = some (.cells cur 49 (0, 0)) ∧ m * 3 ≤ cur.size)
theorem Spc.keeps {w w' : World} {base b n : Nat} {cb : Array Value} (h : Spc w base b cb n) (hb : Below w.heap.size w w') : Spc w' base b cb n := by
  obtain ⟨h1, h2, h3⟩ := h
  refine ⟨blk_below hb h1, h2, fun k hk => ?_⟩
  obtain ⟨so, m, sc, f1, f2, f3⟩ := h3 k hk
  exact ⟨so, m, sc, f1, f2, f3.imp id fun ⟨g, cur, g1, g2, g3, g4, g5⟩ => ⟨g, cur, g1, g2, g3, blk_below hb g4, g5⟩⟩
theorem Spc.set {w : World} {base b n g j : Nat} {cb : Array Value} {u : Value} (h : Spc w base b cb n) (hg : g ≠ b) : Spc (w.setCell ⟨g, j, none⟩ u) base b cb n := by
  obtain ⟨h1, h2, h3⟩ := h
  refine ⟨(heap_setCell_other w ⟨g, j, none⟩ b u (fun e => hg e.symm)).trans h1, h2, fun k hk => ?_⟩
  obtain ⟨so, m, sc, f1, f2, f3⟩ := h3 k hk
  refine ⟨so, m, sc, f1, f2, f3.imp id fun ⟨q, cur, g1, g2, g3, g4, g5⟩ => ?_⟩
  by_cases e : q = g
  · subst e
    exact ⟨q, _, g1, g2, g3, heap_setCell_same w q j cur _ u g4, by rw [Array.size_setIfInBounds]; exact g5⟩
  · exact ⟨q, cur, g1, g2, g3, (heap_setCell_other w ⟨g, j, none⟩ q u e).trans g4, g5⟩
theorem spc_of {w : World} {base n cap : Nat} {ao : Option Addr} {top : Nat} (h : SplO w base top (.slice ao n cap) n) (hn : 0 < n) : ∃ b cb, ao = some ⟨b, 0, none⟩ ∧ Spc w base b cb n := by
  obtain ⟨ao', cap', h1, h2, h3⟩ := h
  obtain ⟨rfl, -, rfl⟩ := Value.slice.inj h1
  rcases h3 with h3 | ⟨b, cb, e1, e2, e3, e4, e5, e6⟩
  · omega
  · refine ⟨b, cb, e1, e4, e5, fun k hk => ?_⟩
    obtain ⟨so, m, sc, f1, f2, f3⟩ := e6 k hk
    exact ⟨so, m, sc, f1, f2, f3.imp id fun ⟨g, cur, g1, g2, g3, g4, g5, g6⟩ => ⟨g, cur, g1, g2, g4, g5, g6⟩⟩

set_option maxRecDepth 100000 in
set_option maxHeartbeats 16000000 in
theorem tells_walk {l : List Opn} {ao0 : Option Addr} {cap0 : Nat} (a : Id) {w : World} (hr0 : OpL w (.slice ao0 l.length cap0) l) (hz0 : ∀ o ∈ l, o.pl.length ≤ 8796093022208) :
    Calls Tryz.prog 4 #[.slice ao0 l.length cap0, .agg #[.int .u32 (a.t : Int), .int .u8 (a.r : Int)]] w fun e w' => e = .returned (.bool true) ∧ Below w.heap.size w w' := by
  have HV : Hid (∀ W : World, Below w.heap.size w W → OpL W (.slice ao0 l.length cap0) l) := fun W h => hr0.keeps h
  have GR : Hid (∀ W : World, Below w.heap.size w W → Calls Tryz.prog 16 #[.slice ao0 l.length cap0, .int .i64 60] W fun e w' => GrtO l 60 e ∧ W = w') := fun W h => greatO_any (HV.out W h)
  have hgr : ∀ {e : Ending}, GrtO l 60 e → ∃ g, e = .returned (.bool g) ∧ Hid (g = false → l.length ≤ 60) := fun ⟨g, h1, h2⟩ => ⟨g, h1, fun h => by have := (h2 h).1; omega⟩
  have TW : Hid (l.length ≤ 60 → ∀ W : World, Below w.heap.size w W → Calls Tryz.prog 17 #[.slice ao0 l.length cap0] W fun e w' => ∃ v', e = .returned v' ∧ OwnL w' W.heap.size v' l ∧ Below W.heap.size W w') := fun hl W h => refTwinL_any (HV.out W h) (by omega) hz0
  have CH : Hid (∀ (W : World) (v : Value), OpL W v l → Calls Tryz.prog 18 #[v, .agg #[.int .u32 (a.t : Int), .int .u8 (a.r : Int)]] W (DoneN (homedL l a) (spanE l a) W)) := fun W v h => cHomed_any a h
  have RH : Hid (∀ W : World, Below w.heap.size w W → Calls Tryz.prog 19 #[.slice ao0 l.length cap0, .agg #[.int .u32 (a.t : Int), .int .u8 (a.r : Int)]] W (DoneL (homedL l a) (spanE l a) W)) := fun W h => refHomed14_any a (HV.out W h)
  have CC : Hid (∀ (W : World) (v : Value), OpL W v l → Calls Tryz.prog 10 #[v, .agg #[.int .u32 (a.t : Int), .int .u8 (a.r : Int)]] W (DoneN (countsL l a) (spanE l a) W)) := fun W v h => cCounts_any a h
  have RC : Hid (∀ W : World, Below w.heap.size w W → Calls Tryz.prog 20 #[.slice ao0 l.length cap0, .agg #[.int .u32 (a.t : Int), .int .u8 (a.r : Int)]] W (DoneL (countsL l a) (spanE l a) W)) := fun W h => refCounts14_any a (HV.out W h)
  have CV : Hid (∀ (W : World) (v : Value), OpL W v l → Calls Tryz.prog 7 #[v, .agg #[.int .u32 (a.t : Int), .int .u8 (a.r : Int)]] W (Bags.DoneC (versionL l a) (spanE l a) W)) := fun W v h => cVersion_any a h
  have RV : Hid (∀ W : World, Below w.heap.size w W → Calls Tryz.prog 21 #[.slice ao0 l.length cap0, .agg #[.int .u32 (a.t : Int), .int .u8 (a.r : Int)]] W (Bags.DoneC (versionL l a) (spanE l a) W)) := fun W h => refVersion14_any a (HV.out W h)
  have SL : Hid (∀ (W : World) (u v : Value) (m : List Opn), OpL W u m → OpL W v m → Calls Tryz.prog 22 #[u, v] W fun e w' => e = .returned (.bool true) ∧ Below W.heap.size W w') := fun W u v m h h2 => by
    have := sameL_any h h2
    rwa [decide_eq_true rfl] at this
  have SC : Hid (∀ (W : World) (u v : Value) (c : List Clocks.Tm), Tms W u c → Tms W v c → Calls Tryz.prog 23 #[u, v] W fun e w' => e = .returned (.bool true) ∧ Below W.heap.size W w') := fun W u v c h h2 => by
    have := Clocks.refSameC_any h h2
    rwa [decide_eq_true rfl] at this
  have SB : Hid (∀ (W : World) (u : Value), OpL W u l → Below w.heap.size w W → Calls Tryz.prog 24 #[u, .slice ao0 l.length cap0] W fun e w' => e = .returned (.bool true) ∧ Below W.heap.size W w') := fun W u h h2 => by
    have := refSameL_any h (HV.out W h2)
    rwa [decide_eq_true rfl] at this
  obtain ⟨n0, hn0⟩ : ∃ n, n = l.length := ⟨_, rfl⟩
  rw [← hn0] at GR TW RH RC RV SB hgr ⊢
  obtain ⟨s, hs⟩ : ∃ z, a.t = z := ⟨_, rfl⟩
  obtain ⟨b, hb⟩ : ∃ z, a.r = z := ⟨_, rfl⟩
  rw [hs, hb] at CH RH CC RC CV RV ⊢
  have hf2 := countsL_fits l a
  obtain ⟨HM, hHM⟩ : ∃ z, homedL l a = z := ⟨_, rfl⟩
  obtain ⟨CO, hCO⟩ : ∃ z, countsL l a = z := ⟨_, rfl⟩
  obtain ⟨VE, hVE⟩ : ∃ z, versionL l a = z := ⟨_, rfl⟩
  obtain ⟨E1, hE1⟩ : ∃ z, spanE l a = z := ⟨_, rfl⟩
  rw [hHM, hE1] at CH RH
  rw [hCO, hE1] at CC RC
  rw [hVE, hE1] at CV RV
  rw [hCO] at hf2
  have B_0 : Hid (Below w.heap.size w (w.alloc (.cells #[.int .u32 (s : Int), .int .u8 (b : Int)] 28))) := (Below.refl _ _).alloc (Nat.le_refl _) _
  have CE : Hid (∀ W : World, Below (w.alloc (.cells #[.int .u32 (s : Int), .int .u8 (b : Int)] 28)).heap.size (w.alloc (.cells #[.int .u32 (s : Int), .int .u8 (b : Int)] 28)) W → W.cell? ⟨w.heap.size, 0, none⟩ = some (.int .u32 (s : Int)) ∧ W.cell? ⟨w.heap.size, 1, none⟩ = some (.int .u8 (b : Int))) := fun W h => by
    have g2 := cells_blk (blk_below h (blk_new rfl))
    exact ⟨g2.1, g2.2.1⟩
  have BK_0 : Hid (Below (w.alloc (.cells #[.int .u32 (s : Int), .int .u8 (b : Int)] 28)).heap.size (w.alloc (.cells #[.int .u32 (s : Int), .int .u8 (b : Int)] 28)) (w.alloc (.cells #[.int .u32 (s : Int), .int .u8 (b : Int)] 28))) := Below.refl _ _
  have e1 : (E1 == E1) = true := by simp
  have e2 : decide (E1 = E1) = true := by simp
  clear hr0 hz0 hn0 hs hb hHM hCO hVE hE1 HV
  go_enter Tryz.func4, Tryz.ntmps4
  go_wp2_with fail
  refine (GR.out _ B_0.out).mono ?_
  rintro e w1 ⟨hg, rfl⟩
  obtain ⟨g, rfl, hg2⟩ := hgr hg
  clear hg hgr GR
  cases g
  rotate_left
  · go_wp2
    go_ret
    exact ⟨rfl, B_0.out⟩
  have TW2 := Lib.hid (TW.out (hg2.out rfl))
  clear TW hg2
  go_wp2_with fail
  refine (TW2.out _ B_0.out).mono ?_
  rintro e w2 ⟨vo, rfl, o2, b2⟩
  have B_1 := Lib.hid (bt B_0.out b2)
  clear B_0
  have BK_2 := Lib.hid (bt BK_0.out b2)
  clear BK_0
  have V_3 := Lib.hid (o2.opl)
  clear b2 o2
  clear TW2
  have BZ_0 : Hid (Below w2.heap.size w2 w2) := Below.refl _ _
  have B2 := Lib.hid B_1.out
  have V2 := Lib.hid V_3.out
  obtain ⟨d0, d1⟩ := CE.out _ BK_2.out
  go_wp2_with fail
  refine (CH.out _ _ V_3.out).mono ?_
  rintro e w3 ⟨va, rfl, o3, b3⟩
  have B_4 := Lib.hid (bt B_1.out b3)
  clear B_1
  have BK_5 := Lib.hid (bt BK_2.out b3)
  clear BK_2
  have V_6 := Lib.hid (V_3.out.keeps b3)
  clear V_3
  have BZ_7 := Lib.hid (bt BZ_0.out b3)
  clear BZ_0
  have I_8 := Lib.hid (o3.opl)
  clear b3 o3
  clear d0 d1 CH
  obtain ⟨d0, d1⟩ := CE.out _ BK_5.out
  go_wp2_with fail
  refine (RH.out _ B_4.out).mono ?_
  rintro e w4 ⟨vb, rfl, o4, b4⟩
  have B_9 := Lib.hid (bt B_4.out b4)
  clear B_4
  have BK_10 := Lib.hid (bt BK_5.out b4)
  clear BK_5
  have V_11 := Lib.hid (V_6.out.keeps b4)
  clear V_6
  have BZ_12 := Lib.hid (bt BZ_7.out b4)
  clear BZ_7
  have I_13 := Lib.hid (I_8.out.keeps b4)
  clear I_8
  have J_14 := Lib.hid (o4)
  clear b4 o4
  clear d0 d1 RH
  have U0 := Lib.hid BZ_12.out
  obtain ⟨d0, d1⟩ := CE.out _ BK_10.out
  go_wp2_with fail
  refine (CC.out _ _ V_11.out).mono ?_
  rintro e w5 ⟨vc, rfl, o5, b5⟩
  obtain ⟨aoC, capC, rfl⟩ := o5.opl.shape
  have szu := U0.out.size
  have OC := Lib.hid (own_spl (o5.base szu))
  have B_15 := Lib.hid (bt B_9.out b5)
  clear B_9
  have BK_16 := Lib.hid (bt BK_10.out b5)
  clear BK_10
  have V_17 := Lib.hid (V_11.out.keeps b5)
  clear V_11
  have BZ_18 := Lib.hid (bt BZ_12.out b5)
  clear BZ_12
  have I_19 := Lib.hid (I_13.out.keeps b5)
  clear I_13
  have J_20 := Lib.hid (J_14.out.keeps b5)
  clear J_14
  have K_21 := Lib.hid (o5.opl)
  clear b5 o5
  clear d0 d1 CC szu U0
  have B9_0 : Hid (Below w5.heap.size w5 w5) := Below.refl _ _
  obtain ⟨d0, d1⟩ := CE.out _ BK_16.out
  go_wp2_with fail
  refine (RC.out _ B_15.out).mono ?_
  rintro e w6 ⟨vd, rfl, o6, b6⟩
  have B_22 := Lib.hid (bt B_15.out b6)
  clear B_15
  have BK_23 := Lib.hid (bt BK_16.out b6)
  clear BK_16
  have V_24 := Lib.hid (V_17.out.keeps b6)
  clear V_17
  have BZ_25 := Lib.hid (bt BZ_18.out b6)
  clear BZ_18
  have I_26 := Lib.hid (I_19.out.keeps b6)
  clear I_19
  have J_27 := Lib.hid (J_20.out.keeps b6)
  clear J_20
  have K_28 := Lib.hid (K_21.out.keeps b6)
  clear K_21
  have B9_29 := Lib.hid (bt B9_0.out b6)
  clear B9_0
  have L_30 := Lib.hid (o6)
  clear b6 o6
  clear d0 d1 RC
  obtain ⟨d0, d1⟩ := CE.out _ BK_23.out
  go_wp2_with fail
  refine (CV.out _ _ V_24.out).mono ?_
  rintro e w7 ⟨vx, rfl, o7, b7⟩
  have B_31 := Lib.hid (bt B_22.out b7)
  clear B_22
  have BK_32 := Lib.hid (bt BK_23.out b7)
  clear BK_23
  have V_33 := Lib.hid (V_24.out.keeps b7)
  clear V_24
  have BZ_34 := Lib.hid (bt BZ_25.out b7)
  clear BZ_25
  have I_35 := Lib.hid (I_26.out.keeps b7)
  clear I_26
  have J_36 := Lib.hid (J_27.out.keeps b7)
  clear J_27
  have K_37 := Lib.hid (K_28.out.keeps b7)
  clear K_28
  have B9_38 := Lib.hid (bt B9_29.out b7)
  clear B9_29
  have L_39 := Lib.hid (L_30.out.keeps b7)
  clear L_30
  have X_40 := Lib.hid (o7.tms)
  clear b7 o7
  clear d0 d1 CV
  obtain ⟨d0, d1⟩ := CE.out _ BK_32.out
  go_wp2_with fail
  refine (RV.out _ B_31.out).mono ?_
  rintro e w8 ⟨vy, rfl, o8, b8⟩
  have B_41 := Lib.hid (bt B_31.out b8)
  clear B_31
  have BK_42 := Lib.hid (bt BK_32.out b8)
  clear BK_32
  have V_43 := Lib.hid (V_33.out.keeps b8)
  clear V_33
  have BZ_44 := Lib.hid (bt BZ_34.out b8)
  clear BZ_34
  have I_45 := Lib.hid (I_35.out.keeps b8)
  clear I_35
  have J_46 := Lib.hid (J_36.out.keeps b8)
  clear J_36
  have K_47 := Lib.hid (K_37.out.keeps b8)
  clear K_37
  have B9_48 := Lib.hid (bt B9_38.out b8)
  clear B9_38
  have L_49 := Lib.hid (L_39.out.keeps b8)
  clear L_39
  have X_50 := Lib.hid (X_40.out.keeps b8)
  clear X_40
  have Y_51 := Lib.hid (o8.tms)
  clear b8 o8
  clear d0 d1 RV CE
  go_wp2_with fail
  refine (SL.out _ _ _ _ I_45.out J_46.out).mono ?_
  rintro e w9 ⟨rfl, b9⟩
  have B_52 := Lib.hid (bt B_41.out b9)
  clear B_41
  have BK_53 := Lib.hid (bt BK_42.out b9)
  clear BK_42
  have V_54 := Lib.hid (V_43.out.keeps b9)
  clear V_43
  have BZ_55 := Lib.hid (bt BZ_44.out b9)
  clear BZ_44
  have I_56 := Lib.hid (I_45.out.keeps b9)
  clear I_45
  have J_57 := Lib.hid (J_46.out.keeps b9)
  clear J_46
  have K_58 := Lib.hid (K_47.out.keeps b9)
  clear K_47
  have B9_59 := Lib.hid (bt B9_48.out b9)
  clear B9_48
  have L_60 := Lib.hid (L_49.out.keeps b9)
  clear L_49
  have X_61 := Lib.hid (X_50.out.keeps b9)
  clear X_50
  have Y_62 := Lib.hid (Y_51.out.keeps b9)
  clear Y_51
  clear b9
  clear I_56 J_57
  go_wp2_with fail
  refine (SL.out _ _ _ _ K_58.out L_60.out).mono ?_
  rintro e w10 ⟨rfl, b10⟩
  have B_63 := Lib.hid (bt B_52.out b10)
  clear B_52
  have BK_64 := Lib.hid (bt BK_53.out b10)
  clear BK_53
  have V_65 := Lib.hid (V_54.out.keeps b10)
  clear V_54
  have BZ_66 := Lib.hid (bt BZ_55.out b10)
  clear BZ_55
  have K_67 := Lib.hid (K_58.out.keeps b10)
  clear K_58
  have B9_68 := Lib.hid (bt B9_59.out b10)
  clear B9_59
  have L_69 := Lib.hid (L_60.out.keeps b10)
  clear L_60
  have X_70 := Lib.hid (X_61.out.keeps b10)
  clear X_61
  have Y_71 := Lib.hid (Y_62.out.keeps b10)
  clear Y_62
  clear b10
  clear K_67 L_69
  go_wp2_with fail
  refine (SC.out _ _ _ _ X_70.out Y_71.out).mono ?_
  rintro e w11 ⟨rfl, b11⟩
  have B_72 := Lib.hid (bt B_63.out b11)
  clear B_63
  have BK_73 := Lib.hid (bt BK_64.out b11)
  clear BK_64
  have V_74 := Lib.hid (V_65.out.keeps b11)
  clear V_65
  have BZ_75 := Lib.hid (bt BZ_66.out b11)
  clear BZ_66
  have B9_76 := Lib.hid (bt B9_68.out b11)
  clear B9_68
  have X_77 := Lib.hid (X_70.out.keeps b11)
  clear X_70
  have Y_78 := Lib.hid (Y_71.out.keeps b11)
  clear Y_71
  clear b11
  clear X_77 Y_78
  obtain ⟨n, hn⟩ : ∃ z, z = CO.length := ⟨_, rfl⟩
  have SPC : Hid (0 < n → ∃ b cb, aoC = some ⟨b, 0, none⟩ ∧ Spc w11 w2.heap.size b cb n) := fun h => by
    rw [hn] at h ⊢
    obtain ⟨b, cb, x1, x2⟩ := spc_of OC.out h
    exact ⟨b, cb, x1, x2.keeps B9_76.out⟩
  rw [← hn] at hf2 ⊢
  have BZ := Lib.hid BZ_75.out
  clear SL SC OC hn BK_73 BZ_75 V_74 B9_76 B_72
  have hn1 : n ≤ 1024 := hf2.1
  clear hf2
  by_cases hn0 : n = 0
  · subst hn0
    go_wp2
    go_loopw [19] (fun i wr => i = .int .i64 0 ∧ Hid (Below w2.heap.size w2 wr)) (fun _ _ => 0)
    case atStart => exact ⟨rfl, BZ⟩
    case round =>
      clear BZ
      obtain ⟨rfl, hbel⟩ := hrel
      have BF := Lib.hid (bt B2.out hbel.out)
      have X5 := Lib.hid (SB.out wr _ (V2.out.keeps hbel.out) BF.out)
      clear SB
      go_wp2_with fail
      refine X5.out.mono ?_
      rintro e wz ⟨rfl, bz⟩
      have BE := Lib.hid (bt BF.out bz)
      clear bz
      go_wp2
      go_ret
      exact ⟨rfl, BE.out⟩
  obtain ⟨g, cb, rfl, hspc⟩ := SPC.out (by omega)
  have SP0 := Lib.hid hspc
  clear hspc SPC
  go_wp2
  go_loopw [19] (fun i wr => ∃ k : Nat, k ≤ n ∧ i = .int .i64 (k : Int) ∧ Hid (Spc wr w2.heap.size g cb n) ∧ Hid (Below w2.heap.size w2 wr)) (fun i _ => n - (intOf i).toNat)
  case atStart => exact ⟨0, by omega, rfl, SP0, BZ⟩
  case round =>
    clear SP0 BZ
    obtain ⟨k, hk, rfl, hsp, hbel⟩ := hrel
    by_cases hkn : k < n
    rotate_left
    · have q1 : decide (k < n) = false := by simpa using hkn
      clear hsp
      have BF := Lib.hid (bt B2.out hbel.out)
      have X5 := Lib.hid (SB.out wr _ (V2.out.keeps hbel.out) BF.out)
      clear SB
      go_wp2_with fail
      refine X5.out.mono ?_
      rintro e wz ⟨rfl, bz⟩
      have BE := Lib.hid (bt BF.out bz)
      clear bz
      go_wp2
      go_ret
      exact ⟨rfl, BE.out⟩
    have q1 : decide (k < n) = true := by simpa using hkn
    have q4 : (0 : Int) ≤ (k : Int) := by omega
    have q5 : (k : Int) < (n : Int) := by omega
    obtain ⟨so, m, sc, hc, hm, hcase⟩ := hsp.out.2.2 k hkn
    have HC := Lib.hid hc
    go_wp2
    go_loopw [20] (fun i wq => ∃ j : Nat, j ≤ m ∧ i = .int .i64 (j : Int) ∧ Hid (Spc wq w2.heap.size g cb n) ∧ Hid (Below w2.heap.size w2 wq)) (fun i _ => m - (intOf i).toNat)
    case atStart => exact ⟨0, by omega, rfl, hsp, hbel⟩
    case round =>
      clear hsp hbel hcase hc
      obtain ⟨j, hj, rfl, hsp, hbel⟩ := hrel
      have xc : wr.cell? ⟨g, k * 5 + 3, none⟩ = some (.slice so m sc) := (cell_of_row _ _ (k * 5 + 3) _ _ _ hsp.out.1).trans HC.out
      by_cases hjm : j < m
      rotate_left
      · have q2 : decide (j < m) = false := by simpa using hjm
        go_wp2
        go_roundw
        case rel => exact ⟨k + 1, by omega, by go_num, hsp, hbel⟩
        case measure => simp [intOf]; omega
      have q2 : decide (j < m) = true := by simpa using hjm
      have q6 : (0 : Int) ≤ (j : Int) := by omega
      have q7 : (j : Int) < (m : Int) := by omega
      obtain ⟨so', m', sc', hc', hm', hcase⟩ := hsp.out.2.2 k hkn
      rw [HC.out] at hc'
      cases hc'
      rcases hcase with hcase | ⟨q, cur, rfl, hq1, hq2, hq3, hq4⟩
      · omega
      have hjc : j * 3 + 2 < cur.size := by omega
      have xm : wr.cell? ⟨q, j * 3 + 2, none⟩ = some (cur[j * 3 + 2]'hjc) := (cell_of_row _ q (j * 3 + 2) cur _ _ hq3).trans (Array.getElem?_eq_getElem hjc)
      obtain ⟨u, hu⟩ : ∃ u, cur[j * 3 + 2]'hjc = u := ⟨_, rfl⟩
      rw [hu] at xm
      have xf : wr.frozen? ⟨q, j * 3 + 2, none⟩ = false := by simp [World.frozen?, hq3]
      have SP2 : Hid (Spc (wr.setCell ⟨q, j * 3 + 2, none⟩ (.int .i64 (-7))) w2.heap.size g cb n) := hsp.out.set hq2
      have BW2 : Hid (Below w2.heap.size w2 (wr.setCell ⟨q, j * 3 + 2, none⟩ (.int .i64 (-7)))) := hbel.out.setCell (p := ⟨q, j * 3 + 2, none⟩) hq1 _
      clear hsp hbel hq3 hq4 hu hjc
      go_wp2
      go_roundw
      case rel => exact ⟨j + 1, by omega, by go_num, SP2, BW2⟩
      case measure => simp [intOf]; omega
end Go.Proofs.YtdackenaknieaaaGreat.Covers
