/- HomeTells answers true, and changes nothing that was there. Conditions: the places are not longer than memory holds. -/
import Derived.Test.YtdgcokknaampdaaPk16
import Derived.Test.YtdgcokknaampdaaPk13
import Derived.Test.YtdgcokknaampdaaPk21
import Derived.Test.YtdgcokknaampdaaPk09

namespace Go.Proofs.Ytdgcokknaampdaa.Homes
open Go.RowKit Go.WideShapes Stamp Go.Proofs.Ytdgcokknaampdaa.Place Ops Codes Bags Marks
attribute [local go_sem ↓] Go.wp_at_zero Go.wp_at_succ
attribute [local go_sem] yielded_undef

theorem row_shape {w : World} {base n : Nat} {e : TypeId} {v : Value} {cs : List Value} (h : w.ownsRow base e 3 v n cs) : ∃ ao cap, v = .slice ao n cap := by
  rcases h.2 with ⟨hv, h0⟩ | ⟨g, c2, cur, hv, hb, _⟩
  · rw [h0]; exact ⟨_, _, hv⟩
  · exact ⟨_, _, hv⟩

set_option maxRecDepth 100000 in
set_option maxHeartbeats 16000000 in
theorem tells_walk {l : List Opn} {p : List Run} {ao0 ao1 : Option Addr} {cap0 cap1 : Nat} (a : Id) {w : World} (hr0 : OpL w (.slice ao0 l.length cap0) l) (hz0 : ∀ o ∈ l, o.pl.length ≤ 8796093022208) (hr1 : Runs w (.slice ao1 p.length cap1) p) :
    Calls Try.prog 4 #[.slice ao0 l.length cap0, .slice ao1 p.length cap1, .agg #[.int .u32 (a.t : Int), .int .u8 (a.r : Int)]] w fun e w' => e = .returned (.bool true) ∧ Below w.heap.size w w' := by
  have HV : Hid (∀ W : World, Below w.heap.size w W → OpL W (.slice ao0 l.length cap0) l) := fun W h => hr0.keeps h
  have HP : Hid (∀ W : World, Below w.heap.size w W → Runs W (.slice ao1 p.length cap1) p) := fun W h => hr1.keeps h
  have GR : Hid (∀ W : World, Below w.heap.size w W → Calls Try.prog 13 #[.slice ao0 l.length cap0, .int .i64 100] W fun e w' => GrtO l 100 e ∧ W = w') := fun W h => greatO_any (HV.out W h)
  have hgr : ∀ {e : Ending}, GrtO l 100 e → ∃ g, e = .returned (.bool g) ∧ Hid (g = false → l.length ≤ 100) := fun ⟨g, h1, h2⟩ => ⟨g, h1, fun h => by have := (h2 h).1; omega⟩
  have TW : Hid (l.length ≤ 100 → ∀ W : World, Below w.heap.size w W → Calls Try.prog 14 #[.slice ao0 l.length cap0] W fun e w' => ∃ v', e = .returned v' ∧ OwnL w' W.heap.size v' l ∧ Below W.heap.size W w') := fun hl W h => refTwinL_any (HV.out W h) (by omega) hz0
  have CA : Hid (∀ (W : World) (v : Value), OpL W v l → Calls Try.prog 15 #[v] W (AllI (allL l) (chkL l) W)) := fun W v h => hAll_any h
  have RA : Hid (∀ W : World, Below w.heap.size w W → Calls Try.prog 16 #[.slice ao0 l.length cap0] W (AllI (allL l) (chkL l) W)) := fun W h => refAll13_any (HV.out W h)
  have CO : Hid (∀ (W : World) (v : Value), OpL W v l → Below w.heap.size w W → Calls Try.prog 10 #[v, .slice ao1 p.length cap1] W (OneI (homeL l p) (homeE l p) W)) := fun W v h h2 => hOf_any h (HP.out W h2)
  have RO : Hid (∀ W : World, Below w.heap.size w W → Calls Try.prog 17 #[.slice ao0 l.length cap0, .slice ao1 p.length cap1] W (OneI (homeL l p) (homeE l p) W)) := fun W h => refOf13_any (HV.out W h) (HP.out W h)
  have CH : Hid (∀ (W : World) (v : Value), OpL W v l → Calls Try.prog 7 #[v, .agg #[.int .u32 (a.t : Int), .int .u8 (a.r : Int)]] W (OneI (aheadL l a) (aheadE l a) W)) := fun W v h => hAhead_any a h
  have RH : Hid (∀ W : World, Below w.heap.size w W → Calls Try.prog 18 #[.slice ao0 l.length cap0, .agg #[.int .u32 (a.t : Int), .int .u8 (a.r : Int)]] W (OneI (aheadL l a) (aheadE l a) W)) := fun W h => refAhead13_any a (HV.out W h)
  have CS : Hid (∀ (W : World) (v : Value), OpL W v l → Calls Try.prog 9 #[v, .agg #[.int .u32 (a.t : Int), .int .u8 (a.r : Int)]] W (TwoR (fromL l a) (toL l a) (spanE l a) W)) := fun W v h => hSpan_any a h
  have RS : Hid (∀ W : World, Below w.heap.size w W → Calls Try.prog 19 #[.slice ao0 l.length cap0, .agg #[.int .u32 (a.t : Int), .int .u8 (a.r : Int)]] W fun e w' => ∃ ao ac bo bc, e = .returned (.tuple #[.slice ao (fromL l a).length ac, .slice bo (toL l a).length bc, .int .i64 (spanE l a)]) ∧ Runs w' (.slice ao (fromL l a).length ac) (fromL l a) ∧ Runs w' (.slice bo (toL l a).length bc) (toL l a) ∧ Below W.heap.size W w') := fun W h => refSpan13_any a (HV.out W h)
  have SI : Hid (∀ (W : World) (u v : Value) (m : List Id), Ids W u m → Ids W v m → Calls Try.prog 20 #[u, v] W fun e w' => e = .returned (.bool true) ∧ Below W.heap.size W w') := fun W u v m h h2 => sameIds_yes h h2
  have SR : Hid (∀ (W : World) (u v : Value) (m : List Run), Runs W u m → Runs W v m → Calls Try.prog 21 #[u, v] W fun e w' => e = .returned (.bool true) ∧ Below W.heap.size W w') := fun W u v m h h2 => by
    have := refSame_any h h2
    rwa [decide_eq_true rfl] at this
  have SB : Hid (∀ (W : World) (u : Value), OpL W u l → Below w.heap.size w W → Calls Try.prog 22 #[u, .slice ao0 l.length cap0] W fun e w' => e = .returned (.bool true) ∧ Below W.heap.size W w') := fun W u h h2 => by
    have := refSameL_any h (HV.out W h2)
    rwa [decide_eq_true rfl] at this
  obtain ⟨n0, hn0⟩ : ∃ n, n = l.length := ⟨_, rfl⟩
  rw [← hn0] at GR TW RA RO RH RS SB hgr ⊢
  obtain ⟨n1, hn1⟩ : ∃ n, n = p.length := ⟨_, rfl⟩
  have hn1m : n1 ≤ 9223372036854775807 := by rw [hn1]; exact hr1.max
  rw [← hn1] at CO RO ⊢
  obtain ⟨s, hs⟩ : ∃ z, a.t = z := ⟨_, rfl⟩
  obtain ⟨b, hb⟩ : ∃ z, a.r = z := ⟨_, rfl⟩
  rw [hs, hb] at CH RH CS RS ⊢
  have hf1 := from_fits l a
  have hf2 := to_fits l a
  obtain ⟨AL, hAL⟩ : ∃ z, allL l = z := ⟨_, rfl⟩
  obtain ⟨E1, hE1⟩ : ∃ z, chkL l = z := ⟨_, rfl⟩
  obtain ⟨HO, hHO⟩ : ∃ z, homeL l p = z := ⟨_, rfl⟩
  obtain ⟨E2, hE2⟩ : ∃ z, homeE l p = z := ⟨_, rfl⟩
  obtain ⟨AH, hAH⟩ : ∃ z, aheadL l a = z := ⟨_, rfl⟩
  obtain ⟨E3, hE3⟩ : ∃ z, aheadE l a = z := ⟨_, rfl⟩
  obtain ⟨FR, hFR⟩ : ∃ z, fromL l a = z := ⟨_, rfl⟩
  obtain ⟨TO, hTO⟩ : ∃ z, toL l a = z := ⟨_, rfl⟩
  obtain ⟨E4, hE4⟩ : ∃ z, spanE l a = z := ⟨_, rfl⟩
  rw [hAL, hE1] at CA RA
  rw [hHO, hE2] at CO RO
  rw [hAH, hE3] at CH RH
  rw [hFR, hTO, hE4] at CS RS
  rw [hFR] at hf1
  rw [hTO] at hf2
  obtain ⟨T1, r1, hT1, hr1'⟩ := HO
  obtain ⟨T2, r2, hT2, hr2'⟩ := AH
  have B_0 : Hid (Below w.heap.size w (w.alloc (.cells #[.int .u32 (s : Int), .int .u8 (b : Int)] 24))) := (Below.refl _ _).alloc (Nat.le_refl _) _
  have CE : Hid (∀ W : World, Below (w.alloc (.cells #[.int .u32 (s : Int), .int .u8 (b : Int)] 24)).heap.size (w.alloc (.cells #[.int .u32 (s : Int), .int .u8 (b : Int)] 24)) W → W.cell? ⟨w.heap.size, 0, none⟩ = some (.int .u32 (s : Int)) ∧ W.cell? ⟨w.heap.size, 1, none⟩ = some (.int .u8 (b : Int))) := fun W h => by
    have g2 := cells_blk (blk_below h (blk_new rfl))
    exact ⟨g2.1, g2.2.1⟩
  have BK_0 : Hid (Below (w.alloc (.cells #[.int .u32 (s : Int), .int .u8 (b : Int)] 24)).heap.size (w.alloc (.cells #[.int .u32 (s : Int), .int .u8 (b : Int)] 24)) (w.alloc (.cells #[.int .u32 (s : Int), .int .u8 (b : Int)] 24))) := Below.refl _ _
  have e1 : (E1 == E1) = true := by simp
  have e2 : (E2 == E2) = true := by simp
  have e3 : (E3 == E3) = true := by simp
  have e4 : (E4 == E4) = true := by simp
  clear hr0 hz0 hr1 hn0 hn1 hs hb hAL hE1 hHO hE2 hAH hE3 hFR hTO hE4 HV HP
  go_enter Try.func4, Try.ntmps4
  go_wp2_with fail
  refine (GR.out _ B_0.out).mono ?_
  rintro e w1 ⟨hg, rfl⟩
  obtain ⟨g, rfl, hg2⟩ := hgr hg
  clear hg hgr GR
  cases g
  rotate_left
  · go_wp2
    go_ret
    exact ⟨rfl, B_0.out⟩
  by_cases hm : 300 < n1
  · have t1 : decide ((300 : Int) < (n1 : Int)) = true := decide_eq_true (by omega)
    have u1 : decide (300 < n1) = true := decide_eq_true hm
    go_wp2
    go_ret
    exact ⟨rfl, B_0.out⟩
  have t1 : decide ((300 : Int) < (n1 : Int)) = false := decide_eq_false (by omega)
  have u1 : decide (300 < n1) = false := decide_eq_false hm
  have TW2 := Lib.hid (TW.out (hg2.out rfl))
  clear TW hg2
  go_wp2_with fail
  refine (TW2.out _ B_0.out).mono ?_
  rintro e w2 ⟨vo, rfl, o2, b2⟩
  have B_1 := Lib.hid (bt B_0.out b2)
  clear B_0
  have BK_2 := Lib.hid (bt BK_0.out b2)
  clear BK_0
  have V_3 := Lib.hid (o2.opl)
  clear b2 o2
  clear TW2
  have BZ_0 : Hid (Below w2.heap.size w2 w2) := Below.refl _ _
  have B2 := Lib.hid B_1.out
  have V2 := Lib.hid V_3.out
  go_wp2_with fail
  refine (CA.out _ _ V_3.out).mono ?_
  rintro e w3 ⟨ia, ca, rfl, o3, b3⟩
  have B_4 := Lib.hid (bt B_1.out b3)
  clear B_1
  have BK_5 := Lib.hid (bt BK_2.out b3)
  clear BK_2
  have V_6 := Lib.hid (V_3.out.keeps b3)
  clear V_3
  have BZ_7 := Lib.hid (bt BZ_0.out b3)
  clear BZ_0
  have I_8 := Lib.hid (Go.Proofs.Ytdgcokknaampdaa.Ids.own o3)
  clear b3 o3
  clear CA
  go_wp2_with fail
  refine (RA.out _ B_4.out).mono ?_
  rintro e w4 ⟨ib, cb, rfl, o4, b4⟩
  have B_9 := Lib.hid (bt B_4.out b4)
  clear B_4
  have BK_10 := Lib.hid (bt BK_5.out b4)
  clear BK_5
  have V_11 := Lib.hid (V_6.out.keeps b4)
  clear V_6
  have BZ_12 := Lib.hid (bt BZ_7.out b4)
  clear BZ_7
  have I_13 := Lib.hid (I_8.out.keeps b4)
  clear I_8
  have J_14 := Lib.hid (Go.Proofs.Ytdgcokknaampdaa.Ids.own o4)
  clear b4 o4
  clear RA
  go_wp2_with fail
  refine (CO.out _ _ V_11.out B_9.out).mono ?_
  rintro e w5 ⟨rfl, b5⟩
  have B_15 := Lib.hid (bt B_9.out b5)
  clear B_9
  have BK_16 := Lib.hid (bt BK_10.out b5)
  clear BK_10
  have V_17 := Lib.hid (V_11.out.keeps b5)
  clear V_11
  have BZ_18 := Lib.hid (bt BZ_12.out b5)
  clear BZ_12
  have I_19 := Lib.hid (I_13.out.keeps b5)
  clear I_13
  have J_20 := Lib.hid (J_14.out.keeps b5)
  clear J_14
  clear b5
  have bo := (Below.refl w5.heap.size w5).alloc (Nat.le_refl _) (.cells #[.int .u32 (T1 : Int), .int .u8 (r1 : Int)] 24)
  have B_21 := Lib.hid (bt B_15.out bo)
  clear B_15
  have BK_22 := Lib.hid (bt BK_16.out bo)
  clear BK_16
  have V_23 := Lib.hid (V_17.out.keeps bo)
  clear V_17
  have BZ_24 := Lib.hid (bt BZ_18.out bo)
  clear BZ_18
  have I_25 := Lib.hid (I_19.out.keeps bo)
  clear I_19
  have J_26 := Lib.hid (J_20.out.keeps bo)
  clear J_20
  have P1_27 := Lib.hid (pair_new w5 (.int .u32 (T1 : Int)) (.int .u8 (r1 : Int)) 24)
  clear bo
  clear CO
  go_wp2_with fail
  refine (RO.out _ B_21.out).mono ?_
  rintro e w6 ⟨rfl, b6⟩
  have B_28 := Lib.hid (bt B_21.out b6)
  clear B_21
  have BK_29 := Lib.hid (bt BK_22.out b6)
  clear BK_22
  have V_30 := Lib.hid (V_23.out.keeps b6)
  clear V_23
  have BZ_31 := Lib.hid (bt BZ_24.out b6)
  clear BZ_24
  have I_32 := Lib.hid (I_25.out.keeps b6)
  clear I_25
  have J_33 := Lib.hid (J_26.out.keeps b6)
  clear J_26
  have P1_34 := Lib.hid (P1_27.out.keeps b6)
  clear P1_27
  clear b6
  have bo := (Below.refl w6.heap.size w6).alloc (Nat.le_refl _) (.cells #[.int .u32 (T1 : Int), .int .u8 (r1 : Int)] 24)
  have B_35 := Lib.hid (bt B_28.out bo)
  clear B_28
  have BK_36 := Lib.hid (bt BK_29.out bo)
  clear BK_29
  have V_37 := Lib.hid (V_30.out.keeps bo)
  clear V_30
  have BZ_38 := Lib.hid (bt BZ_31.out bo)
  clear BZ_31
  have I_39 := Lib.hid (I_32.out.keeps bo)
  clear I_32
  have J_40 := Lib.hid (J_33.out.keeps bo)
  clear J_33
  have P1_41 := Lib.hid (P1_34.out.keeps bo)
  clear P1_34
  have P2_42 := Lib.hid (pair_new w6 (.int .u32 (T1 : Int)) (.int .u8 (r1 : Int)) 24)
  clear bo
  clear RO
  obtain ⟨d0, d1⟩ := CE.out _ BK_36.out
  go_wp2_with fail
  refine (CH.out _ _ V_37.out).mono ?_
  rintro e w7 ⟨rfl, b7⟩
  have B_43 := Lib.hid (bt B_35.out b7)
  clear B_35
  have BK_44 := Lib.hid (bt BK_36.out b7)
  clear BK_36
  have V_45 := Lib.hid (V_37.out.keeps b7)
  clear V_37
  have BZ_46 := Lib.hid (bt BZ_38.out b7)
  clear BZ_38
  have I_47 := Lib.hid (I_39.out.keeps b7)
  clear I_39
  have J_48 := Lib.hid (J_40.out.keeps b7)
  clear J_40
  have P1_49 := Lib.hid (P1_41.out.keeps b7)
  clear P1_41
  have P2_50 := Lib.hid (P2_42.out.keeps b7)
  clear P2_42
  clear b7
  clear d0 d1 CH
  have bo := (Below.refl w7.heap.size w7).alloc (Nat.le_refl _) (.cells #[.int .u32 (T2 : Int), .int .u8 (r2 : Int)] 24)
  have B_51 := Lib.hid (bt B_43.out bo)
  clear B_43
  have BK_52 := Lib.hid (bt BK_44.out bo)
  clear BK_44
  have V_53 := Lib.hid (V_45.out.keeps bo)
  clear V_45
  have BZ_54 := Lib.hid (bt BZ_46.out bo)
  clear BZ_46
  have I_55 := Lib.hid (I_47.out.keeps bo)
  clear I_47
  have J_56 := Lib.hid (J_48.out.keeps bo)
  clear J_48
  have P1_57 := Lib.hid (P1_49.out.keeps bo)
  clear P1_49
  have P2_58 := Lib.hid (P2_50.out.keeps bo)
  clear P2_50
  have P3_59 := Lib.hid (pair_new w7 (.int .u32 (T2 : Int)) (.int .u8 (r2 : Int)) 24)
  clear bo
  obtain ⟨d0, d1⟩ := CE.out _ BK_52.out
  go_wp2_with fail
  refine (RH.out _ B_51.out).mono ?_
  rintro e w8 ⟨rfl, b8⟩
  have B_60 := Lib.hid (bt B_51.out b8)
  clear B_51
  have BK_61 := Lib.hid (bt BK_52.out b8)
  clear BK_52
  have V_62 := Lib.hid (V_53.out.keeps b8)
  clear V_53
  have BZ_63 := Lib.hid (bt BZ_54.out b8)
  clear BZ_54
  have I_64 := Lib.hid (I_55.out.keeps b8)
  clear I_55
  have J_65 := Lib.hid (J_56.out.keeps b8)
  clear J_56
  have P1_66 := Lib.hid (P1_57.out.keeps b8)
  clear P1_57
  have P2_67 := Lib.hid (P2_58.out.keeps b8)
  clear P2_58
  have P3_68 := Lib.hid (P3_59.out.keeps b8)
  clear P3_59
  clear b8
  clear d0 d1 RH
  have bo := (Below.refl w8.heap.size w8).alloc (Nat.le_refl _) (.cells #[.int .u32 (T2 : Int), .int .u8 (r2 : Int)] 24)
  have B_69 := Lib.hid (bt B_60.out bo)
  clear B_60
  have BK_70 := Lib.hid (bt BK_61.out bo)
  clear BK_61
  have V_71 := Lib.hid (V_62.out.keeps bo)
  clear V_62
  have BZ_72 := Lib.hid (bt BZ_63.out bo)
  clear BZ_63
  have I_73 := Lib.hid (I_64.out.keeps bo)
  clear I_64
  have J_74 := Lib.hid (J_65.out.keeps bo)
  clear J_65
  have P1_75 := Lib.hid (P1_66.out.keeps bo)
  clear P1_66
  have P2_76 := Lib.hid (P2_67.out.keeps bo)
  clear P2_67
  have P3_77 := Lib.hid (P3_68.out.keeps bo)
  clear P3_68
  have P4_78 := Lib.hid (pair_new w8 (.int .u32 (T2 : Int)) (.int .u8 (r2 : Int)) 24)
  clear bo
  obtain ⟨d0, d1⟩ := CE.out _ BK_70.out
  have U0 := Lib.hid BZ_72.out
  go_wp2_with fail
  refine (CS.out _ _ V_71.out).mono ?_
  rintro e w9 ⟨va, vb, rfl, oa, os, b9⟩
  obtain ⟨aoA, capA, rfl⟩ := row_shape oa
  obtain ⟨aoB, capB, rfl⟩ := row_shape os
  have B_79 := Lib.hid (bt B_69.out b9)
  clear B_69
  have BK_80 := Lib.hid (bt BK_70.out b9)
  clear BK_70
  have V_81 := Lib.hid (V_71.out.keeps b9)
  clear V_71
  have BZ_82 := Lib.hid (bt BZ_72.out b9)
  clear BZ_72
  have I_83 := Lib.hid (I_73.out.keeps b9)
  clear I_73
  have J_84 := Lib.hid (J_74.out.keeps b9)
  clear J_74
  have P1_85 := Lib.hid (P1_75.out.keeps b9)
  clear P1_75
  have P2_86 := Lib.hid (P2_76.out.keeps b9)
  clear P2_76
  have P3_87 := Lib.hid (P3_77.out.keeps b9)
  clear P3_77
  have P4_88 := Lib.hid (P4_78.out.keeps b9)
  clear P4_78
  have F_89 := Lib.hid (Runs.own oa)
  have T_90 := Lib.hid (Runs.own os)
  clear b9
  have szu := U0.out.size
  have OA := Lib.hid (Wk.of (op_base oa szu))
  have OB := Lib.hid (Wk.of (op_base os szu))
  clear oa os szu U0
  clear d0 d1 CS
  have B9_0 : Hid (Below w9.heap.size w9 w9) := Below.refl _ _
  obtain ⟨d0, d1⟩ := CE.out _ BK_80.out
  go_wp2_with fail
  refine (RS.out _ B_79.out).mono ?_
  rintro e w10 ⟨aoC, capC, aoD, capD, rfl, o10, oq10, b10⟩
  have B_91 := Lib.hid (bt B_79.out b10)
  clear B_79
  have BK_92 := Lib.hid (bt BK_80.out b10)
  clear BK_80
  have V_93 := Lib.hid (V_81.out.keeps b10)
  clear V_81
  have BZ_94 := Lib.hid (bt BZ_82.out b10)
  clear BZ_82
  have I_95 := Lib.hid (I_83.out.keeps b10)
  clear I_83
  have J_96 := Lib.hid (J_84.out.keeps b10)
  clear J_84
  have P1_97 := Lib.hid (P1_85.out.keeps b10)
  clear P1_85
  have P2_98 := Lib.hid (P2_86.out.keeps b10)
  clear P2_86
  have P3_99 := Lib.hid (P3_87.out.keeps b10)
  clear P3_87
  have P4_100 := Lib.hid (P4_88.out.keeps b10)
  clear P4_88
  have F_101 := Lib.hid (F_89.out.keeps b10)
  clear F_89
  have T_102 := Lib.hid (T_90.out.keeps b10)
  clear T_90
  have B9_103 := Lib.hid (bt B9_0.out b10)
  clear B9_0
  have F2_104 := Lib.hid (o10)
  have T2_105 := Lib.hid (oq10)
  clear b10 o10 oq10
  clear d0 d1 RS
  go_wp2_with fail
  refine (SI.out _ _ _ _ I_95.out J_96.out).mono ?_
  rintro e w11 ⟨rfl, b11⟩
  have B_106 := Lib.hid (bt B_91.out b11)
  clear B_91
  have BK_107 := Lib.hid (bt BK_92.out b11)
  clear BK_92
  have V_108 := Lib.hid (V_93.out.keeps b11)
  clear V_93
  have BZ_109 := Lib.hid (bt BZ_94.out b11)
  clear BZ_94
  have I_110 := Lib.hid (I_95.out.keeps b11)
  clear I_95
  have J_111 := Lib.hid (J_96.out.keeps b11)
  clear J_96
  have P1_112 := Lib.hid (P1_97.out.keeps b11)
  clear P1_97
  have P2_113 := Lib.hid (P2_98.out.keeps b11)
  clear P2_98
  have P3_114 := Lib.hid (P3_99.out.keeps b11)
  clear P3_99
  have P4_115 := Lib.hid (P4_100.out.keeps b11)
  clear P4_100
  have F_116 := Lib.hid (F_101.out.keeps b11)
  clear F_101
  have T_117 := Lib.hid (T_102.out.keeps b11)
  clear T_102
  have B9_118 := Lib.hid (bt B9_103.out b11)
  clear B9_103
  have F2_119 := Lib.hid (F2_104.out.keeps b11)
  clear F2_104
  have T2_120 := Lib.hid (T2_105.out.keeps b11)
  clear T2_105
  clear b11
  clear SI
  clear I_110 J_111
  obtain ⟨lt1, fa1, fb1⟩ := P1_112.out
  obtain ⟨lt2, fa2, fb2⟩ := P2_113.out
  obtain ⟨lt3, fa3, fb3⟩ := P3_114.out
  obtain ⟨lt4, fa4, fb4⟩ := P4_115.out
  clear P1_112 P2_113 P3_114 P4_115
  go_wp2_with fail
  refine (SR.out _ _ _ _ F_116.out F2_119.out).mono ?_
  rintro e w12 ⟨rfl, b12⟩
  have B_121 := Lib.hid (bt B_106.out b12)
  clear B_106
  have BK_122 := Lib.hid (bt BK_107.out b12)
  clear BK_107
  have V_123 := Lib.hid (V_108.out.keeps b12)
  clear V_108
  have BZ_124 := Lib.hid (bt BZ_109.out b12)
  clear BZ_109
  have F_125 := Lib.hid (F_116.out.keeps b12)
  clear F_116
  have T_126 := Lib.hid (T_117.out.keeps b12)
  clear T_117
  have B9_127 := Lib.hid (bt B9_118.out b12)
  clear B9_118
  have F2_128 := Lib.hid (F2_119.out.keeps b12)
  clear F2_119
  have T2_129 := Lib.hid (T2_120.out.keeps b12)
  clear T2_120
  clear b12
  clear F_125 F2_128
  clear lt1 fa1 fb1 lt2 fa2 fb2 lt3 fa3 fb3 lt4 fa4 fb4
  go_wp2_with fail
  refine (SR.out _ _ _ _ T_126.out T2_129.out).mono ?_
  rintro e w13 ⟨rfl, b13⟩
  have B_130 := Lib.hid (bt B_121.out b13)
  clear B_121
  have BK_131 := Lib.hid (bt BK_122.out b13)
  clear BK_122
  have V_132 := Lib.hid (V_123.out.keeps b13)
  clear V_123
  have BZ_133 := Lib.hid (bt BZ_124.out b13)
  clear BZ_124
  have T_134 := Lib.hid (T_126.out.keeps b13)
  clear T_126
  have B9_135 := Lib.hid (bt B9_127.out b13)
  clear B9_127
  have T2_136 := Lib.hid (T2_129.out.keeps b13)
  clear T2_129
  clear b13
  clear T_134 T2_136
  have RA9 := Lib.hid (OA.out.keeps B9_135.out)
  have RB9 := Lib.hid (OB.out.keeps B9_135.out)
  obtain ⟨nf, hnf⟩ : ∃ z, z = FR.length := ⟨_, rfl⟩
  obtain ⟨nt, hnt⟩ : ∃ z, z = TO.length := ⟨_, rfl⟩
  rw [← hnf] at RA9 hf1 ⊢
  rw [← hnt] at RB9 hf2 ⊢
  have BZ := Lib.hid BZ_133.out
  clear SR OA OB hnf hnt CE B9_135 BK_131 BZ_133 V_132 B_130
  go_wp2
  go_loopw [28] (fun i wr => ∃ k : Nat, k ≤ nf ∧ i = .int .i64 (k : Int) ∧ Hid (Wk wr w2.heap.size aoA nf) ∧ Hid (Wk wr w2.heap.size aoB nt) ∧ Hid (Below w2.heap.size w2 wr)) (fun i _ => nf - (intOf i).toNat)
  case atStart => exact ⟨0, by omega, rfl, RA9, RB9, BZ⟩
  case round =>
    clear RA9 RB9 BZ
    obtain ⟨k, hk, rfl, ow, ox, hbel⟩ := hrel
    by_cases hkn : k < nf
    · have q1 : decide (k < nf) = true := by simpa using hkn
      obtain ⟨g, u, rfl, hg, xm, xf⟩ := ow.out.at hkn
      have OW2 : Hid (Wk (wr.setCell ⟨g, k * 3 + 2, none⟩ (.int .i64 (-7))) w2.heap.size (some ⟨g, 0, none⟩) nf) := ow.out.set
      have OX2 : Hid (Wk (wr.setCell ⟨g, k * 3 + 2, none⟩ (.int .i64 (-7))) w2.heap.size aoB nt) := ox.out.set
      have BW2 : Hid (Below w2.heap.size w2 (wr.setCell ⟨g, k * 3 + 2, none⟩ (.int .i64 (-7)))) := hbel.out.setCell (p := ⟨g, k * 3 + 2, none⟩) hg _
      have w0 : (0 : Int) ≤ (k : Int) := by omega
      have w1' : (k : Int) < (nf : Int) := by omega
      clear ow ox hg
      go_wp2
      go_roundw
      case rel => exact ⟨k + 1, by omega, by go_num, OW2, OX2, BW2⟩
      case measure => simp [intOf]; omega
    · have q1 : decide (k < nf) = false := by simpa using hkn
      clear ow hf1
      go_wp2
      go_loopw [29] (fun i wq => ∃ k : Nat, k ≤ nt ∧ i = .int .i64 (k : Int) ∧ Hid (Wk wq w2.heap.size aoB nt) ∧ Hid (Below w2.heap.size w2 wq)) (fun i _ => nt - (intOf i).toNat)
      case atStart => exact ⟨0, by omega, rfl, ox, hbel⟩
      case round =>
        clear ox hbel
        obtain ⟨j, hj, rfl, ow, hbel⟩ := hrel
        by_cases hjn : j < nt
        · have q2 : decide (j < nt) = true := by simpa using hjn
          obtain ⟨g, u, rfl, hg, xm, xf⟩ := ow.out.at hjn
          have OW2 : Hid (Wk (wr.setCell ⟨g, j * 3 + 2, none⟩ (.int .i64 (-7))) w2.heap.size (some ⟨g, 0, none⟩) nt) := ow.out.set
          have BW2 : Hid (Below w2.heap.size w2 (wr.setCell ⟨g, j * 3 + 2, none⟩ (.int .i64 (-7)))) := hbel.out.setCell (p := ⟨g, j * 3 + 2, none⟩) hg _
          have w0 : (0 : Int) ≤ (j : Int) := by omega
          have w1' : (j : Int) < (nt : Int) := by omega
          clear ow hg
          go_wp2
          go_roundw
          case rel => exact ⟨j + 1, by omega, by go_num, OW2, BW2⟩
          case measure => simp [intOf]; omega
        · have q2 : decide (j < nt) = false := by simpa using hjn
          have BF := Lib.hid (bt B2.out hbel.out)
          have X5 := Lib.hid (SB.out wr _ (V2.out.keeps hbel.out) BF.out)
          clear ow SB
          go_wp2_with fail
          refine X5.out.mono ?_
          rintro e w14 ⟨rfl, b14⟩
          have B14 := Lib.hid (bt BF.out b14)
          clear b14
          go_wp2
          go_ret
          exact ⟨rfl, B14.out⟩
end Go.Proofs.Ytdgcokknaampdaa.Homes
