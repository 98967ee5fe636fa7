/- CoverNames answers true, and changes nothing that was there. Conditions: none. -/
import Derived.Test.YtdackenaknieaaaGreatPk22
import Derived.Test.YtdackenaknieaaaGreatPk23

namespace Go.Proofs.YtdackenaknieaaaGreat.Covers
open Go.RowKit Go.WideShapes Stamp Go.Proofs.YtdackenaknieaaaGreat.Place Ops Codes Bags Marks Homes
attribute [local go_sem ↓] Go.wp_at_zero Go.wp_at_succ
attribute [local go_sem] yielded_undef

set_option maxRecDepth 100000 in
set_option maxHeartbeats 16000000 in
theorem names_walk (w : World) : Calls Tryz.prog 3 #[] w fun e w' => e = .returned (.bool true) ∧ Below w.heap.size w w' := by
  have AV := Lib.hid alive14_any
  have C1 : Hid (∀ (W : World) (u v : Value), OpL W u [ob, om] → OpL W v [ob] → Calls Tryz.prog 12 #[.agg #[.int .u32 5, .int .u8 0], u, v] W fun e w' => e = .returned (.bool true) ∧ Below W.heap.size W w') := fun W u v h h2 => counts14_any n50 h h2 cv_bm.1 cv_bm.2
  have C2 : Hid (∀ (W : World) (u v : Value), OpL W u [oa, om] → OpL W v [oa] → Calls Tryz.prog 12 #[.agg #[.int .u32 0, .int .u8 0], u, v] W fun e w' => e = .returned (.bool true) ∧ Below W.heap.size W w') := fun W u v h h2 => counts14_any zid h h2 cv_am.1 cv_am.2
  have VE : Hid (∀ (W : World) (v : Value), OpL W v [oa, ob] → Calls Tryz.prog 7 #[v, .agg #[.int .u32 0, .int .u8 0]] W (Bags.DoneC (versionL [oa, ob] zid) 0 W)) := fun W v h => by
    have := cVersion_any zid h
    rw [cv_ab.2] at this
    exact this
  have K1 : Hid (∀ (W : World) (v : Value), OpL W v [oa, ob] → Calls Tryz.prog 10 #[v, .agg #[.int .u32 5, .int .u8 0]] W (DoneN [] 130 W)) := fun W v h => by
    have := cCounts_any n50 h
    rw [cv_ab5.1, cv_ab5.2] at this
    exact this
  have K2 : Hid (∀ (W : World) (v : Value), OpL W v [ob, oa] → Calls Tryz.prog 10 #[v, .agg #[.int .u32 0, .int .u8 0]] W (DoneN [] 8 W)) := fun W v h => by
    have := cCounts_any zid h
    rw [cv_ba.1, cv_ba.2] at this
    exact this
  have CN : Hid (∀ (W : World) (v : Value), Tms W v (versionL [oa, ob] zid) → Calls Tryz.prog 14 #[v] W fun e w' => e = .returned (.int .i64 2) ∧ Below W.heap.size W w') := fun W v h => by
    have := Clocks.cCount_any h
    rw [cv_v.1] at this
    exact this
  have CH : Hid (∀ (W : World) (v : Value), Tms W v (versionL [oa, ob] zid) → Calls Tryz.prog 15 #[v, .agg #[.int .u32 2, .int .u8 0]] W fun e w' => e = .returned (.bool true) ∧ Below W.heap.size W w') := fun W v h => by
    have := Clocks.cHas_any n20 h
    rw [cv_v.2] at this
    exact this
  have B_0 : Hid (Below w.heap.size w w) := Below.refl _ _
  go_enter Tryz.func3, Tryz.ntmps3
  go_wp2_with fail
  refine (fa14_any _).mono ?_
  rintro e w1 ⟨g1, rfl, r1, b1⟩
  have B_1 := Lib.hid (bt B_0.out b1)
  clear B_0
  have P_2 := Lib.hid (r1)
  clear b1 r1
  go_wp2_with fail
  refine (fb14_any _).mono ?_
  rintro e w2 ⟨g2, rfl, r2, b2⟩
  have B_3 := Lib.hid (bt B_1.out b2)
  clear B_1
  have P_4 := Lib.hid (P_2.out.keeps b2)
  clear P_2
  have Q_5 := Lib.hid (r2)
  clear b2 r2
  have bo := (Below.refl w2.heap.size w2).alloc (Nat.le_refl _) (.cells [.int .u8 1, .int .u32 1, .int .u8 0, .slice (some ⟨g1, 0, none⟩) 1 1, .int .i64 65, .int .u8 1, .int .u32 2, .int .u8 0, .slice (some ⟨g2, 0, none⟩) 1 1, .int .i64 66].toArray 31)
  have sq := Lib.hid (seq_lit 2 rfl (by omega) (rows_ab P_4.out Q_5.out))
  clear P_4 Q_5
  have B_6 := Lib.hid (bt B_3.out bo)
  clear B_3
  have S_7 := Lib.hid (sq.out)
  clear bo sq
  go_wp2_with fail
  refine (VE.out _ _ S_7.out).mono ?_
  rintro e w3 ⟨v3, rfl, o3, b3⟩
  have B_8 := Lib.hid (bt B_6.out b3)
  clear B_6
  have S_9 := Lib.hid (S_7.out.keeps b3)
  clear S_7
  have V_10 := Lib.hid (o3.tms)
  clear b3 o3
  clear S_9
  go_wp2_with fail
  refine (fa14_any _).mono ?_
  rintro e w4 ⟨g4, rfl, r4, b4⟩
  have B_11 := Lib.hid (bt B_8.out b4)
  clear B_8
  have V_12 := Lib.hid (V_10.out.keeps b4)
  clear V_10
  have P_13 := Lib.hid (r4)
  clear b4 r4
  go_wp2_with fail
  refine (fb14_any _).mono ?_
  rintro e w5 ⟨g5, rfl, r5, b5⟩
  have B_14 := Lib.hid (bt B_11.out b5)
  clear B_11
  have V_15 := Lib.hid (V_12.out.keeps b5)
  clear V_12
  have P_16 := Lib.hid (P_13.out.keeps b5)
  clear P_13
  have Q_17 := Lib.hid (r5)
  clear b5 r5
  have bo := (Below.refl w5.heap.size w5).alloc (Nat.le_refl _) (.cells [.int .u8 1, .int .u32 1, .int .u8 0, .slice (some ⟨g4, 0, none⟩) 1 1, .int .i64 65, .int .u8 1, .int .u32 2, .int .u8 0, .slice (some ⟨g5, 0, none⟩) 1 1, .int .i64 66].toArray 31)
  have sq := Lib.hid (seq_lit 2 rfl (by omega) (rows_ab P_16.out Q_17.out))
  clear P_16 Q_17
  have B_18 := Lib.hid (bt B_14.out bo)
  clear B_14
  have V_19 := Lib.hid (V_15.out.keeps bo)
  clear V_15
  have S_20 := Lib.hid (sq.out)
  clear bo sq
  go_wp2_with fail
  refine (K1.out _ _ S_20.out).mono ?_
  rintro e w6 ⟨v6, rfl, o6, b6⟩
  have B_21 := Lib.hid (bt B_18.out b6)
  clear B_18
  have V_22 := Lib.hid (V_19.out.keeps b6)
  clear V_19
  have S_23 := Lib.hid (S_20.out.keeps b6)
  clear S_20
  clear b6 o6
  clear S_23
  go_wp2_with fail
  refine (fb14_any _).mono ?_
  rintro e w7 ⟨g7, rfl, r7, b7⟩
  have B_24 := Lib.hid (bt B_21.out b7)
  clear B_21
  have V_25 := Lib.hid (V_22.out.keeps b7)
  clear V_22
  have P_26 := Lib.hid (r7)
  clear b7 r7
  go_wp2_with fail
  refine (fa14_any _).mono ?_
  rintro e w8 ⟨g8, rfl, r8, b8⟩
  have B_27 := Lib.hid (bt B_24.out b8)
  clear B_24
  have V_28 := Lib.hid (V_25.out.keeps b8)
  clear V_25
  have P_29 := Lib.hid (P_26.out.keeps b8)
  clear P_26
  have Q_30 := Lib.hid (r8)
  clear b8 r8
  have bo := (Below.refl w8.heap.size w8).alloc (Nat.le_refl _) (.cells [.int .u8 1, .int .u32 2, .int .u8 0, .slice (some ⟨g7, 0, none⟩) 1 1, .int .i64 66, .int .u8 1, .int .u32 1, .int .u8 0, .slice (some ⟨g8, 0, none⟩) 1 1, .int .i64 65].toArray 31)
  have sq := Lib.hid (seq_lit 2 rfl (by omega) (rows_ba P_29.out Q_30.out))
  clear P_29 Q_30
  have B_31 := Lib.hid (bt B_27.out bo)
  clear B_27
  have V_32 := Lib.hid (V_28.out.keeps bo)
  clear V_28
  have S_33 := Lib.hid (sq.out)
  clear bo sq
  go_wp2_with fail
  refine (K2.out _ _ S_33.out).mono ?_
  rintro e w9 ⟨v9, rfl, o9, b9⟩
  have B_34 := Lib.hid (bt B_31.out b9)
  clear B_31
  have V_35 := Lib.hid (V_32.out.keeps b9)
  clear V_32
  have S_36 := Lib.hid (S_33.out.keeps b9)
  clear S_33
  clear b9 o9
  clear S_36
  go_wp2_with fail
  refine (AV.out _).mono ?_
  rintro e w10 ⟨rfl, b10⟩
  have B_37 := Lib.hid (bt B_34.out b10)
  clear B_34
  have V_38 := Lib.hid (V_35.out.keeps b10)
  clear V_35
  clear b10
  go_wp2_with fail
  refine (fb14_any _).mono ?_
  rintro e w11 ⟨g11, rfl, r11, b11⟩
  have B_39 := Lib.hid (bt B_37.out b11)
  clear B_37
  have V_40 := Lib.hid (V_38.out.keeps b11)
  clear V_38
  have P_41 := Lib.hid (r11)
  clear b11 r11
  go_wp2_with fail
  refine (fm14_any _).mono ?_
  rintro e w12 ⟨g12, rfl, r12, b12⟩
  have B_42 := Lib.hid (bt B_39.out b12)
  clear B_39
  have V_43 := Lib.hid (V_40.out.keeps b12)
  clear V_40
  have P_44 := Lib.hid (P_41.out.keeps b12)
  clear P_41
  have Q_45 := Lib.hid (r12)
  clear b12 r12
  have bo := (Below.refl w12.heap.size w12).alloc (Nat.le_refl _) (.cells [.int .u8 1, .int .u32 2, .int .u8 0, .slice (some ⟨g11, 0, none⟩) 1 1, .int .i64 66, .int .u8 2, .int .u32 5, .int .u8 0, .slice (some ⟨g12, 0, none⟩) 2 2, .int .i64 0].toArray 31)
  have sq := Lib.hid (seq_lit 2 rfl (by omega) (rows_bm P_44.out Q_45.out))
  clear P_44 Q_45
  have B_46 := Lib.hid (bt B_42.out bo)
  clear B_42
  have V_47 := Lib.hid (V_43.out.keeps bo)
  clear V_43
  have S_48 := Lib.hid (sq.out)
  clear bo sq
  go_wp2_with fail
  refine (fb14_any _).mono ?_
  rintro e w13 ⟨g13, rfl, r13, b13⟩
  have B_49 := Lib.hid (bt B_46.out b13)
  clear B_46
  have V_50 := Lib.hid (V_47.out.keeps b13)
  clear V_47
  have S_51 := Lib.hid (S_48.out.keeps b13)
  clear S_48
  have P_52 := Lib.hid (r13)
  clear b13 r13
  have bo := (Below.refl w13.heap.size w13).alloc (Nat.le_refl _) (.cells [.int .u8 1, .int .u32 2, .int .u8 0, .slice (some ⟨g13, 0, none⟩) 1 1, .int .i64 66].toArray 31)
  have sq := Lib.hid (seq_lit 1 rfl (by omega) (rows_b P_52.out))
  clear P_52
  have B_53 := Lib.hid (bt B_49.out bo)
  clear B_49
  have V_54 := Lib.hid (V_50.out.keeps bo)
  clear V_50
  have S_55 := Lib.hid (S_51.out.keeps bo)
  clear S_51
  have T_56 := Lib.hid (sq.out)
  clear bo sq
  go_wp2_with fail
  refine (C1.out _ _ _ S_55.out T_56.out).mono ?_
  rintro e w14 ⟨rfl, b14⟩
  have B_57 := Lib.hid (bt B_53.out b14)
  clear B_53
  have V_58 := Lib.hid (V_54.out.keeps b14)
  clear V_54
  have S_59 := Lib.hid (S_55.out.keeps b14)
  clear S_55
  have T_60 := Lib.hid (T_56.out.keeps b14)
  clear T_56
  clear b14
  clear S_59 T_60
  go_wp2_with fail
  refine (fa14_any _).mono ?_
  rintro e w15 ⟨g15, rfl, r15, b15⟩
  have B_61 := Lib.hid (bt B_57.out b15)
  clear B_57
  have V_62 := Lib.hid (V_58.out.keeps b15)
  clear V_58
  have P_63 := Lib.hid (r15)
  clear b15 r15
  go_wp2_with fail
  refine (fm14_any _).mono ?_
  rintro e w16 ⟨g16, rfl, r16, b16⟩
  have B_64 := Lib.hid (bt B_61.out b16)
  clear B_61
  have V_65 := Lib.hid (V_62.out.keeps b16)
  clear V_62
  have P_66 := Lib.hid (P_63.out.keeps b16)
  clear P_63
  have Q_67 := Lib.hid (r16)
  clear b16 r16
  have bo := (Below.refl w16.heap.size w16).alloc (Nat.le_refl _) (.cells [.int .u8 1, .int .u32 1, .int .u8 0, .slice (some ⟨g15, 0, none⟩) 1 1, .int .i64 65, .int .u8 2, .int .u32 5, .int .u8 0, .slice (some ⟨g16, 0, none⟩) 2 2, .int .i64 0].toArray 31)
  have sq := Lib.hid (seq_lit 2 rfl (by omega) (rows_am P_66.out Q_67.out))
  clear P_66 Q_67
  have B_68 := Lib.hid (bt B_64.out bo)
  clear B_64
  have V_69 := Lib.hid (V_65.out.keeps bo)
  clear V_65
  have S_70 := Lib.hid (sq.out)
  clear bo sq
  go_wp2_with fail
  refine (fa14_any _).mono ?_
  rintro e w17 ⟨g17, rfl, r17, b17⟩
  have B_71 := Lib.hid (bt B_68.out b17)
  clear B_68
  have V_72 := Lib.hid (V_69.out.keeps b17)
  clear V_69
  have S_73 := Lib.hid (S_70.out.keeps b17)
  clear S_70
  have P_74 := Lib.hid (r17)
  clear b17 r17
  have bo := (Below.refl w17.heap.size w17).alloc (Nat.le_refl _) (.cells [.int .u8 1, .int .u32 1, .int .u8 0, .slice (some ⟨g17, 0, none⟩) 1 1, .int .i64 65].toArray 31)
  have sq := Lib.hid (seq_lit 1 rfl (by omega) (rows_a P_74.out))
  clear P_74
  have B_75 := Lib.hid (bt B_71.out bo)
  clear B_71
  have V_76 := Lib.hid (V_72.out.keeps bo)
  clear V_72
  have S_77 := Lib.hid (S_73.out.keeps bo)
  clear S_73
  have T_78 := Lib.hid (sq.out)
  clear bo sq
  go_wp2_with fail
  refine (C2.out _ _ _ S_77.out T_78.out).mono ?_
  rintro e w18 ⟨rfl, b18⟩
  have B_79 := Lib.hid (bt B_75.out b18)
  clear B_75
  have V_80 := Lib.hid (V_76.out.keeps b18)
  clear V_76
  have S_81 := Lib.hid (S_77.out.keeps b18)
  clear S_77
  have T_82 := Lib.hid (T_78.out.keeps b18)
  clear T_78
  clear b18
  clear S_81 T_82
  go_wp2_with fail
  refine (CN.out _ _ V_80.out).mono ?_
  rintro e w19 ⟨rfl, b19⟩
  have B_83 := Lib.hid (bt B_79.out b19)
  clear B_79
  have V_84 := Lib.hid (V_80.out.keeps b19)
  clear V_80
  clear b19
  go_wp2_with fail
  refine (CH.out _ _ V_84.out).mono ?_
  rintro e w20 ⟨rfl, b20⟩
  have B_85 := Lib.hid (bt B_83.out b20)
  clear B_83
  have V_86 := Lib.hid (V_84.out.keeps b20)
  clear V_84
  clear b20
  clear V_86
  go_wp2
  go_ret
  exact ⟨rfl, B_85.out⟩
end Go.Proofs.YtdackenaknieaaaGreat.Covers
