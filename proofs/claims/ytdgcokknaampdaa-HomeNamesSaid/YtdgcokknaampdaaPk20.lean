/- HomeNames answers true, and changes nothing that was there. Conditions: none. -/
import Derived.Test.YtdgcokknaampdaaPk19

namespace Go.Proofs.Ytdgcokknaampdaa.Homes
open Go.RowKit Go.WideShapes Stamp Go.Proofs.Ytdgcokknaampdaa.Place Ops Codes Bags Marks
attribute [local go_sem ↓] Go.wp_at_zero Go.wp_at_succ

def n9 : Id := ⟨9, 0, by decide, by decide⟩
def pn : List Run := [ru 0 0 0]
theorem ahead_a : aheadL [ma, mb] (idO ma) = idO mb ∧ aheadE [ma, mb] (idO ma) = 0 := by decide +kernel
theorem ahead_z : aheadL [ma, mb] zid = zid ∧ aheadE [ma, mb] zid = 130 := by decide +kernel
theorem ahead_9 : aheadL [ma, mb] n9 = zid ∧ aheadE [ma, mb] n9 = 130 := by decide +kernel
theorem span_b : fromL [ma, mb] (idO mb) = mb.pl ∧ toL [ma, mb] (idO mb) = ma.pl ∧ spanE [ma, mb] (idO mb) = 0 := by decide +kernel
theorem of_pn : homeL [ma, mb] pn = zid ∧ homeE [ma, mb] pn = 8 := by decide +kernel

set_option maxRecDepth 100000 in
set_option maxHeartbeats 16000000 in
theorem names_walk (w : World) : Calls Try.prog 3 #[] w fun e w' => e = .returned (.bool true) ∧ Below w.heap.size w w' := by
  have AV := Lib.hid alive13_any
  have TW : Hid (∀ W : World, Calls Try.prog 8 #[] W fun e w' => ∃ ao cap, e = .returned (.slice ao 2 cap) ∧ OpL w' (.slice ao 2 cap) [ma, mb] ∧ Below W.heap.size W w') := fun W => by
    refine (two13_any W).mono ?_
    rintro e w' ⟨v, rfl, o, b⟩
    obtain ⟨ao, cap, rfl⟩ := o.shape
    exact ⟨ao, cap, rfl, o, b⟩
  have A1 : Hid (∀ (W : World) (v : Value), OpL W v [ma, mb] → Calls Try.prog 7 #[v, .agg #[.int .u32 2, .int .u8 0]] W fun e w' => e = .returned (.tuple #[.agg #[.int .u32 5, .int .u8 1], .int .i64 0]) ∧ Below W.heap.size W w') := fun W v h => by
    have := hAhead_any (idO ma) h
    rw [ahead_a.1, ahead_a.2] at this
    exact this
  have A2 : Hid (∀ (W : World) (v : Value), OpL W v [ma, mb] → Calls Try.prog 7 #[v, .agg #[.int .u32 0, .int .u8 0]] W fun e w' => e = .returned (.tuple #[.agg #[.int .u32 0, .int .u8 0], .int .i64 130]) ∧ Below W.heap.size W w') := fun W v h => by
    have := hAhead_any zid h
    rw [ahead_z.1, ahead_z.2] at this
    exact this
  have A3 : Hid (∀ (W : World) (v : Value), OpL W v [ma, mb] → Calls Try.prog 7 #[v, .agg #[.int .u32 9, .int .u8 0]] W fun e w' => e = .returned (.tuple #[.agg #[.int .u32 0, .int .u8 0], .int .i64 130]) ∧ Below W.heap.size W w') := fun W v h => by
    have := hAhead_any n9 h
    rw [ahead_9.1, ahead_9.2] at this
    exact this
  have SP : Hid (∀ (W : World) (v : Value), OpL W v [ma, mb] → Calls Try.prog 9 #[v, .agg #[.int .u32 5, .int .u8 1]] W fun e w' => ∃ va vb, e = .returned (.tuple #[va, vb, .int .i64 0]) ∧ Runs w' va mb.pl ∧ Runs w' vb ma.pl ∧ Below W.heap.size W w') := fun W v h => by
    have := hSpan_any (idO mb) h
    rw [span_b.1, span_b.2.1, span_b.2.2] at this
    refine this.mono ?_
    rintro e w' ⟨va, vb, rfl, oa, ob, b2⟩
    exact ⟨va, vb, rfl, Runs.own oa, Runs.own ob, b2⟩
  have OF : Hid (∀ (W : World) (v u : Value), OpL W v [ma, mb] → Runs W u pn → Calls Try.prog 10 #[v, u] W fun e w' => e = .returned (.tuple #[.agg #[.int .u32 0, .int .u8 0], .int .i64 8]) ∧ Below W.heap.size W w') := fun W v u h h2 => by
    have := hOf_any h h2
    rw [of_pn.1, of_pn.2] at this
    exact this
  have SM : Hid (∀ (W : World) (a b : Value) (l : List Run), Runs W a l → Runs W b l → Calls Try.prog 12 #[a, b] W fun e w' => e = .returned (.bool true) ∧ Below W.heap.size W w') := fun W a b l h h2 => by
    have := Go.Proofs.Ytdgcokknaampdaa.Place.psame_any h h2
    rwa [decide_eq_true rfl] at this
  have B_0 : Hid (Below w.heap.size w w) := Below.refl _ _
  go_enter Try.func3, Try.ntmps3
  go_wp2_with fail
  refine (TW.out _).mono ?_
  rintro e w1 ⟨ao1, cap1, rfl, o1, b1⟩
  have B_1 := Lib.hid (bt B_0.out b1)
  clear B_0
  have S_2 := Lib.hid (o1)
  clear b1 o1
  go_wp2_with fail
  refine (A1.out _ _ S_2.out).mono ?_
  rintro e w2 ⟨rfl, b2⟩
  have B_3 := Lib.hid (bt B_1.out b2)
  clear B_1
  have S_4 := Lib.hid (S_2.out.keeps b2)
  clear S_2
  clear b2
  clear S_4
  have bo := (Below.refl w2.heap.size w2).alloc (Nat.le_refl _) (.cells #[.int .u32 5, .int .u8 1] 24)
  have B_5 := Lib.hid (bt B_3.out bo)
  clear B_3
  have P_6 := Lib.hid (pair_new w2 (.int .u32 5) (.int .u8 1) 24)
  clear bo
  go_wp2_with fail
  refine (TW.out _).mono ?_
  rintro e w3 ⟨ao3, cap3, rfl, o3, b3⟩
  have B_7 := Lib.hid (bt B_5.out b3)
  clear B_5
  have P_8 := Lib.hid (P_6.out.keeps b3)
  clear P_6
  have S_9 := Lib.hid (o3)
  clear b3 o3
  go_wp2_with fail
  refine (A2.out _ _ S_9.out).mono ?_
  rintro e w4 ⟨rfl, b4⟩
  have B_10 := Lib.hid (bt B_7.out b4)
  clear B_7
  have P_11 := Lib.hid (P_8.out.keeps b4)
  clear P_8
  have S_12 := Lib.hid (S_9.out.keeps b4)
  clear S_9
  clear b4
  clear S_12
  have bo := (Below.refl w4.heap.size w4).alloc (Nat.le_refl _) (.cells #[.int .u32 0, .int .u8 0] 24)
  have B_13 := Lib.hid (bt B_10.out bo)
  clear B_10
  have P_14 := Lib.hid (P_11.out.keeps bo)
  clear P_11
  clear bo
  go_wp2_with fail
  refine (TW.out _).mono ?_
  rintro e w5 ⟨ao5, cap5, rfl, o5, b5⟩
  have B_15 := Lib.hid (bt B_13.out b5)
  clear B_13
  have P_16 := Lib.hid (P_14.out.keeps b5)
  clear P_14
  have S_17 := Lib.hid (o5)
  clear b5 o5
  go_wp2_with fail
  refine (A3.out _ _ S_17.out).mono ?_
  rintro e w6 ⟨rfl, b6⟩
  have B_18 := Lib.hid (bt B_15.out b6)
  clear B_15
  have P_19 := Lib.hid (P_16.out.keeps b6)
  clear P_16
  have S_20 := Lib.hid (S_17.out.keeps b6)
  clear S_17
  clear b6
  clear S_20
  have bo := (Below.refl w6.heap.size w6).alloc (Nat.le_refl _) (.cells #[.int .u32 0, .int .u8 0] 24)
  have B_21 := Lib.hid (bt B_18.out bo)
  clear B_18
  have P_22 := Lib.hid (P_19.out.keeps bo)
  clear P_19
  clear bo
  go_wp2_with fail
  refine (TW.out _).mono ?_
  rintro e w7 ⟨ao7, cap7, rfl, o7, b7⟩
  have B_23 := Lib.hid (bt B_21.out b7)
  clear B_21
  have P_24 := Lib.hid (P_22.out.keeps b7)
  clear P_22
  have S_25 := Lib.hid (o7)
  clear b7 o7
  go_wp2_with fail
  refine (SP.out _ _ S_25.out).mono ?_
  rintro e w8 ⟨va, vb, rfl, o8, oq8, b8⟩
  have B_26 := Lib.hid (bt B_23.out b8)
  clear B_23
  have P_27 := Lib.hid (P_24.out.keeps b8)
  clear P_24
  have S_28 := Lib.hid (S_25.out.keeps b8)
  clear S_25
  have F_29 := Lib.hid (o8)
  have T_30 := Lib.hid (oq8)
  clear b8 o8 oq8
  clear S_28
  go_wp2_with fail
  refine (TW.out _).mono ?_
  rintro e w9 ⟨ao9, cap9, rfl, o9, b9⟩
  have B_31 := Lib.hid (bt B_26.out b9)
  clear B_26
  have P_32 := Lib.hid (P_27.out.keeps b9)
  clear P_27
  have F_33 := Lib.hid (F_29.out.keeps b9)
  clear F_29
  have T_34 := Lib.hid (T_30.out.keeps b9)
  clear T_30
  have S_35 := Lib.hid (o9)
  clear b9 o9
  have bo := (Below.refl w9.heap.size w9).alloc (Nat.le_refl _) (.cells #[.int .u32 0, .int .u8 0, .int .i64 0] 35)
  have B_36 := Lib.hid (bt B_31.out bo)
  clear B_31
  have P_37 := Lib.hid (P_32.out.keeps bo)
  clear P_32
  have F_38 := Lib.hid (F_33.out.keeps bo)
  clear F_33
  have T_39 := Lib.hid (T_34.out.keeps bo)
  clear T_34
  have S_40 := Lib.hid (S_35.out.keeps bo)
  clear S_35
  have Q_41 := Lib.hid (runs_new w9 pn 1 rfl (by decide) 35 (0, 0))
  clear bo
  go_wp2_with fail
  refine (OF.out _ _ _ S_40.out Q_41.out).mono ?_
  rintro e w10 ⟨rfl, b10⟩
  have B_42 := Lib.hid (bt B_36.out b10)
  clear B_36
  have P_43 := Lib.hid (P_37.out.keeps b10)
  clear P_37
  have F_44 := Lib.hid (F_38.out.keeps b10)
  clear F_38
  have T_45 := Lib.hid (T_39.out.keeps b10)
  clear T_39
  have S_46 := Lib.hid (S_40.out.keeps b10)
  clear S_40
  have Q_47 := Lib.hid (Q_41.out.keeps b10)
  clear Q_41
  clear b10
  clear S_46 Q_47
  have bo := (Below.refl w10.heap.size w10).alloc (Nat.le_refl _) (.cells #[.int .u32 0, .int .u8 0] 24)
  have B_48 := Lib.hid (bt B_42.out bo)
  clear B_42
  have P_49 := Lib.hid (P_43.out.keeps bo)
  clear P_43
  have F_50 := Lib.hid (F_44.out.keeps bo)
  clear F_44
  have T_51 := Lib.hid (T_45.out.keeps bo)
  clear T_45
  clear bo
  go_wp2_with fail
  refine (AV.out _).mono ?_
  rintro e w11 ⟨rfl, b11⟩
  have B_52 := Lib.hid (bt B_48.out b11)
  clear B_48
  have P_53 := Lib.hid (P_49.out.keeps b11)
  clear P_49
  have F_54 := Lib.hid (F_50.out.keeps b11)
  clear F_50
  have T_55 := Lib.hid (T_51.out.keeps b11)
  clear T_51
  clear b11
  obtain ⟨hlt, f0, f1⟩ := P_53.out
  clear P_53
  go_wp2_with fail
  refine (TW.out _).mono ?_
  rintro e w12 ⟨ao12, cap12, rfl, o12, b12⟩
  have B_56 := Lib.hid (bt B_52.out b12)
  clear B_52
  have F_57 := Lib.hid (F_54.out.keeps b12)
  clear F_54
  have T_58 := Lib.hid (T_55.out.keeps b12)
  clear T_55
  have S_59 := Lib.hid (o12)
  clear b12 o12
  clear hlt f0 f1
  obtain ⟨bb12, oo12, u12, e12, hbb12, hru12, h012, h112, h212, h312, h412⟩ := opl_at S_59.out 1 (by decide)
  subst e12
  clear S_59
  have U_60 := Lib.hid (hru12)
  clear h012 h112 h212 h412 hru12
  go_wp2_with fail
  refine (SM.out _ _ _ _ F_57.out U_60.out).mono ?_
  rintro e w13 ⟨rfl, b13⟩
  have B_61 := Lib.hid (bt B_56.out b13)
  clear B_56
  have F_62 := Lib.hid (F_57.out.keeps b13)
  clear F_57
  have T_63 := Lib.hid (T_58.out.keeps b13)
  clear T_58
  have U_64 := Lib.hid (U_60.out.keeps b13)
  clear U_60
  clear b13
  clear F_62 U_64
  go_wp2_with fail
  refine (TW.out _).mono ?_
  rintro e w14 ⟨ao14, cap14, rfl, o14, b14⟩
  have B_65 := Lib.hid (bt B_61.out b14)
  clear B_61
  have T_66 := Lib.hid (T_63.out.keeps b14)
  clear T_63
  have S_67 := Lib.hid (o14)
  clear b14 o14
  obtain ⟨bb14, oo14, u14, e14, hbb14, hru14, h014, h114, h214, h314, h414⟩ := opl_at S_67.out 0 (by decide)
  subst e14
  clear S_67
  have U_68 := Lib.hid (hru14)
  clear h014 h114 h214 h414 hru14
  go_wp2_with fail
  refine (SM.out _ _ _ _ T_66.out U_68.out).mono ?_
  rintro e w15 ⟨rfl, b15⟩
  have B_69 := Lib.hid (bt B_65.out b15)
  clear B_65
  have T_70 := Lib.hid (T_66.out.keeps b15)
  clear T_66
  have U_71 := Lib.hid (U_68.out.keeps b15)
  clear U_68
  clear b15
  clear T_70 U_71
  go_wp2
  go_ret
  exact ⟨rfl, B_69.out⟩
end Go.Proofs.Ytdgcokknaampdaa.Homes
