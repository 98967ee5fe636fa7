/- MarksNames answers true, and changes nothing that was there. Conditions: none. -/
import Derived.Test.YtpgdnenkjommfaaPk20
import Derived.Test.YtpgdnenkjommfaaPk17

namespace Go.Proofs.Ytpgdnenkjommfaa.Marks
open Go.RowKit Go.WideShapes Stamp Go.Proofs.Ytpgdnenkjommfaa.Place Ops Codes Bags
attribute [local go_sem ↓] Go.wp_at_zero Go.wp_at_succ

def c3 : List Clocks.Tm := [(0, [Spans.mk 1 2]), (1, [Spans.mk 3 3])]
theorem ids_names : idsM [m1, m2, jj] = c3 ∧ chkL [m1, m2, jj] = 0 := by decide +kernel
theorem live_no : liveL [m2, m1] = [] ∧ chkL [m2, m1] = 8 := by decide +kernel
theorem joined_1 : joinedM [m1, m2, jj] ⟨1, 0, by decide, by decide⟩ = true := by decide +kernel
theorem joined_2 : joinedM [m1, m2, jj] ⟨2, 0, by decide, by decide⟩ = false := by decide +kernel
theorem count_3 : Clocks.countC c3 = 3 := by decide +kernel
theorem has_3 : Clocks.hasC c3 ⟨3, 1, by decide, by decide⟩ = true := by decide +kernel

set_option maxRecDepth 100000 in
set_option maxHeartbeats 16000000 in
theorem names_walk (w : World) : Calls Try.prog 3 #[] w fun e w' => e = .returned (.bool true) ∧ Below w.heap.size w w' := by
  have AV := Lib.hid alive12_any
  have ID : Hid (∀ (W : World) (v : Value), OpL W v [m1, m2, jj] → Calls Try.prog 8 #[v] W (DoneC c3 0 W)) := fun W v h => by
    have := mIds_any h
    rwa [ids_names.1, ids_names.2] at this
  have LV : Hid (∀ (W : World) (v : Value), OpL W v [m2, m1] → Calls Try.prog 9 #[v] W (DoneN [] 8 W)) := fun W v h => by
    have := mLive_any h
    rwa [live_no.1, live_no.2] at this
  have J1 : Hid (∀ (W : World) (v : Value), OpL W v [m1, m2, jj] → Calls Try.prog 11 #[v, .agg #[.int .u32 1, .int .u8 0]] W fun e w' => e = .returned (.bool true) ∧ Below W.heap.size W w') := fun W v h => by
    have := mJoined_any ⟨1, 0, by decide, by decide⟩ h
    rwa [joined_1] at this
  have J2 : Hid (∀ (W : World) (v : Value), OpL W v [m1, m2, jj] → Calls Try.prog 11 #[v, .agg #[.int .u32 2, .int .u8 0]] W fun e w' => e = .returned (.bool false) ∧ Below W.heap.size W w') := fun W v h => by
    have := mJoined_any ⟨2, 0, by decide, by decide⟩ h
    rwa [joined_2] at this
  have CT : Hid (∀ (W : World) (v : Value), Tms W v c3 → Calls Try.prog 12 #[v] W fun e w' => e = .returned (.int .i64 3) ∧ Below W.heap.size W w') := fun W v h => by
    have := Clocks.cCount_any h
    rwa [count_3] at this
  have HA : Hid (∀ (W : World) (v : Value), Tms W v c3 → Calls Try.prog 13 #[v, .agg #[.int .u32 3, .int .u8 1]] W fun e w' => e = .returned (.bool true) ∧ Below W.heap.size W w') := fun W v h => by
    have := Clocks.cHas_any ⟨3, 1, by decide, by decide⟩ h
    rwa [has_3] at this
  have B_0 : Hid (Below w.heap.size w w) := Below.refl _ _
  go_enter Try.func3, Try.ntmps3
  go_wp2_with fail
  refine (mark1_any _).mono ?_
  rintro e w1 ⟨g1, rfl, r1, b1⟩
  have B_1 := Lib.hid (bt B_0.out b1)
  clear B_0
  have M_2 := Lib.hid (r1)
  clear r1 b1
  go_wp2_with fail
  refine (mark2_any _).mono ?_
  rintro e w2 ⟨g2, rfl, r2, b2⟩
  have B_3 := Lib.hid (bt B_1.out b2)
  clear B_1
  have M_4 := Lib.hid (M_2.out.keeps b2)
  clear M_2
  have N_5 := Lib.hid (r2)
  clear r2 b2
  go_wp2_with fail
  refine (join12_any _).mono ?_
  rintro e w3 ⟨g3, rfl, r3, b3⟩
  have B_6 := Lib.hid (bt B_3.out b3)
  clear B_3
  have M_7 := Lib.hid (M_4.out.keeps b3)
  clear M_4
  have N_8 := Lib.hid (N_5.out.keeps b3)
  clear N_5
  have J_9 := Lib.hid (r3)
  clear r3 b3
  have bo := (Below.refl w3.heap.size w3).alloc (Nat.le_refl _) (.cells [.int .u8 2, .int .u32 1, .int .u8 0, .slice (some ⟨g1, 0, none⟩) 1 1, .int .i64 0, .int .u8 2, .int .u32 2, .int .u8 0, .slice (some ⟨g2, 0, none⟩) 1 1, .int .i64 0, .int .u8 4, .int .u32 3, .int .u8 1, .slice (some ⟨g3, 0, none⟩) 1 1, .int .i64 0].toArray 27)
  have sq := Lib.hid (seq_lit 3 rfl (by omega) (rows_12j M_7.out N_8.out J_9.out))
  have B_10 := Lib.hid (bt B_6.out bo)
  clear B_6
  have M_11 := Lib.hid (M_7.out.keeps bo)
  clear M_7
  have N_12 := Lib.hid (N_8.out.keeps bo)
  clear N_8
  have J_13 := Lib.hid (J_9.out.keeps bo)
  clear J_9
  have S_14 := Lib.hid (sq.out)
  clear bo sq
  clear M_11 N_12 J_13
  go_wp2_with fail
  refine (ID.out _ _ S_14.out).mono ?_
  rintro e w4 ⟨v4, rfl, o4, b4⟩
  have B_15 := Lib.hid (bt B_10.out b4)
  clear B_10
  have S_16 := Lib.hid (S_14.out.keeps b4)
  clear S_14
  have T_17 := Lib.hid (o4.tms)
  clear b4 o4
  go_wp2_with fail
  refine (mark2_any _).mono ?_
  rintro e w5 ⟨g5, rfl, r5, b5⟩
  have B_18 := Lib.hid (bt B_15.out b5)
  clear B_15
  have S_19 := Lib.hid (S_16.out.keeps b5)
  clear S_16
  have T_20 := Lib.hid (T_17.out.keeps b5)
  clear T_17
  have N_21 := Lib.hid (r5)
  clear r5 b5
  go_wp2_with fail
  refine (mark1_any _).mono ?_
  rintro e w6 ⟨g6, rfl, r6, b6⟩
  have B_22 := Lib.hid (bt B_18.out b6)
  clear B_18
  have S_23 := Lib.hid (S_19.out.keeps b6)
  clear S_19
  have T_24 := Lib.hid (T_20.out.keeps b6)
  clear T_20
  have N_25 := Lib.hid (N_21.out.keeps b6)
  clear N_21
  have M_26 := Lib.hid (r6)
  clear r6 b6
  have bo := (Below.refl w6.heap.size w6).alloc (Nat.le_refl _) (.cells [.int .u8 2, .int .u32 2, .int .u8 0, .slice (some ⟨g5, 0, none⟩) 1 1, .int .i64 0, .int .u8 2, .int .u32 1, .int .u8 0, .slice (some ⟨g6, 0, none⟩) 1 1, .int .i64 0].toArray 27)
  have sq := Lib.hid (seq_lit 2 rfl (by omega) (rows_21 M_26.out N_25.out))
  have B_27 := Lib.hid (bt B_22.out bo)
  clear B_22
  have S_28 := Lib.hid (S_23.out.keeps bo)
  clear S_23
  have T_29 := Lib.hid (T_24.out.keeps bo)
  clear T_24
  have N_30 := Lib.hid (N_25.out.keeps bo)
  clear N_25
  have M_31 := Lib.hid (M_26.out.keeps bo)
  clear M_26
  have Q_32 := Lib.hid (sq.out)
  clear bo sq
  clear M_31 N_30
  go_wp2_with fail
  refine (LV.out _ _ Q_32.out).mono ?_
  rintro e w7 ⟨v7, rfl, o7, b7⟩
  have B_33 := Lib.hid (bt B_27.out b7)
  clear B_27
  have S_34 := Lib.hid (S_28.out.keeps b7)
  clear S_28
  have T_35 := Lib.hid (T_29.out.keeps b7)
  clear T_29
  have Q_36 := Lib.hid (Q_32.out.keeps b7)
  clear Q_32
  clear b7 o7
  clear Q_36
  go_wp2_with fail
  refine (AV.out _).mono ?_
  rintro e w8 ⟨rfl, b8⟩
  have B_37 := Lib.hid (bt B_33.out b8)
  clear B_33
  have S_38 := Lib.hid (S_34.out.keeps b8)
  clear S_34
  have T_39 := Lib.hid (T_35.out.keeps b8)
  clear T_35
  clear b8
  go_wp2_with fail
  refine (J1.out _ _ S_38.out).mono ?_
  rintro e w9 ⟨rfl, b9⟩
  have B_40 := Lib.hid (bt B_37.out b9)
  clear B_37
  have S_41 := Lib.hid (S_38.out.keeps b9)
  clear S_38
  have T_42 := Lib.hid (T_39.out.keeps b9)
  clear T_39
  clear b9
  go_wp2_with fail
  refine (J2.out _ _ S_41.out).mono ?_
  rintro e w10 ⟨rfl, b10⟩
  have B_43 := Lib.hid (bt B_40.out b10)
  clear B_40
  have S_44 := Lib.hid (S_41.out.keeps b10)
  clear S_41
  have T_45 := Lib.hid (T_42.out.keeps b10)
  clear T_42
  clear b10
  go_wp2_with fail
  refine (CT.out _ _ T_45.out).mono ?_
  rintro e w11 ⟨rfl, b11⟩
  have B_46 := Lib.hid (bt B_43.out b11)
  clear B_43
  have S_47 := Lib.hid (S_44.out.keeps b11)
  clear S_44
  have T_48 := Lib.hid (T_45.out.keeps b11)
  clear T_45
  clear b11
  go_wp2_with fail
  refine (HA.out _ _ T_48.out).mono ?_
  rintro e w12 ⟨rfl, b12⟩
  have B_49 := Lib.hid (bt B_46.out b12)
  clear B_46
  have S_50 := Lib.hid (S_47.out.keeps b12)
  clear S_47
  have T_51 := Lib.hid (T_48.out.keeps b12)
  clear T_48
  clear b12
  go_wp2
  go_ret
  exact ⟨rfl, B_49.out⟩
end Go.Proofs.Ytpgdnenkjommfaa.Marks
