/- BagNames answers true, and changes nothing that was there. Conditions: none. -/
import Derived.Test.YtocjkegkgnbboaaPk25
import Derived.Test.YtocjkegkgnbboaaPk12

namespace Go.Proofs.Ytocjkegkgnbboaa.Bags
open Go.RowKit Go.WideShapes Stamp Go.Proofs.Ytocjkegkgnbboaa.Place Ops Codes
attribute [local go_sem ↓] Go.wp_at_zero Go.wp_at_succ

def c33 : List Clocks.Tm := [(0, [Spans.mk 3 3])]
def c2 : List Clocks.Tm := [(0, [Spans.mk 3 3]), (1, [Spans.mk 1 1])]
theorem less_names : lessL [o11, o30] c33 = [o11] ∧ lessE [o11, o30] c33 = 0 := by decide +kernel
theorem ids_names : idsC [o11, o30] = c2 ∧ chkL [o11, o30] = 0 := by decide +kernel
theorem add_names : addL [] zop = [] ∧ addE [] zop = 8 := by decide +kernel
theorem chk_names : chkL [o30, o11] = 8 := by decide +kernel
theorem tms_one {w : World} {g : Nat} (h : Sps w (.slice (some ⟨g, 0, none⟩) 1 1) [Spans.mk 3 3]) : Tms (w.alloc (.cells #[.int .u8 0, .slice (some ⟨g, 0, none⟩) 1 1] 36)) (.slice (some ⟨w.heap.size, 0, none⟩) 1 1) c33 :=
  ⟨_, sees_new w [.int .u8 0, .slice (some ⟨g, 0, none⟩) 1 1] 2 1 rfl (by omega) 36 (0, 0), ⟨rfl, by decide, h.keeps ((Below.refl _ _).alloc (Nat.le_refl _) _), trivial⟩⟩
theorem tms_two {w : World} {g g' : Nat} (h : Sps w (.slice (some ⟨g, 0, none⟩) 1 1) [Spans.mk 3 3]) (h' : Sps w (.slice (some ⟨g', 0, none⟩) 1 1) [Spans.mk 1 1]) :
    Tms (w.alloc (.cells #[.int .u8 0, .slice (some ⟨g, 0, none⟩) 1 1, .int .u8 1, .slice (some ⟨g', 0, none⟩) 1 1] 36)) (.slice (some ⟨w.heap.size, 0, none⟩) 2 2) c2 :=
  ⟨_, sees_new w [.int .u8 0, .slice (some ⟨g, 0, none⟩) 1 1, .int .u8 1, .slice (some ⟨g', 0, none⟩) 1 1] 2 2 rfl (by omega) 36 (0, 0), ⟨rfl, by decide, h.keeps ((Below.refl _ _).alloc (Nat.le_refl _) _), rfl, by decide, h'.keeps ((Below.refl _ _).alloc (Nat.le_refl _) _), trivial⟩⟩
theorem rows_one' {w : World} {g1 : Nat} (h1 : Runs w (.slice (some ⟨g1, 0, none⟩) 1 1) o11.pl) : opE.rows w [.int .u8 2, .int .u32 1, .int .u8 1, .slice (some ⟨g1, 0, none⟩) 1 1, .int .i64 0] [o11] := ⟨[.int .u8 2, .int .u32 1, .int .u8 1, .slice (some ⟨g1, 0, none⟩) 1 1, .int .i64 0], [], rfl, ⟨_, rfl, h1⟩, rfl⟩

set_option maxRecDepth 100000 in
set_option maxHeartbeats 16000000 in
theorem names_walk (w : World) : Calls Try.prog 3 #[] w fun e w' => e = .returned (.bool true) ∧ Below w.heap.size w w' := by
  have P1 : Hid (∀ (W : World) (v : Value), OpL W v [o30, o11] → Calls Try.prog 9 #[.slice none 0 0, v] W fun e w' => ∃ v, e = .returned (.tuple #[v, .bool true]) ∧ OpL w' v [o11, o30] ∧ Below W.heap.size W w') := fun W v h => by
    have := put_any (Seq.nil opE W) h
    rw [put_two] at this
    exact this
  have LS : Hid (∀ (W : World) (v u : Value), OpL W v [o11, o30] → Tms W u c33 → Calls Try.prog 11 #[v, u] W (DoneN [o11] 0 W)) := fun W v u h h2 => by
    have := bLess_any h h2
    rwa [less_names.1, less_names.2] at this
  have ID : Hid (∀ (W : World) (v : Value), OpL W v [o11, o30] → Calls Try.prog 12 #[v] W (DoneC c2 0 W)) := fun W v h => by
    have := bIds_any h
    rwa [ids_names.1, ids_names.2] at this
  have AD : Hid (∀ W : World, Calls Try.prog 13 #[.slice none 0 0, .agg #[.int .u8 0, .int .u32 0, .int .u8 0, .slice none 0 0, .int .i64 0]] W (DoneN [] 8 W)) := fun W => by
    have := bAdd_any (o := zop) (Seq.nil opE W) (Runs.nil W)
    rwa [add_names.1, add_names.2] at this
  have CK : Hid (∀ (W : World) (v : Value), OpL W v [o30, o11] → Calls Try.prog 17 #[v] W fun e w' => e = .returned (.int .i64 8) ∧ Below W.heap.size W w') := fun W v h => by
    have := bCheck_any h
    rwa [chk_names] at this
  have SL : Hid (∀ (W : World) (u v : Value), OpL W u [o11] → OpL W v [o11] → Calls Try.prog 15 #[u, v] W fun e w' => e = .returned (.bool true) ∧ Below W.heap.size W w') := fun W u v h h2 => by
    have := sameL_any h h2
    rwa [decide_eq_true rfl] at this
  have SC : Hid (∀ (W : World) (u v : Value), Tms W u c2 → Tms W v c2 → Calls Try.prog 16 #[u, v] W fun e w' => e = .returned (.bool true) ∧ Below W.heap.size W w') := fun W u v h h2 => by
    have := Clocks.refSameC_any h h2
    rwa [decide_eq_true rfl] at this
  go_enter Try.func3, Try.ntmps3
  go_wp2_with fail
  refine (one30_any _).mono ?_
  rintro e w1 ⟨g3, rfl, r1, b1⟩
  have B1 := Lib.hid b1
  have R3 := Lib.hid r1
  clear r1 b1
  go_wp2_with fail
  refine (one11'_any _).mono ?_
  rintro e w2 ⟨g1, rfl, r2, b2⟩
  have B2 := Lib.hid (bt B1.out b2)
  have R3b := Lib.hid (R3.out.keeps b2)
  have LQ := Lib.hid (seq_lit 2 rfl (by omega) (rows_two' r2 R3b.out))
  have B2b := Lib.hid (B2.out.alloc B2.out.size (.cells [.int .u8 2, .int .u32 3, .int .u8 0, .slice (some ⟨g3, 0, none⟩) 1 1, .int .i64 0, .int .u8 2, .int .u32 1, .int .u8 1, .slice (some ⟨g1, 0, none⟩) 1 1, .int .i64 0].toArray 30))
  clear r2 b2 R3 R3b B1 B2
  go_wp2_with fail
  refine (P1.out _ _ LQ.out).mono ?_
  rintro e w3 ⟨va, rfl, o3, b3⟩
  have B3 := Lib.hid (bt B2b.out b3)
  have A3 := Lib.hid o3
  clear o3 b3 LQ B2b
  obtain ⟨wa, hwa⟩ : ∃ x, x = w3.alloc (.cells #[.int .u32 3, .int .u32 3] 33) := ⟨_, rfl⟩
  have ba : Below w3.heap.size w3 wa := by rw [hwa]; exact (Below.refl _ _).alloc (Nat.le_refl _) _
  have ra : Sps wa (.slice (some ⟨w3.heap.size, 0, none⟩) 1 1) [Spans.mk 3 3] := by rw [hwa]; exact sps_new w3 [Spans.mk 3 3] 1 rfl (by simp) 33 (0, 0)
  have sza : wa.heap.size = w3.heap.size + 1 := by rw [hwa]; simp
  obtain ⟨wt, hwt⟩ : ∃ x, x = wa.alloc (.cells #[.int .u8 0, .slice (some ⟨w3.heap.size, 0, none⟩) 1 1] 36) := ⟨_, rfl⟩
  have bt1 : Below wa.heap.size wa wt := by rw [hwt]; exact (Below.refl _ _).alloc (Nat.le_refl _) _
  have C4 : Hid (Tms wt (.slice (some ⟨w3.heap.size + 1, 0, none⟩) 1 1) c33) := by have := tms_one ra; rw [← hwt, sza] at this; exact this
  have K4 : Hid (wt.heap[w3.heap.size + 1]? = some (.cells #[.int .u8 0, .slice (some ⟨w3.heap.size, 0, none⟩) 1 1] 36)) := by rw [hwt, ← sza]; exact blk_new rfl
  have R4 := Lib.hid (ra.keeps bt1)
  have A4 := Lib.hid ((A3.out.keeps ba).keeps bt1)
  have B4 := Lib.hid (bt (bt B3.out ba) bt1)
  have HWT : Hid (wt = (w3.alloc (.cells #[.int .u32 3, .int .u32 3] 33)).alloc (.cells #[.int .u8 0, .slice (some ⟨w3.heap.size, 0, none⟩) 1 1] 36)) := by rw [hwt, hwa]; exact rfl
  clear ba ra sza bt1 hwa hwt A3 B3
  have LSA := Lib.hid (LS.out wt _ _ A4.out C4.out)
  rw [HWT.out] at LSA
  go_wp2_with fail
  refine LSA.out.mono ?_
  rw [← HWT.out]
  rintro e w5 ⟨vb, rfl, ob, b5⟩
  clear HWT LSA C4
  have B_1 := Lib.hid (bt B4.out b5)
  clear B4
  have A_2 := Lib.hid (A4.out.keeps b5)
  clear A4
  have R_3 := Lib.hid (R4.out.keeps b5)
  clear R4
  have H_4 := Lib.hid (blk_below b5 K4.out)
  clear K4
  have Q_5 := Lib.hid (ob.opl)
  clear ob b5
  go_wp2_with fail
  refine (ID.out _ _ A_2.out).mono ?_
  rintro e w6 ⟨vd, rfl, od, bw6⟩
  have B_6 := Lib.hid (bt B_1.out bw6)
  clear B_1
  have A_7 := Lib.hid (A_2.out.keeps bw6)
  clear A_2
  have R_8 := Lib.hid (R_3.out.keeps bw6)
  clear R_3
  have H_9 := Lib.hid (blk_below bw6 H_4.out)
  clear H_4
  have Q_10 := Lib.hid (Q_5.out.keeps bw6)
  clear Q_5
  have T_11 := Lib.hid (od.tms)
  clear od bw6
  go_wp2_with fail
  refine (AD.out _).mono ?_
  rintro e w7 ⟨ve, rfl, oe, bw7⟩
  have B_12 := Lib.hid (bt B_6.out bw7)
  clear B_6
  have A_13 := Lib.hid (A_7.out.keeps bw7)
  clear A_7
  have R_14 := Lib.hid (R_8.out.keeps bw7)
  clear R_8
  have H_15 := Lib.hid (blk_below bw7 H_9.out)
  clear H_9
  have Q_16 := Lib.hid (Q_10.out.keeps bw7)
  clear Q_10
  have T_17 := Lib.hid (T_11.out.keeps bw7)
  clear T_11
  clear oe bw7
  have y0 := cell_of_row _ _ 0 _ _ _ H_15.out
  have y1 := cell_of_row _ _ 1 _ _ _ H_15.out
  obtain ⟨wa, hwa⟩ : ∃ x, x = w7.alloc (.cells #[.int .u32 1, .int .u32 1] 33) := ⟨_, rfl⟩
  have ba : Below w7.heap.size w7 wa := by rw [hwa]; exact (Below.refl _ _).alloc (Nat.le_refl _) _
  have ra : Sps wa (.slice (some ⟨w7.heap.size, 0, none⟩) 1 1) [Spans.mk 1 1] := by rw [hwa]; exact sps_new w7 [Spans.mk 1 1] 1 rfl (by simp) 33 (0, 0)
  have sza : wa.heap.size = w7.heap.size + 1 := by rw [hwa]; simp
  have B_18 := Lib.hid (bt B_12.out ba)
  clear B_12
  have A_19 := Lib.hid (A_13.out.keeps ba)
  clear A_13
  have R_20 := Lib.hid (R_14.out.keeps ba)
  clear R_14
  have H_21 := Lib.hid (blk_below ba H_15.out)
  clear H_15
  have Q_22 := Lib.hid (Q_16.out.keeps ba)
  clear Q_16
  have T_23 := Lib.hid (T_17.out.keeps ba)
  clear T_17
  obtain ⟨wu, hwu⟩ : ∃ x, x = wa.alloc (.cells #[.int .u8 0, .slice (some ⟨w3.heap.size, 0, none⟩) 1 1, .int .u8 1, .slice (some ⟨w7.heap.size, 0, none⟩) 1 1] 36) := ⟨_, rfl⟩
  have bu : Below wa.heap.size wa wu := by rw [hwu]; exact (Below.refl _ _).alloc (Nat.le_refl _) _
  have C8 : Hid (Tms wu (.slice (some ⟨w7.heap.size + 1, 0, none⟩) 2 2) c2) := by have := tms_two R_20.out ra; rw [← hwu, sza] at this; exact this
  have HWU : Hid (wu = (w7.alloc (.cells #[.int .u32 1, .int .u32 1] 33)).alloc (.cells #[.int .u8 0, .slice (some ⟨w3.heap.size, 0, none⟩) 1 1, .int .u8 1, .slice (some ⟨w7.heap.size, 0, none⟩) 1 1] 36)) := by rw [hwu, hwa]; exact rfl
  have B_24 := Lib.hid (bt B_18.out bu)
  clear B_18
  have A_25 := Lib.hid (A_19.out.keeps bu)
  clear A_19
  have R_26 := Lib.hid (R_20.out.keeps bu)
  clear R_20
  have H_27 := Lib.hid (blk_below bu H_21.out)
  clear H_21
  have Q_28 := Lib.hid (Q_22.out.keeps bu)
  clear Q_22
  have T_29 := Lib.hid (T_23.out.keeps bu)
  clear T_23
  clear ba ra sza bu hwa hwu
  have ALV := Lib.hid (alive11_any wu)
  rw [HWU.out] at ALV
  go_wp2_with fail
  clear y0 y1
  refine ALV.out.mono ?_
  rw [← HWU.out]
  rintro e w8 ⟨rfl, b8⟩
  have B_30 := Lib.hid (bt B_24.out b8)
  clear B_24
  have A_31 := Lib.hid (A_25.out.keeps b8)
  clear A_25
  have R_32 := Lib.hid (R_26.out.keeps b8)
  clear R_26
  have H_33 := Lib.hid (blk_below b8 H_27.out)
  clear H_27
  have Q_34 := Lib.hid (Q_28.out.keeps b8)
  clear Q_28
  have T_35 := Lib.hid (T_29.out.keeps b8)
  clear T_29
  have C_36 := Lib.hid (C8.out.keeps b8)
  clear C8
  clear b8 ALV HWU
  go_wp2_with fail
  refine (one11'_any _).mono ?_
  rintro e w9 ⟨g9, rfl, r9, b9⟩
  have B_37 := Lib.hid (bt B_30.out b9)
  clear B_30
  have A_38 := Lib.hid (A_31.out.keeps b9)
  clear A_31
  have R_39 := Lib.hid (R_32.out.keeps b9)
  clear R_32
  have H_40 := Lib.hid (blk_below b9 H_33.out)
  clear H_33
  have Q_41 := Lib.hid (Q_34.out.keeps b9)
  clear Q_34
  have T_42 := Lib.hid (T_35.out.keeps b9)
  clear T_35
  have C_43 := Lib.hid (C_36.out.keeps b9)
  clear C_36
  have LQ := Lib.hid (seq_lit 1 rfl (by omega) (rows_one' r9))
  have bo := (Below.refl w9.heap.size w9).alloc (Nat.le_refl _) (.cells [.int .u8 2, .int .u32 1, .int .u8 1, .slice (some ⟨g9, 0, none⟩) 1 1, .int .i64 0].toArray 30)
  have B_44 := Lib.hid (bt B_37.out bo)
  clear B_37
  have A_45 := Lib.hid (A_38.out.keeps bo)
  clear A_38
  have R_46 := Lib.hid (R_39.out.keeps bo)
  clear R_39
  have H_47 := Lib.hid (blk_below bo H_40.out)
  clear H_40
  have Q_48 := Lib.hid (Q_41.out.keeps bo)
  clear Q_41
  have T_49 := Lib.hid (T_42.out.keeps bo)
  clear T_42
  have C_50 := Lib.hid (C_43.out.keeps bo)
  clear C_43
  clear r9 b9 bo
  go_wp2_with fail
  refine (SL.out _ _ _ Q_48.out LQ.out).mono ?_
  rintro e w10 ⟨rfl, bw10⟩
  have B_51 := Lib.hid (bt B_44.out bw10)
  clear B_44
  have A_52 := Lib.hid (A_45.out.keeps bw10)
  clear A_45
  have R_53 := Lib.hid (R_46.out.keeps bw10)
  clear R_46
  have H_54 := Lib.hid (blk_below bw10 H_47.out)
  clear H_47
  have Q_55 := Lib.hid (Q_48.out.keeps bw10)
  clear Q_48
  have T_56 := Lib.hid (T_49.out.keeps bw10)
  clear T_49
  have C_57 := Lib.hid (C_50.out.keeps bw10)
  clear C_50
  clear bw10 LQ
  go_wp2_with fail
  refine (SC.out _ _ _ T_56.out C_57.out).mono ?_
  rintro e w11 ⟨rfl, bw11⟩
  have B_58 := Lib.hid (bt B_51.out bw11)
  clear B_51
  have A_59 := Lib.hid (A_52.out.keeps bw11)
  clear A_52
  have R_60 := Lib.hid (R_53.out.keeps bw11)
  clear R_53
  have H_61 := Lib.hid (blk_below bw11 H_54.out)
  clear H_54
  have Q_62 := Lib.hid (Q_55.out.keeps bw11)
  clear Q_55
  have T_63 := Lib.hid (T_56.out.keeps bw11)
  clear T_56
  have C_64 := Lib.hid (C_57.out.keeps bw11)
  clear C_57
  clear bw11
  go_wp2_with fail
  refine (one30_any _).mono ?_
  rintro e w12 ⟨h3, rfl, r12, b12⟩
  have B_65 := Lib.hid (bt B_58.out b12)
  clear B_58
  have A_66 := Lib.hid (A_59.out.keeps b12)
  clear A_59
  have R_67 := Lib.hid (R_60.out.keeps b12)
  clear R_60
  have H_68 := Lib.hid (blk_below b12 H_61.out)
  clear H_61
  have Q_69 := Lib.hid (Q_62.out.keeps b12)
  clear Q_62
  have T_70 := Lib.hid (T_63.out.keeps b12)
  clear T_63
  have C_71 := Lib.hid (C_64.out.keeps b12)
  clear C_64
  have X_72 := Lib.hid (r12)
  clear r12 b12
  go_wp2_with fail
  refine (one11'_any _).mono ?_
  rintro e w13 ⟨h1, rfl, r13, b13⟩
  have B_73 := Lib.hid (bt B_65.out b13)
  clear B_65
  have A_74 := Lib.hid (A_66.out.keeps b13)
  clear A_66
  have R_75 := Lib.hid (R_67.out.keeps b13)
  clear R_67
  have H_76 := Lib.hid (blk_below b13 H_68.out)
  clear H_68
  have Q_77 := Lib.hid (Q_69.out.keeps b13)
  clear Q_69
  have T_78 := Lib.hid (T_70.out.keeps b13)
  clear T_70
  have C_79 := Lib.hid (C_71.out.keeps b13)
  clear C_71
  have X_80 := Lib.hid (X_72.out.keeps b13)
  clear X_72
  have LQ := Lib.hid (seq_lit 2 rfl (by omega) (rows_two' r13 X_80.out))
  have bo := (Below.refl w13.heap.size w13).alloc (Nat.le_refl _) (.cells [.int .u8 2, .int .u32 3, .int .u8 0, .slice (some ⟨h3, 0, none⟩) 1 1, .int .i64 0, .int .u8 2, .int .u32 1, .int .u8 1, .slice (some ⟨h1, 0, none⟩) 1 1, .int .i64 0].toArray 30)
  have B_81 := Lib.hid (bt B_73.out bo)
  clear B_73
  have A_82 := Lib.hid (A_74.out.keeps bo)
  clear A_74
  have R_83 := Lib.hid (R_75.out.keeps bo)
  clear R_75
  have H_84 := Lib.hid (blk_below bo H_76.out)
  clear H_76
  have Q_85 := Lib.hid (Q_77.out.keeps bo)
  clear Q_77
  have T_86 := Lib.hid (T_78.out.keeps bo)
  clear T_78
  have C_87 := Lib.hid (C_79.out.keeps bo)
  clear C_79
  have X_88 := Lib.hid (X_80.out.keeps bo)
  clear X_80
  clear r13 b13 bo
  go_wp2_with fail
  refine (CK.out _ _ LQ.out).mono ?_
  rintro e w14 ⟨rfl, b14⟩
  have B14 := Lib.hid (bt B_81.out b14)
  clear b14
  go_wp2
  go_ret
  exact ⟨rfl, B14.out⟩
end Go.Proofs.Ytocjkegkgnbboaa.Bags
