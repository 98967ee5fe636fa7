/- octavolaw12.mark, join, alive: what each answers. Conditions: none. -/
import Derived.Test.YtpgdnenkjommfaaPk19
import Derived.Test.YtpgdnenkjommfaaPk09

namespace Go.Proofs.Ytpgdnenkjommfaa.Marks
open Go.RowKit Go.WideShapes Stamp Go.Proofs.Ytpgdnenkjommfaa.Place Ops Codes Bags
attribute [local go_sem ↓] Go.wp_at_zero Go.wp_at_succ

set_option maxRecDepth 100000 in
theorem mark12_any {t : Nat} (h : t < 4294967296 ∧ 0 < 256) (w : World) : Calls Try.prog 6 #[.int .u32 (t : Int)] w fun e w' => ∃ g, e = .returned (.agg #[.int .u8 2, .int .u32 (t : Int), .int .u8 0, .slice (some ⟨g, 0, none⟩) 1 1, .int .i64 0]) ∧ Runs w' (.slice (some ⟨g, 0, none⟩) 1 1) (oneO t 0 h).pl ∧ Below w.heap.size w w' := by
  go_enter Try.func6, Try.ntmps6
  go_wp2_with fail
  refine bodyPost_ret (v := .agg #[.int .u8 2, .int .u32 (t : Int), .int .u8 0, .slice (some ⟨w.heap.size + 1, 0, none⟩) 1 1, .int .i64 0]) (by simp [results, Try.results6, go_sem]) rfl ⟨w.heap.size + 1, rfl, ?_, ((Below.refl _ _).alloc (Nat.le_refl _) _).alloc (by simp) _⟩
  have h := runs_new (w.alloc (.cells #[.int .u8 2, .int .u32 (t : Int), .int .u8 0, .slice (some ⟨w.heap.size + 1, 0, none⟩) 1 1, .int .i64 0] 27)) (oneO t 0 h).pl 1 rfl (by simp [oneO]) 50 (0, 0)
  rw [show (w.alloc (.cells #[.int .u8 2, .int .u32 (t : Int), .int .u8 0, .slice (some ⟨w.heap.size + 1, 0, none⟩) 1 1, .int .i64 0] 27)).heap.size = w.heap.size + 1 by simp] at h
  exact h
def m1 : Opn := oneO 1 0 (by decide)
def m2 : Opn := oneO 2 0 (by decide)
def jj : Opn := ⟨4, 3, 1, m1.pl, 0, by decide, by decide, by decide, by decide⟩
theorem mark1_any (w : World) : Calls Try.prog 6 #[.int .u32 1] w fun e w' => ∃ g, e = .returned (.agg #[.int .u8 2, .int .u32 1, .int .u8 0, .slice (some ⟨g, 0, none⟩) 1 1, .int .i64 0]) ∧ Runs w' (.slice (some ⟨g, 0, none⟩) 1 1) m1.pl ∧ Below w.heap.size w w' := mark12_any (t := 1) (by decide) w
theorem mark2_any (w : World) : Calls Try.prog 6 #[.int .u32 2] w fun e w' => ∃ g, e = .returned (.agg #[.int .u8 2, .int .u32 2, .int .u8 0, .slice (some ⟨g, 0, none⟩) 1 1, .int .i64 0]) ∧ Runs w' (.slice (some ⟨g, 0, none⟩) 1 1) m2.pl ∧ Below w.heap.size w w' := mark12_any (t := 2) (by decide) w
theorem field_at (g : Nat) (W : World) : (Instr.field 27 (.agg #[.int .u8 2, .int .u32 1, .int .u8 0, .slice (some ⟨g, 0, none⟩) 1 1, .int .i64 0]) 2).run Try.prog W = .ok (.slice (some ⟨g, 0, none⟩) 1 1) W := by
  first | kernel_rfl | rfl | simp [Instr.field, run_underlying Try.underlying27, go_sem]
set_option maxRecDepth 100000 in
set_option maxHeartbeats 4000000 in
theorem join12_any (w : World) : Calls Try.prog 7 #[] w fun e w' => ∃ g, e = .returned (.agg #[.int .u8 4, .int .u32 3, .int .u8 1, .slice (some ⟨g, 0, none⟩) 1 1, .int .i64 0]) ∧ Runs w' (.slice (some ⟨g, 0, none⟩) 1 1) jj.pl ∧ Below w.heap.size w w' := by
  have B0 : Hid (Below w.heap.size w (w.alloc (.cells #[.int .u8 0, .int .u32 0, .int .u8 0, .slice none 0 0, .int .i64 0] 27))) := (Below.refl _ _).alloc (Nat.le_refl _) _
  have X0 : Hid ((w.alloc (.cells #[.int .u8 0, .int .u32 0, .int .u8 0, .slice none 0 0, .int .i64 0] 27)).heap[w.heap.size]? = some (.cells #[.int .u8 0, .int .u32 0, .int .u8 0, .slice none 0 0, .int .i64 0] 27)) := blk_new rfl
  go_enter Try.func7, Try.ntmps7
  go_wp2_with fail
  refine (mark1_any _).mono ?_
  rintro e w1 ⟨g, rfl, r1, b1⟩
  have B1 := Lib.hid (bt B0.out b1)
  have X1 := Lib.hid (blk_below b1 X0.out)
  have R1 := Lib.hid r1
  clear r1 b1 B0 X0
  obtain ⟨x0, x1, x2, x3, x4⟩ := cells5 X1.out
  have f0 : ∀ o, w1.frozen? ⟨w.heap.size, o, none⟩ = false := fun o => free5 X1.out o
  have hfd := field_at g w1
  go_wp2_with fail
  obtain ⟨WF, hWF⟩ : ∃ WF, WF = put5 w1 w.heap.size (.int .u8 4) (.int .u32 3) (.int .u8 1) (.slice (some ⟨g, 0, none⟩) 1 1) (.int .i64 0) := ⟨_, rfl⟩
  have HF := put5_same (.int .u8 4) (.int .u32 3) (.int .u8 1) (.slice (some ⟨g, 0, none⟩) 1 1) (.int .i64 0) X1.out
  have BF := put5_below (.int .u8 4) (.int .u32 3) (.int .u8 1) (.slice (some ⟨g, 0, none⟩) 1 1) (.int .i64 0) (Nat.le_refl w.heap.size) B1.out
  have RF : Runs WF (.slice (some ⟨g, 0, none⟩) 1 1) jj.pl := by
    have h : w1.heap.size ≤ WF.heap.size := by rw [hWF]; unfold put5; simp
    refine Sees.stays R1.out h (fun b o hb hv => ?_)
    have hne : b ≠ w.heap.size := by
      intro e
      subst e
      obtain ⟨b', off, e1, _, hc⟩ := Sees.at (j := 0) R1.out (by decide)
      cases e1
      have e2 : g = w.heap.size := by simpa [Value.ownBlock] using hv
      have h0 := hc 0 (by decide)
      rw [e2, Nat.add_zero, cell_of_row _ _ 0 _ _ _ X1.out] at h0
      have h1 : (some (Value.int .u8 0) : Option Value) = some (.int .u32 1) := h0
      cases h1
    refine World.cell?_of_block ?_
    rw [hWF]
    exact (heap_setCell_other _ _ _ _ hne).trans ((heap_setCell_other _ _ _ _ hne).trans ((heap_setCell_other _ _ _ _ hne).trans ((heap_setCell_other _ _ _ _ hne).trans (heap_setCell_other _ _ _ _ hne))))
  rw [← hWF] at HF BF
  unfold put5 at hWF
  rw [← hWF]
  obtain ⟨e0, e1, e2, e3, e4⟩ := cells5 HF
  exact bodyPost_ret (v := .agg #[.int .u8 4, .int .u32 3, .int .u8 1, .slice (some ⟨g, 0, none⟩) 1 1, .int .i64 0]) (by simp [results, Try.results7, go_sem, e0, e1, e2, e3, e4]) rfl ⟨g, rfl, RF, BF⟩

theorem live_two : liveL [m1, m2] = [m2, m1] ∧ chkL [m1, m2] = 0 := by decide +kernel
theorem live_three : liveL [m1, m2, jj] = [m2] ∧ chkL [m1, m2, jj] = 0 := by decide +kernel
theorem rows_12 {w : World} {g1 g2 : Nat} (h1 : Runs w (.slice (some ⟨g1, 0, none⟩) 1 1) m1.pl) (h2 : Runs w (.slice (some ⟨g2, 0, none⟩) 1 1) m2.pl) : opE.rows w [.int .u8 2, .int .u32 1, .int .u8 0, .slice (some ⟨g1, 0, none⟩) 1 1, .int .i64 0, .int .u8 2, .int .u32 2, .int .u8 0, .slice (some ⟨g2, 0, none⟩) 1 1, .int .i64 0] [m1, m2] := ⟨[.int .u8 2, .int .u32 1, .int .u8 0, .slice (some ⟨g1, 0, none⟩) 1 1, .int .i64 0], [.int .u8 2, .int .u32 2, .int .u8 0, .slice (some ⟨g2, 0, none⟩) 1 1, .int .i64 0], rfl, ⟨_, rfl, h1⟩, [.int .u8 2, .int .u32 2, .int .u8 0, .slice (some ⟨g2, 0, none⟩) 1 1, .int .i64 0], [], rfl, ⟨_, rfl, h2⟩, rfl⟩
theorem rows_21 {w : World} {g1 g2 : Nat} (h1 : Runs w (.slice (some ⟨g1, 0, none⟩) 1 1) m1.pl) (h2 : Runs w (.slice (some ⟨g2, 0, none⟩) 1 1) m2.pl) : opE.rows w [.int .u8 2, .int .u32 2, .int .u8 0, .slice (some ⟨g2, 0, none⟩) 1 1, .int .i64 0, .int .u8 2, .int .u32 1, .int .u8 0, .slice (some ⟨g1, 0, none⟩) 1 1, .int .i64 0] [m2, m1] := ⟨[.int .u8 2, .int .u32 2, .int .u8 0, .slice (some ⟨g2, 0, none⟩) 1 1, .int .i64 0], [.int .u8 2, .int .u32 1, .int .u8 0, .slice (some ⟨g1, 0, none⟩) 1 1, .int .i64 0], rfl, ⟨_, rfl, h2⟩, [.int .u8 2, .int .u32 1, .int .u8 0, .slice (some ⟨g1, 0, none⟩) 1 1, .int .i64 0], [], rfl, ⟨_, rfl, h1⟩, rfl⟩
theorem rows_2 {w : World} {g2 : Nat} (h2 : Runs w (.slice (some ⟨g2, 0, none⟩) 1 1) m2.pl) : opE.rows w [.int .u8 2, .int .u32 2, .int .u8 0, .slice (some ⟨g2, 0, none⟩) 1 1, .int .i64 0] [m2] := ⟨[.int .u8 2, .int .u32 2, .int .u8 0, .slice (some ⟨g2, 0, none⟩) 1 1, .int .i64 0], [], rfl, ⟨_, rfl, h2⟩, rfl⟩
theorem rows_12j {w : World} {g1 g2 g3 : Nat} (h1 : Runs w (.slice (some ⟨g1, 0, none⟩) 1 1) m1.pl) (h2 : Runs w (.slice (some ⟨g2, 0, none⟩) 1 1) m2.pl) (h3 : Runs w (.slice (some ⟨g3, 0, none⟩) 1 1) jj.pl) : opE.rows w [.int .u8 2, .int .u32 1, .int .u8 0, .slice (some ⟨g1, 0, none⟩) 1 1, .int .i64 0, .int .u8 2, .int .u32 2, .int .u8 0, .slice (some ⟨g2, 0, none⟩) 1 1, .int .i64 0, .int .u8 4, .int .u32 3, .int .u8 1, .slice (some ⟨g3, 0, none⟩) 1 1, .int .i64 0] [m1, m2, jj] := ⟨[.int .u8 2, .int .u32 1, .int .u8 0, .slice (some ⟨g1, 0, none⟩) 1 1, .int .i64 0], [.int .u8 2, .int .u32 2, .int .u8 0, .slice (some ⟨g2, 0, none⟩) 1 1, .int .i64 0, .int .u8 4, .int .u32 3, .int .u8 1, .slice (some ⟨g3, 0, none⟩) 1 1, .int .i64 0], rfl, ⟨_, rfl, h1⟩, [.int .u8 2, .int .u32 2, .int .u8 0, .slice (some ⟨g2, 0, none⟩) 1 1, .int .i64 0], [.int .u8 4, .int .u32 3, .int .u8 1, .slice (some ⟨g3, 0, none⟩) 1 1, .int .i64 0], rfl, ⟨_, rfl, h2⟩, [.int .u8 4, .int .u32 3, .int .u8 1, .slice (some ⟨g3, 0, none⟩) 1 1, .int .i64 0], [], rfl, ⟨_, rfl, h3⟩, rfl⟩

set_option maxRecDepth 100000 in
set_option maxHeartbeats 8000000 in
theorem alive12_any (w : World) : Calls Try.prog 10 #[] w fun e w' => e = .returned (.bool true) ∧ Below w.heap.size w w' := by
  have L1 : Hid (∀ (W : World) (v : Value), OpL W v [m1, m2] → Calls Try.prog 9 #[v] W (DoneN [m2, m1] 0 W)) := fun W v h => by
    have := mLive_any h
    rwa [live_two.1, live_two.2] at this
  have L2 : Hid (∀ (W : World) (v : Value), OpL W v [m1, m2, jj] → Calls Try.prog 9 #[v] W (DoneN [m2] 0 W)) := fun W v h => by
    have := mLive_any h
    rwa [live_three.1, live_three.2] at this
  have SL : Hid (∀ (W : World) (u v : Value) (l : List Opn), OpL W u l → OpL W v l → Calls Try.prog 19 #[u, v] W fun e w' => e = .returned (.bool true) ∧ Below W.heap.size W w') := fun W u v l h h2 => by
    have := sameL_any h h2
    rwa [decide_eq_true rfl] at this
  have B_0 : Hid (Below w.heap.size w w) := Below.refl _ _
  go_enter Try.func10, Try.ntmps10
  go_wp2_with fail
  refine (mark1_any _).mono ?_
  rintro e w1 ⟨g1, rfl, r1, b1⟩
  have B_1 := Lib.hid (bt B_0.out b1)
  clear B_0
  have M_2 := Lib.hid (r1)
  clear r1 b1
  go_wp2_with fail
  refine (mark2_any _).mono ?_
  rintro e w2 ⟨g2, rfl, r2, b2⟩
  have B_3 := Lib.hid (bt B_1.out b2)
  clear B_1
  have M_4 := Lib.hid (M_2.out.keeps b2)
  clear M_2
  have N_5 := Lib.hid (r2)
  clear r2 b2
  have bo := (Below.refl w2.heap.size w2).alloc (Nat.le_refl _) (.cells [.int .u8 2, .int .u32 1, .int .u8 0, .slice (some ⟨g1, 0, none⟩) 1 1, .int .i64 0, .int .u8 2, .int .u32 2, .int .u8 0, .slice (some ⟨g2, 0, none⟩) 1 1, .int .i64 0].toArray 27)
  have sq := Lib.hid (seq_lit 2 rfl (by omega) (rows_12 M_4.out N_5.out))
  have B_6 := Lib.hid (bt B_3.out bo)
  clear B_3
  have M_7 := Lib.hid (M_4.out.keeps bo)
  clear M_4
  have N_8 := Lib.hid (N_5.out.keeps bo)
  clear N_5
  have S_9 := Lib.hid (sq.out)
  clear bo sq
  go_wp2_with fail
  refine (L1.out _ _ S_9.out).mono ?_
  rintro e w3 ⟨v3, rfl, o3, b3⟩
  have B_10 := Lib.hid (bt B_6.out b3)
  clear B_6
  have M_11 := Lib.hid (M_7.out.keeps b3)
  clear M_7
  have N_12 := Lib.hid (N_8.out.keeps b3)
  clear N_8
  have S_13 := Lib.hid (S_9.out.keeps b3)
  clear S_9
  have A_14 := Lib.hid (o3.opl)
  clear b3 o3
  clear M_11 N_12 S_13
  go_wp2_with fail
  refine (mark1_any _).mono ?_
  rintro e w4 ⟨g4, rfl, r4, b4⟩
  have B_15 := Lib.hid (bt B_10.out b4)
  clear B_10
  have A_16 := Lib.hid (A_14.out.keeps b4)
  clear A_14
  have M_17 := Lib.hid (r4)
  clear r4 b4
  go_wp2_with fail
  refine (mark2_any _).mono ?_
  rintro e w5 ⟨g5, rfl, r5, b5⟩
  have B_18 := Lib.hid (bt B_15.out b5)
  clear B_15
  have A_19 := Lib.hid (A_16.out.keeps b5)
  clear A_16
  have M_20 := Lib.hid (M_17.out.keeps b5)
  clear M_17
  have N_21 := Lib.hid (r5)
  clear r5 b5
  go_wp2_with fail
  refine (join12_any _).mono ?_
  rintro e w6 ⟨g6, rfl, r6, b6⟩
  have B_22 := Lib.hid (bt B_18.out b6)
  clear B_18
  have A_23 := Lib.hid (A_19.out.keeps b6)
  clear A_19
  have M_24 := Lib.hid (M_20.out.keeps b6)
  clear M_20
  have N_25 := Lib.hid (N_21.out.keeps b6)
  clear N_21
  have J_26 := Lib.hid (r6)
  clear r6 b6
  have bo := (Below.refl w6.heap.size w6).alloc (Nat.le_refl _) (.cells [.int .u8 2, .int .u32 1, .int .u8 0, .slice (some ⟨g4, 0, none⟩) 1 1, .int .i64 0, .int .u8 2, .int .u32 2, .int .u8 0, .slice (some ⟨g5, 0, none⟩) 1 1, .int .i64 0, .int .u8 4, .int .u32 3, .int .u8 1, .slice (some ⟨g6, 0, none⟩) 1 1, .int .i64 0].toArray 27)
  have sq := Lib.hid (seq_lit 3 rfl (by omega) (rows_12j M_24.out N_25.out J_26.out))
  have B_27 := Lib.hid (bt B_22.out bo)
  clear B_22
  have A_28 := Lib.hid (A_23.out.keeps bo)
  clear A_23
  have M_29 := Lib.hid (M_24.out.keeps bo)
  clear M_24
  have N_30 := Lib.hid (N_25.out.keeps bo)
  clear N_25
  have J_31 := Lib.hid (J_26.out.keeps bo)
  clear J_26
  have S_32 := Lib.hid (sq.out)
  clear bo sq
  go_wp2_with fail
  refine (L2.out _ _ S_32.out).mono ?_
  rintro e w7 ⟨v7, rfl, o7, b7⟩
  have B_33 := Lib.hid (bt B_27.out b7)
  clear B_27
  have A_34 := Lib.hid (A_28.out.keeps b7)
  clear A_28
  have M_35 := Lib.hid (M_29.out.keeps b7)
  clear M_29
  have N_36 := Lib.hid (N_30.out.keeps b7)
  clear N_30
  have J_37 := Lib.hid (J_31.out.keeps b7)
  clear J_31
  have S_38 := Lib.hid (S_32.out.keeps b7)
  clear S_32
  have Q_39 := Lib.hid (o7.opl)
  clear b7 o7
  clear M_35 N_36 S_38 J_37
  go_wp2_with fail
  refine (mark2_any _).mono ?_
  rintro e w8 ⟨g8, rfl, r8, b8⟩
  have B_40 := Lib.hid (bt B_33.out b8)
  clear B_33
  have A_41 := Lib.hid (A_34.out.keeps b8)
  clear A_34
  have Q_42 := Lib.hid (Q_39.out.keeps b8)
  clear Q_39
  have N_43 := Lib.hid (r8)
  clear r8 b8
  go_wp2_with fail
  refine (mark1_any _).mono ?_
  rintro e w9 ⟨g9, rfl, r9, b9⟩
  have B_44 := Lib.hid (bt B_40.out b9)
  clear B_40
  have A_45 := Lib.hid (A_41.out.keeps b9)
  clear A_41
  have Q_46 := Lib.hid (Q_42.out.keeps b9)
  clear Q_42
  have N_47 := Lib.hid (N_43.out.keeps b9)
  clear N_43
  have M_48 := Lib.hid (r9)
  clear r9 b9
  have bo := (Below.refl w9.heap.size w9).alloc (Nat.le_refl _) (.cells [.int .u8 2, .int .u32 2, .int .u8 0, .slice (some ⟨g8, 0, none⟩) 1 1, .int .i64 0, .int .u8 2, .int .u32 1, .int .u8 0, .slice (some ⟨g9, 0, none⟩) 1 1, .int .i64 0].toArray 27)
  have sq := Lib.hid (seq_lit 2 rfl (by omega) (rows_21 M_48.out N_47.out))
  have B_49 := Lib.hid (bt B_44.out bo)
  clear B_44
  have A_50 := Lib.hid (A_45.out.keeps bo)
  clear A_45
  have Q_51 := Lib.hid (Q_46.out.keeps bo)
  clear Q_46
  have N_52 := Lib.hid (N_47.out.keeps bo)
  clear N_47
  have M_53 := Lib.hid (M_48.out.keeps bo)
  clear M_48
  have S_54 := Lib.hid (sq.out)
  clear bo sq
  go_wp2_with fail
  refine (SL.out _ _ _ _ A_50.out S_54.out).mono ?_
  rintro e w10 ⟨rfl, b10⟩
  have B_55 := Lib.hid (bt B_49.out b10)
  clear B_49
  have A_56 := Lib.hid (A_50.out.keeps b10)
  clear A_50
  have Q_57 := Lib.hid (Q_51.out.keeps b10)
  clear Q_51
  have N_58 := Lib.hid (N_52.out.keeps b10)
  clear N_52
  have M_59 := Lib.hid (M_53.out.keeps b10)
  clear M_53
  have S_60 := Lib.hid (S_54.out.keeps b10)
  clear S_54
  clear b10
  clear M_59 N_58 S_60 A_56
  go_wp2_with fail
  refine (mark2_any _).mono ?_
  rintro e w11 ⟨g11, rfl, r11, b11⟩
  have B_61 := Lib.hid (bt B_55.out b11)
  clear B_55
  have Q_62 := Lib.hid (Q_57.out.keeps b11)
  clear Q_57
  have N_63 := Lib.hid (r11)
  clear r11 b11
  have bo := (Below.refl w11.heap.size w11).alloc (Nat.le_refl _) (.cells [.int .u8 2, .int .u32 2, .int .u8 0, .slice (some ⟨g11, 0, none⟩) 1 1, .int .i64 0].toArray 27)
  have sq := Lib.hid (seq_lit 1 rfl (by omega) (rows_2 N_63.out))
  have B_64 := Lib.hid (bt B_61.out bo)
  clear B_61
  have Q_65 := Lib.hid (Q_62.out.keeps bo)
  clear Q_62
  have N_66 := Lib.hid (N_63.out.keeps bo)
  clear N_63
  have S_67 := Lib.hid (sq.out)
  clear bo sq
  go_wp2_with fail
  refine (SL.out _ _ _ _ Q_65.out S_67.out).mono ?_
  rintro e w12 ⟨rfl, b12⟩
  have B_68 := Lib.hid (bt B_64.out b12)
  clear B_64
  have Q_69 := Lib.hid (Q_65.out.keeps b12)
  clear Q_65
  have N_70 := Lib.hid (N_66.out.keeps b12)
  clear N_66
  have S_71 := Lib.hid (S_67.out.keeps b12)
  clear S_67
  clear b12
  go_wp2
  go_ret
  exact ⟨rfl, B_68.out⟩
end Go.Proofs.Ytpgdnenkjommfaa.Marks

/- octavo/clock: Count, Top, Ids: what each answers. Conditions: the slices' cells are replicas' spans. -/
namespace Go.Proofs.Ytpgdnenkjommfaa.Clocks
open Go.RowKit Go.Proofs.Ytpgdnenkjommfaa.Spans
attribute [local go_sem ↓] Go.wp_at_zero Go.wp_at_succ

set_option maxRecDepth 100000 in
set_option maxHeartbeats 2000000 in
theorem cCount_any {v : Value} {c : List Tm} {w : World} (hv : Tms w v c) :
    Calls Try.prog 12 #[v] w fun e w' => e = .returned (.int .i64 (countC c : Int)) ∧ Below w.heap.size w w' := by
  obtain ⟨ao, cap, rfl⟩ := hv.shape
  obtain ⟨n, hn⟩ : ∃ n, n = c.length := ⟨_, rfl⟩
  have hm : n ≤ 9223372036854775807 := by rw [hn]; exact Tms.max hv
  have M := Lib.hid (cCheck_any hv)
  have HV := Lib.hid hv
  have HN := Lib.hid hn
  unfold countC
  unfold chkC at M
  cases hb : mayC c
  · rw [hb, if_neg (by simp)] at M
    rw [if_neg (by simp)]
    clear hb hv hn
    go_enter Try.func12, Try.ntmps12
    go_wp2_with fail
    refine M.out.mono ?_
    rintro e w1 ⟨rfl, b1⟩
    go_wp2
    go_ret
    exact ⟨rfl, b1⟩
  rw [hb, if_pos rfl] at M
  rw [if_pos rfl]
  have HC := Lib.hid ((mayC_iff c).1 hb)
  obtain ⟨R, hR⟩ : ∃ R, R = manyC c := ⟨_, rfl⟩
  have HR := Lib.hid hR
  rw [← hR]
  rw [← hn] at M ⊢
  clear hb hv hn hR
  go_enter Try.func12, Try.ntmps12
  go_wp2_with fail
  refine M.out.mono ?_
  rintro e w1 ⟨rfl, b1⟩
  have B0 := Lib.hid b1
  clear b1
  go_wp2
  go_loopw [3, 11] (fun s i wr => ∃ k m : Nat, k ≤ n ∧ i = .int .i64 (k : Int) ∧ s = .int .i64 (m : Int) ∧ Hid (m = manyC (c.take k)) ∧ Hid (Below w.heap.size w wr)) (fun _ i _ => n - (intOf i).toNat)
  case atStart => exact ⟨0, 0, by omega, rfl, rfl, Lib.hid rfl, B0⟩
  case round =>
    clear B0
    obtain ⟨k, m, hk, rfl, rfl, hmany, hbel⟩ := hrel
    by_cases hkn : k < n
    · have q1 : decide (k < n) = true := by simpa using hkn
      have q2 : (0 : Int) ≤ (k : Int) := by omega
      have q3 : (k : Int) < (n : Int) := by omega
      have hkl : k < c.length := by rw [← HN.out]; exact hkn
      obtain ⟨b1, o1, u, rfl, hb1, ha0, ha1, -, hsp⟩ := (HV.out.keeps hbel.out).at k hkl
      have hok := up_all HC.out (c.getD k ztm) (tm_mem hkl)
      have hs := tm_take_snoc c k hkl
      have hms := manyC_snoc (c.take k) (c.getD k ztm)
      rw [← hs] at hms
      have hle := manyC_le (up_take HC.out (k + 1))
      obtain ⟨x, hx⟩ : ∃ x, x = c.getD k ztm := ⟨_, rfl⟩
      have hx' : c.getD k (0, []) = x := hx.symm
      rw [hx'] at ha0 hsp
      rw [← hx] at hok hms
      obtain ⟨wo, rfl⟩ : ∃ wo : World, wo = wr := ⟨_, rfl⟩
      have BA : Hid (∀ o : Obj, Below wo.heap.size wo (wo.alloc o)) := fun o => (Below.refl _ _).alloc (Nat.le_refl _) o
      have C : Hid (∀ o : Obj, Calls Try.prog 29 #[u] (wo.alloc o) fun e w' => e = .returned (.int .i64 (many x.2 : Int)) ∧ Below (wo.alloc o).heap.size (wo.alloc o) w') := fun o => by
        have h := pCount_any (hsp.keeps (BA.out o))
        unfold count at h
        rwa [if_pos hok.2.2.2] at h
      obtain ⟨so, sc, rfl⟩ := hsp.shape
      obtain ⟨d, hd⟩ : ∃ d, d = many x.2 := ⟨_, rfl⟩
      rw [← hd] at C hms
      have HM2 : Hid (m + d = manyC (c.take (k + 1))) := by show _ = _; rw [hms, hmany.out]
      have hb2 : m + d ≤ 8589934600 := by rw [HM2.out]; omega
      have e5 : IntKind.i64.wrap ((m : Int) + (d : Int)) = (m : Int) + (d : Int) := IntWalk.i64_in _ (by omega)
      obtain ⟨xr, xs⟩ := x
      simp only at ha0 ha1 C
      obtain ⟨sl, hsl⟩ : ∃ sl, sl = xs.length := ⟨_, rfl⟩
      rw [← hsl] at C ha1
      clear hx hx' hs hms hle hok hsp hd hsl
      go_wp2_with fail
      refine (C.out _).mono ?_
      rintro e w1 ⟨rfl, b1⟩
      have B1 := Lib.hid (bt (bt hbel.out (BA.out _)) b1)
      clear b1
      go_wp2
      go_roundw
      case rel => exact ⟨k + 1, m + d, by omega, by go_num, by go_num, HM2, B1⟩
      case measure => simp [intOf]; omega
    · have q1 : decide (k < n) = false := by simpa using hkn
      have hkk : c.take k = c := List.take_of_length_le (by have := HN.out; omega)
      have hf : m = R := by have := hmany.out; rw [hkk] at this; rw [HR.out]; exact this
      subst hf
      clear hkk
      go_wp2
      go_ret
      exact ⟨rfl, hbel.out⟩

end Go.Proofs.Ytpgdnenkjommfaa.Clocks
