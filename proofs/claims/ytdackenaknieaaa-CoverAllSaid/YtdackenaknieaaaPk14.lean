/- octavolaw14.a, b, m, counts, alive: what each answers. Conditions: none. -/
import Derived.Test.YtdackenaknieaaaPk12
import Derived.Test.YtdackenaknieaaaPk13
import Derived.Test.YtdackenaknieaaaPk06

namespace Go.Proofs.Ytdackenaknieaaa.Covers
open Go.RowKit Go.WideShapes Stamp Go.Proofs.Ytdackenaknieaaa.Place Ops Codes Bags Marks Homes
attribute [local go_sem ↓] Go.wp_at_zero Go.wp_at_succ
attribute [local go_sem] yielded_undef

def oa : Opn := ⟨1, 1, 0, [⟨1, 0, 1, by decide, by decide, by decide⟩], 65, by decide, by decide, by decide, by decide⟩
def ob : Opn := ⟨1, 2, 0, [⟨1, 0, 2, by decide, by decide, by decide⟩], 66, by decide, by decide, by decide, by decide⟩
set_option maxRecDepth 100000 in
theorem fa14_any (w : World) : Calls Try.prog 15 #[] w fun e w' => ∃ g, e = .returned (.agg #[.int .u8 1, .int .u32 1, .int .u8 0, .slice (some ⟨g, 0, none⟩) 1 1, .int .i64 65]) ∧ Runs w' (.slice (some ⟨g, 0, none⟩) 1 1) oa.pl ∧ Below w.heap.size w w' := by
  go_enter Try.func15, Try.ntmps15
  go_wp2_with fail
  refine bodyPost_ret (v := .agg #[.int .u8 1, .int .u32 1, .int .u8 0, .slice (some ⟨w.heap.size + 1, 0, none⟩) 1 1, .int .i64 65]) (by simp [results, Try.results15, go_sem]) rfl ⟨w.heap.size + 1, rfl, ?_, ((Below.refl _ _).alloc (Nat.le_refl _) _).alloc (by simp) _⟩
  have h := runs_new (w.alloc (.cells #[.int .u8 1, .int .u32 1, .int .u8 0, .slice (some ⟨w.heap.size + 1, 0, none⟩) 1 1, .int .i64 65] 35)) oa.pl 1 rfl (by decide) 48 (0, 0)
  rw [show (w.alloc (.cells #[.int .u8 1, .int .u32 1, .int .u8 0, .slice (some ⟨w.heap.size + 1, 0, none⟩) 1 1, .int .i64 65] 35)).heap.size = w.heap.size + 1 by simp] at h
  exact h
set_option maxRecDepth 100000 in
theorem fb14_any (w : World) : Calls Try.prog 13 #[] w fun e w' => ∃ g, e = .returned (.agg #[.int .u8 1, .int .u32 2, .int .u8 0, .slice (some ⟨g, 0, none⟩) 1 1, .int .i64 66]) ∧ Runs w' (.slice (some ⟨g, 0, none⟩) 1 1) ob.pl ∧ Below w.heap.size w w' := by
  go_enter Try.func13, Try.ntmps13
  go_wp2_with fail
  refine bodyPost_ret (v := .agg #[.int .u8 1, .int .u32 2, .int .u8 0, .slice (some ⟨w.heap.size + 1, 0, none⟩) 1 1, .int .i64 66]) (by simp [results, Try.results13, go_sem]) rfl ⟨w.heap.size + 1, rfl, ?_, ((Below.refl _ _).alloc (Nat.le_refl _) _).alloc (by simp) _⟩
  have h := runs_new (w.alloc (.cells #[.int .u8 1, .int .u32 2, .int .u8 0, .slice (some ⟨w.heap.size + 1, 0, none⟩) 1 1, .int .i64 66] 35)) ob.pl 1 rfl (by decide) 48 (0, 0)
  rw [show (w.alloc (.cells #[.int .u8 1, .int .u32 2, .int .u8 0, .slice (some ⟨w.heap.size + 1, 0, none⟩) 1 1, .int .i64 66] 35)).heap.size = w.heap.size + 1 by simp] at h
  exact h
theorem rows_ab {w : World} {g0 g1 : Nat} (h0 : Runs w (.slice (some ⟨g0, 0, none⟩) 1 1) oa.pl) (h1 : Runs w (.slice (some ⟨g1, 0, none⟩) 1 1) ob.pl) : opE.rows w [.int .u8 1, .int .u32 1, .int .u8 0, .slice (some ⟨g0, 0, none⟩) 1 1, .int .i64 65, .int .u8 1, .int .u32 2, .int .u8 0, .slice (some ⟨g1, 0, none⟩) 1 1, .int .i64 66] [oa, ob] := ⟨[.int .u8 1, .int .u32 1, .int .u8 0, .slice (some ⟨g0, 0, none⟩) 1 1, .int .i64 65], [.int .u8 1, .int .u32 2, .int .u8 0, .slice (some ⟨g1, 0, none⟩) 1 1, .int .i64 66], rfl, ⟨_, rfl, h0⟩, ⟨[.int .u8 1, .int .u32 2, .int .u8 0, .slice (some ⟨g1, 0, none⟩) 1 1, .int .i64 66], [], rfl, ⟨_, rfl, h1⟩, rfl⟩⟩
theorem rows_b {w : World} {g0 : Nat} (h0 : Runs w (.slice (some ⟨g0, 0, none⟩) 1 1) ob.pl) : opE.rows w [.int .u8 1, .int .u32 2, .int .u8 0, .slice (some ⟨g0, 0, none⟩) 1 1, .int .i64 66] [ob] := ⟨[.int .u8 1, .int .u32 2, .int .u8 0, .slice (some ⟨g0, 0, none⟩) 1 1, .int .i64 66], [], rfl, ⟨_, rfl, h0⟩, rfl⟩
set_option maxRecDepth 100000 in
set_option maxHeartbeats 4000000 in
theorem counts14_any (s : Id) {v u : Value} {l want : List Opn} {w : World} (hv : OpL w v l) (hu : OpL w u want) (hC : countsL l s = want) (hE : spanE l s = 0) :
    Calls Try.prog 14 #[.agg #[.int .u32 (s.t : Int), .int .u8 (s.r : Int)], v, u] w fun e w' => e = .returned (.bool true) ∧ Below w.heap.size w w' := by
  obtain ⟨wl, hwl⟩ : ∃ x, x = w.alloc (.cells #[.int .u32 (s.t : Int), .int .u8 (s.r : Int)] 32) := ⟨_, rfl⟩
  have B0 : Hid (Below w.heap.size w wl) := by rw [hwl]; exact (Below.refl _ _).alloc (Nat.le_refl _) _
  have Y0 : Hid (wl.heap[w.heap.size]? = some (.cells #[.int .u32 (s.t : Int), .int .u8 (s.r : Int)] 32)) := by rw [hwl]; exact blk_new rfl
  have HW := Lib.hid hwl
  have CC : Hid (Calls Try.prog 9 #[v, .agg #[.int .u32 (s.t : Int), .int .u8 (s.r : Int)]] wl (DoneN want 0 wl)) := by
    have := cCounts_any s (hv.keeps B0.out)
    rwa [hC, hE] at this
  have SL : Hid (∀ (W : World) (y : Value), OpL W y want → Below w.heap.size w W → Calls Try.prog 16 #[y, u] W fun e w' => e = .returned (.bool true) ∧ Below W.heap.size W w') := fun W y h h2 => by
    have := sameL_any h (hu.keeps h2)
    rwa [decide_eq_true rfl] at this
  clear hv hu hC hE hwl
  obtain ⟨ts, rs, hts, hrs⟩ := s
  simp only at Y0 HW CC ⊢
  have d0 := cell_of_row _ _ 0 _ _ _ Y0.out
  have d1 := cell_of_row _ _ 1 _ _ _ Y0.out
  go_enter Try.func14, Try.ntmps14
  go_wp2_with fail
  rw [← HW.out]
  refine CC.out.mono ?_
  rintro e w1 ⟨v1, rfl, o1, b1⟩
  have O1 := Lib.hid o1.opl
  have B1 := Lib.hid (bt B0.out b1)
  clear b1 o1 Y0 B0 HW CC d0 d1
  go_wp2_with fail
  refine (SL.out _ _ O1.out B1.out).mono ?_
  rintro e w2 ⟨rfl, b2⟩
  have B2 := Lib.hid (bt B1.out b2)
  clear b2 B1 O1 SL
  go_wp2
  go_ret
  exact ⟨rfl, B2.out⟩

theorem cv_ab : countsL [oa, ob] zid = [oa, ob] ∧ spanE [oa, ob] zid = 0 := by decide +kernel
theorem cv_b : countsL [ob] zid = [] ∧ homedL [ob] zid = [ob] ∧ spanE [ob] zid = 0 := by decide +kernel
set_option maxRecDepth 100000 in
set_option maxHeartbeats 8000000 in
theorem alive14_any (w : World) : Calls Try.prog 4 #[] w fun e w' => e = .returned (.bool true) ∧ Below w.heap.size w w' := by
  have SL : Hid (∀ (W : World) (u v : Value) (l : List Opn), OpL W u l → OpL W v l → Calls Try.prog 16 #[u, v] W fun e w' => e = .returned (.bool true) ∧ Below W.heap.size W w') := fun W u v l h h2 => by
    have := sameL_any h h2
    rwa [decide_eq_true rfl] at this
  have C1 : Hid (∀ (W : World) (u v : Value), OpL W u [oa, ob] → OpL W v [oa, ob] → Calls Try.prog 14 #[.agg #[.int .u32 0, .int .u8 0], u, v] W fun e w' => e = .returned (.bool true) ∧ Below W.heap.size W w') := fun W u v h h2 => counts14_any zid h h2 cv_ab.1 cv_ab.2
  have C2 : Hid (∀ (W : World) (u v : Value), OpL W u [ob] → OpL W v [] → Calls Try.prog 14 #[.agg #[.int .u32 0, .int .u8 0], u, v] W fun e w' => e = .returned (.bool true) ∧ Below W.heap.size W w') := fun W u v h h2 => counts14_any zid h h2 cv_b.1 cv_b.2.2
  have HH : Hid (∀ (W : World) (v : Value), OpL W v [ob] → Calls Try.prog 8 #[v, .agg #[.int .u32 0, .int .u8 0]] W (DoneN [ob] 0 W)) := fun W v h => by
    have := cHomed_any zid h
    rw [cv_b.2.1, cv_b.2.2] at this
    exact this
  have B_0 : Hid (Below w.heap.size w w) := Below.refl _ _
  go_enter Try.func4, Try.ntmps4
  go_wp2_with fail
  refine (fb14_any _).mono ?_
  rintro e w1 ⟨g1, rfl, r1, b1⟩
  have B_1 := Lib.hid (bt B_0.out b1)
  clear B_0
  have P_2 := Lib.hid (r1)
  clear b1 r1
  have bo := (Below.refl w1.heap.size w1).alloc (Nat.le_refl _) (.cells [.int .u8 1, .int .u32 2, .int .u8 0, .slice (some ⟨g1, 0, none⟩) 1 1, .int .i64 66].toArray 35)
  have sq := Lib.hid (seq_lit 1 rfl (by omega) (rows_b P_2.out))
  clear P_2
  have B_3 := Lib.hid (bt B_1.out bo)
  clear B_1
  have S_4 := Lib.hid (sq.out)
  clear bo sq
  go_wp2_with fail
  refine (HH.out _ _ S_4.out).mono ?_
  rintro e w2 ⟨v2, rfl, o2, b2⟩
  have B_5 := Lib.hid (bt B_3.out b2)
  clear B_3
  have S_6 := Lib.hid (S_4.out.keeps b2)
  clear S_4
  have X_7 := Lib.hid (o2.opl)
  clear b2 o2
  clear S_6
  go_wp2_with fail
  refine (fa14_any _).mono ?_
  rintro e w3 ⟨g3, rfl, r3, b3⟩
  have B_8 := Lib.hid (bt B_5.out b3)
  clear B_5
  have X_9 := Lib.hid (X_7.out.keeps b3)
  clear X_7
  have P_10 := Lib.hid (r3)
  clear b3 r3
  go_wp2_with fail
  refine (fb14_any _).mono ?_
  rintro e w4 ⟨g4, rfl, r4, b4⟩
  have B_11 := Lib.hid (bt B_8.out b4)
  clear B_8
  have X_12 := Lib.hid (X_9.out.keeps b4)
  clear X_9
  have P_13 := Lib.hid (P_10.out.keeps b4)
  clear P_10
  have Q_14 := Lib.hid (r4)
  clear b4 r4
  have bo := (Below.refl w4.heap.size w4).alloc (Nat.le_refl _) (.cells [.int .u8 1, .int .u32 1, .int .u8 0, .slice (some ⟨g3, 0, none⟩) 1 1, .int .i64 65, .int .u8 1, .int .u32 2, .int .u8 0, .slice (some ⟨g4, 0, none⟩) 1 1, .int .i64 66].toArray 35)
  have sq := Lib.hid (seq_lit 2 rfl (by omega) (rows_ab P_13.out Q_14.out))
  clear P_13 Q_14
  have B_15 := Lib.hid (bt B_11.out bo)
  clear B_11
  have X_16 := Lib.hid (X_12.out.keeps bo)
  clear X_12
  have S_17 := Lib.hid (sq.out)
  clear bo sq
  go_wp2_with fail
  refine (fa14_any _).mono ?_
  rintro e w5 ⟨g5, rfl, r5, b5⟩
  have B_18 := Lib.hid (bt B_15.out b5)
  clear B_15
  have X_19 := Lib.hid (X_16.out.keeps b5)
  clear X_16
  have S_20 := Lib.hid (S_17.out.keeps b5)
  clear S_17
  have P_21 := Lib.hid (r5)
  clear b5 r5
  go_wp2_with fail
  refine (fb14_any _).mono ?_
  rintro e w6 ⟨g6, rfl, r6, b6⟩
  have B_22 := Lib.hid (bt B_18.out b6)
  clear B_18
  have X_23 := Lib.hid (X_19.out.keeps b6)
  clear X_19
  have S_24 := Lib.hid (S_20.out.keeps b6)
  clear S_20
  have P_25 := Lib.hid (P_21.out.keeps b6)
  clear P_21
  have Q_26 := Lib.hid (r6)
  clear b6 r6
  have bo := (Below.refl w6.heap.size w6).alloc (Nat.le_refl _) (.cells [.int .u8 1, .int .u32 1, .int .u8 0, .slice (some ⟨g5, 0, none⟩) 1 1, .int .i64 65, .int .u8 1, .int .u32 2, .int .u8 0, .slice (some ⟨g6, 0, none⟩) 1 1, .int .i64 66].toArray 35)
  have sq := Lib.hid (seq_lit 2 rfl (by omega) (rows_ab P_25.out Q_26.out))
  clear P_25 Q_26
  have B_27 := Lib.hid (bt B_22.out bo)
  clear B_22
  have X_28 := Lib.hid (X_23.out.keeps bo)
  clear X_23
  have S_29 := Lib.hid (S_24.out.keeps bo)
  clear S_24
  have T_30 := Lib.hid (sq.out)
  clear bo sq
  go_wp2_with fail
  refine (C1.out _ _ _ S_29.out T_30.out).mono ?_
  rintro e w7 ⟨rfl, b7⟩
  have B_31 := Lib.hid (bt B_27.out b7)
  clear B_27
  have X_32 := Lib.hid (X_28.out.keeps b7)
  clear X_28
  have S_33 := Lib.hid (S_29.out.keeps b7)
  clear S_29
  have T_34 := Lib.hid (T_30.out.keeps b7)
  clear T_30
  clear b7
  clear S_33 T_34
  go_wp2_with fail
  refine (fb14_any _).mono ?_
  rintro e w8 ⟨g8, rfl, r8, b8⟩
  have B_35 := Lib.hid (bt B_31.out b8)
  clear B_31
  have X_36 := Lib.hid (X_32.out.keeps b8)
  clear X_32
  have P_37 := Lib.hid (r8)
  clear b8 r8
  have bo := (Below.refl w8.heap.size w8).alloc (Nat.le_refl _) (.cells [.int .u8 1, .int .u32 2, .int .u8 0, .slice (some ⟨g8, 0, none⟩) 1 1, .int .i64 66].toArray 35)
  have sq := Lib.hid (seq_lit 1 rfl (by omega) (rows_b P_37.out))
  clear P_37
  have B_38 := Lib.hid (bt B_35.out bo)
  clear B_35
  have X_39 := Lib.hid (X_36.out.keeps bo)
  clear X_36
  have S_40 := Lib.hid (sq.out)
  clear bo sq
  go_wp2_with fail
  refine (C2.out _ _ _ S_40.out (Seq.nil _ _)).mono ?_
  rintro e w9 ⟨rfl, b9⟩
  have B_41 := Lib.hid (bt B_38.out b9)
  clear B_38
  have X_42 := Lib.hid (X_39.out.keeps b9)
  clear X_39
  have S_43 := Lib.hid (S_40.out.keeps b9)
  clear S_40
  clear b9
  clear S_43
  go_wp2_with fail
  refine (fb14_any _).mono ?_
  rintro e w10 ⟨g10, rfl, r10, b10⟩
  have B_44 := Lib.hid (bt B_41.out b10)
  clear B_41
  have X_45 := Lib.hid (X_42.out.keeps b10)
  clear X_42
  have P_46 := Lib.hid (r10)
  clear b10 r10
  have bo := (Below.refl w10.heap.size w10).alloc (Nat.le_refl _) (.cells [.int .u8 1, .int .u32 2, .int .u8 0, .slice (some ⟨g10, 0, none⟩) 1 1, .int .i64 66].toArray 35)
  have sq := Lib.hid (seq_lit 1 rfl (by omega) (rows_b P_46.out))
  clear P_46
  have B_47 := Lib.hid (bt B_44.out bo)
  clear B_44
  have X_48 := Lib.hid (X_45.out.keeps bo)
  clear X_45
  have S_49 := Lib.hid (sq.out)
  clear bo sq
  go_wp2_with fail
  refine (SL.out _ _ _ _ X_48.out S_49.out).mono ?_
  rintro e w11 ⟨rfl, b11⟩
  have B_50 := Lib.hid (bt B_47.out b11)
  clear B_47
  have X_51 := Lib.hid (X_48.out.keeps b11)
  clear X_48
  have S_52 := Lib.hid (S_49.out.keeps b11)
  clear S_49
  clear b11
  clear X_51 S_52
  go_wp2
  go_ret
  exact ⟨rfl, B_50.out⟩
end Go.Proofs.Ytdackenaknieaaa.Covers
