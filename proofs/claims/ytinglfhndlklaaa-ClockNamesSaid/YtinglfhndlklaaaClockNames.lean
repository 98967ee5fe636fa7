/- The law ClockNames: its walk. Conditions: none. -/
import Derived.Test.YtinglfhndlklaaaClockAlive
import Derived.Test.YtinglfhndlklaaaClockCode7
import Derived.Laws.MakeOwn
namespace Go.Proofs.Ytinglfhndlklaaa.Clocks
open Go.RowKit Go.Proofs.Ytinglfhndlklaaa.Spans Go.Proofs.Ytinglfhndlklaaa.Srt
attribute [local go_sem ↓] Go.wp_at_zero Go.wp_at_succ

theorem top_lit {c : List Tm} {k : Int} (h : (topCC c : Int) = k) (W : World) (v : Value) (hv : Tms W v c) : Calls Try.prog 18 #[v] W fun e w' => e = .returned (.int .u32 k) ∧ Below W.heap.size W w' := by
  rw [← h]; exact cTop_any hv
theorem count_lit {c : List Tm} {k : Int} (h : (countC c : Int) = k) (W : World) (v : Value) (hv : Tms W v c) : Calls Try.prog 19 #[v] W fun e w' => e = .returned (.int .i64 k) ∧ Below W.heap.size W w' := by
  rw [← h]; exact cCount_any hv
theorem check_lit {c : List Tm} {k : Int} (h : chkC c = k) (W : World) (v : Value) (hv : Tms W v c) : Calls Try.prog 20 #[v] W fun e w' => e = .returned (.int .i64 k) ∧ Below W.heap.size W w' := cCheck_is hv h
theorem ids_lit {c : List Tm} {L : List Id} {x : Int} (h : idsCC c = (L, x)) (W : World) (v : Value) (hv : Tms W v c) : Calls Try.prog 15 #[v] W (DoneI L x W) := by
  have := cIds_any hv
  rw [h] at this
  exact this
theorem of_many {ao : Option Addr} {n cap : Nat} {w : World} (hbig : 1024 < n) (hm : n ≤ 1000000) : Calls Try.prog 16 #[.slice ao n cap] w (DoneC [] 4 w) := by
  have t1 : decide ((1024 : Int) < (n : Int)) = true := decide_eq_true (by omega)
  have t2 : decide (1024 < n) = true := decide_eq_true hbig
  go_enter Try.func16, Try.ntmps16
  go_wp2
  go_ret2
  exact ⟨_, rfl, OwnC.nil _ _, Below.refl _ _⟩
theorem made_ids : ∃ Z : Array Value, ∀ w : World, (Instr.makeSlice 36 (.int .i64 1025) (.int .i64 1025)).run Try.prog w = .ok (.slice (some ⟨w.heap.size, 0, none⟩) 1025 1025) (w.alloc (.cells Z 34)) := by
  obtain ⟨i, hi, hz0, hz1, hz2⟩ := info_parts id_info
  refine ⟨madeCells (Value.agg #[.int .u32 0, .int .u8 0]).cells ((1025 : Int).toNat * i.size), fun w => ?_⟩
  exact run_makeSlice w 36 34 i _ Try.underlying36 hi hz0 .i64 .i64 1025 1025 (by decide) (by decide) (by rw [hz1]; decide) (by rw [hz2]; decide) (by decide)
set_option maxRecDepth 100000 in
theorem of_nil {r : Nat} {rI : Int} (e1 : rI = r) (w : World) :
    Calls Try.prog 10 #[.int .u8 rI, .slice none 0 0] w fun e w' => e = .returned (.agg #[.int .u8 rI, .slice none 0 0]) ∧ Below w.heap.size w w' := by
  subst e1
  obtain ⟨X, hX⟩ : ∃ X, X = (w.alloc (.cells #[.int .u8 0, .slice none 0 0] 28)).alloc (.cells #[.int .u8 (r : Int), .slice none 0 0] 28) := ⟨_, rfl⟩
  have B0 : Hid (Below w.heap.size w X ∧ X.heap[w.heap.size]? = some (.cells #[.int .u8 0, .slice none 0 0] 28) ∧ X.heap[w.heap.size + 1]? = some (.cells #[.int .u8 (r : Int), .slice none 0 0] 28)) := by
    rw [hX]
    exact ⟨((Below.refl w.heap.size w).alloc (Nat.le_refl _) _).alloc (by simp) _, blk_old (kb_new rfl), kb_new (by simp)⟩
  go_enter Try.func10, Try.ntmps10
  go_wp2
  rw [← hX]
  go_loopw [6] (fun i wr => i = .int .i64 0 ∧ wr = X) (fun i _ => 0)
  case atStart => exact ⟨rfl, rfl⟩
  case round =>
    obtain ⟨rfl, rfl⟩ := hrel
    clear hX
    obtain ⟨wo, rfl⟩ : ∃ wo : World, wo = wr := ⟨_, rfl⟩
    obtain ⟨hbel, hb0, hb1⟩ := B0.out
    have z0 := cell_of_row wo (w.heap.size + 1) 0 _ _ _ hb1
    have z1 := cell_of_row wo (w.heap.size + 1) 1 _ _ _ hb1
    have y0 := cell_of_row wo w.heap.size 0 _ _ _ hb0
    have y1 := cell_of_row wo w.heap.size 1 _ _ _ hb0
    have x0 := frozen_of_row wo w.heap.size 0 _ _ hb0
    have x1 := frozen_of_row wo w.heap.size 1 _ _ hb0
    have BW := Lib.hid ((hbel.setCell (p := ⟨w.heap.size, 0, none⟩) (Nat.le_refl _) (.int .u8 (r : Int))).setCell (p := ⟨w.heap.size, 1, none⟩) (Nat.le_refl _) (.slice none 0 0))
    have u0 := heap_setCell_same wo w.heap.size 0 _ _ (.int .u8 (r : Int)) hb0
    have u1 := heap_setCell_same _ w.heap.size 1 _ _ (.slice none 0 0) u0
    have t0 := cell_of_row _ w.heap.size 0 _ _ _ u1
    have t1 := cell_of_row _ w.heap.size 1 _ _ _ u1
    have HZ := Lib.hid (And.intro t0 t1)
    clear hb0 hb1 hbel u0 u1 t0 t1
    go_wp2
    have t0 := HZ.out.1
    have t1 := HZ.out.2
    refine bodyPost_ret (v := .agg #[.int .u8 (r : Int), .slice none 0 0]) (by simp [results, Try.results10, go_sem, t0, t1]) rfl ⟨rfl, BW.out⟩

set_option maxRecDepth 100000 in
set_option maxHeartbeats 16000000 in
theorem names08_walk (w : World) : Calls Try.prog 3 #[] w fun e w' => e = .returned (.bool true) ∧ Below w.heap.size w w' := by
  have Q0 := Lib.hid (of_lit (r := 0) (f := 1) (t := 2) (by decide) (by decide) (by decide) (rI := 0) (fI := 1) (tI := 2) rfl rfl rfl)
  have Q1 := Lib.hid (of_lit (r := 0) (f := 3) (t := 3) (by decide) (by decide) (by decide) (rI := 0) (fI := 3) (tI := 3) rfl rfl rfl)
  have Q2 := Lib.hid (of_lit (r := 2) (f := 7) (t := 7) (by decide) (by decide) (by decide) (rI := 2) (fI := 7) (tI := 7) rfl rfl rfl)
  have Q3 := Lib.hid (join_lit (c := [(0, [mk 1 2])]) (d := [(0, [mk 3 3]), (2, [mk 7 7])]) (L := [(0, [mk 1 3]), (2, [mk 7 7])]) (x := 0) (few_two (by decide) (by decide)) (by kernel_rfl))
  have Q4 := Lib.hid (of_lit (r := 0) (f := 1) (t := 9) (by decide) (by decide) (by decide) (rI := 0) (fI := 1) (tI := 9) rfl rfl rfl)
  have Q5 := Lib.hid (of_lit (r := 1) (f := 1) (t := 1) (by decide) (by decide) (by decide) (rI := 1) (fI := 1) (tI := 1) rfl rfl rfl)
  have Q6 := Lib.hid (of_lit (r := 0) (f := 2) (t := 9) (by decide) (by decide) (by decide) (rI := 0) (fI := 2) (tI := 9) rfl rfl rfl)
  have Q7 := Lib.hid (of_lit (r := 1) (f := 1) (t := 5) (by decide) (by decide) (by decide) (rI := 1) (fI := 1) (tI := 5) rfl rfl rfl)
  have Q8 := Lib.hid (less_lit (c := [(0, [mk 1 9]), (1, [mk 1 1])]) (d := [(0, [mk 2 9]), (1, [mk 1 5])]) (L := [(0, [mk 1 1])]) (x := 0) (few_two (by decide) (by decide)) (by kernel_rfl))
  have Q9 := Lib.hid (of_lit (r := 0) (f := 1) (t := 3) (by decide) (by decide) (by decide) (rI := 0) (fI := 1) (tI := 3) rfl rfl rfl)
  have Q10 := Lib.hid (rsame_lit (c := [(0, [mk 1 3]), (2, [mk 7 7])]) (d := [(0, [mk 1 3]), (2, [mk 7 7])]) (b := true) (by kernel_rfl))
  have Q11 := Lib.hid (of_lit (r := 0) (f := 1) (t := 1) (by decide) (by decide) (by decide) (rI := 0) (fI := 1) (tI := 1) rfl rfl rfl)
  have Q12 := Lib.hid (rsame_lit (c := [(0, [mk 1 1])]) (d := [(0, [mk 1 1])]) (b := true) (by kernel_rfl))
  have Q13 := Lib.hid (by_lit (t := 0) (r := 0) (tI := 0) (rI := 0) rfl rfl)
  have Q14 := Lib.hid (add_lit (c := []) (L := []) (x := 8) (a := ⟨0, 0, by decide, by decide⟩) (few_add (by decide) _) (by kernel_rfl))
  have Q15 := Lib.hid (of_lit (r := 0) (f := 1) (t := 1025) (by decide) (by decide) (by decide) (rI := 0) (fI := 1) (tI := 1025) rfl rfl rfl)
  have Q16 := Lib.hid (ids_lit (c := [(0, [mk 1 1025])]) (L := []) (x := 4) (by kernel_rfl))
  have Q17 := Lib.hid (of_lit (r := 0) (f := 9) (t := 9) (by decide) (by decide) (by decide) (rI := 0) (fI := 9) (tI := 9) rfl rfl rfl)
  have Q18 := Lib.hid (of_lit (r := 1) (f := 3) (t := 4) (by decide) (by decide) (by decide) (rI := 1) (fI := 3) (tI := 4) rfl rfl rfl)
  have Q19 := Lib.hid (top_lit (c := [(0, [mk 9 9]), (1, [mk 3 4])]) (k := 9) (by kernel_rfl))
  have Q20 := Lib.hid (count_lit (c := [(0, [mk 9 9]), (1, [mk 3 4])]) (k := 3) (by kernel_rfl))
  have Q21 := Lib.hid (of_lit (r := 1) (f := 3) (t := 5) (by decide) (by decide) (by decide) (rI := 1) (fI := 3) (tI := 5) rfl rfl rfl)
  have Q22 := Lib.hid (check_lit (c := [(1, [mk 3 5]), (0, [mk 1 1])]) (k := 8) (by kernel_rfl))
  have Q23 := Lib.hid (of_nil (r := 1) (rI := 1) rfl)
  have Q24 := Lib.hid (check_lit (c := [(1, [])]) (k := 8) (by kernel_rfl))
  have Q25 := Lib.hid (of_lit (r := 8) (f := 1) (t := 1) (by decide) (by decide) (by decide) (rI := 8) (fI := 1) (tI := 1) rfl rfl rfl)
  have Q26 := Lib.hid (check_lit (c := [(8, [mk 1 1])]) (k := 8) (by kernel_rfl))
  obtain ⟨Z, hZ⟩ := made_ids
  have AL := Lib.hid alive08_any
  go_enter Try.func3, Try.ntmps3
  have B1 : Hid (Below w.heap.size w (w.alloc (.cells #[.int .u32 1, .int .u32 2] 30))) := (Below.refl _ _).alloc (Nat.le_refl _) _
  have K2 : Hid ((w.alloc (.cells #[.int .u32 1, .int .u32 2] 30)).heap[w.heap.size]? = some (.cells #[.int .u32 1, .int .u32 2] 30)) := kb_new rfl
  go_wp2_with fail
  refine (Q0.out _ _ K2.out).mono ?_
  rintro e w1 ⟨so3, sc4, rfl, f5, b6⟩
  clear K2
  have B7 := Lib.hid (bt B1.out b6)
  clear B1
  clear b6
  have F8 := Lib.hid f5
  clear f5
  have F9 := Lib.hid (F8.out.keeps ((Below.refl w1.heap.size w1).alloc (Nat.le_refl _) (.cells #[.int .u8 0, .slice so3 1 sc4] 28)))
  clear F8
  have B10 := Lib.hid (bt B7.out ((Below.refl w1.heap.size w1).alloc (Nat.le_refl _) (.cells #[.int .u8 0, .slice so3 1 sc4] 28)))
  clear B7
  have K11 : Hid ((w1.alloc (.cells #[.int .u8 0, .slice so3 1 sc4] 28)).heap[w1.heap.size]? = some (.cells #[.int .u8 0, .slice so3 1 sc4] 28)) := kb_new rfl
  have F12 := Lib.hid (tms_new1 (by decide) rfl K11.out F9.out)
  clear K11
  clear F9
  have F13 := Lib.hid (F12.out.keeps ((Below.refl (w1.alloc (.cells #[.int .u8 0, .slice so3 1 sc4] 28)).heap.size (w1.alloc (.cells #[.int .u8 0, .slice so3 1 sc4] 28))).alloc (Nat.le_refl _) (.cells #[.int .u32 3, .int .u32 3] 30)))
  clear F12
  have B14 := Lib.hid (bt B10.out ((Below.refl (w1.alloc (.cells #[.int .u8 0, .slice so3 1 sc4] 28)).heap.size (w1.alloc (.cells #[.int .u8 0, .slice so3 1 sc4] 28))).alloc (Nat.le_refl _) (.cells #[.int .u32 3, .int .u32 3] 30)))
  clear B10
  have K15 : Hid (((w1.alloc (.cells #[.int .u8 0, .slice so3 1 sc4] 28)).alloc (.cells #[.int .u32 3, .int .u32 3] 30)).heap[w1.heap.size + 1]? = some (.cells #[.int .u32 3, .int .u32 3] 30)) := kb_new (by simp)
  go_wp2_with fail
  refine (Q1.out _ _ K15.out).mono ?_
  rintro e w2 ⟨so16, sc17, rfl, f18, b19⟩
  clear K15
  have F20 := Lib.hid (F13.out.keeps (b19))
  clear F13
  have B21 := Lib.hid (bt B14.out b19)
  clear B14
  clear b19
  have F22 := Lib.hid f18
  clear f18
  have F23 := Lib.hid (F20.out.keeps ((Below.refl w2.heap.size w2).alloc (Nat.le_refl _) (.cells #[.int .u32 7, .int .u32 7] 30)))
  clear F20
  have F24 := Lib.hid (F22.out.keeps ((Below.refl w2.heap.size w2).alloc (Nat.le_refl _) (.cells #[.int .u32 7, .int .u32 7] 30)))
  clear F22
  have B25 := Lib.hid (bt B21.out ((Below.refl w2.heap.size w2).alloc (Nat.le_refl _) (.cells #[.int .u32 7, .int .u32 7] 30)))
  clear B21
  have K26 : Hid ((w2.alloc (.cells #[.int .u32 7, .int .u32 7] 30)).heap[w2.heap.size]? = some (.cells #[.int .u32 7, .int .u32 7] 30)) := kb_new rfl
  go_wp2_with fail
  refine (Q2.out _ _ K26.out).mono ?_
  rintro e w3 ⟨so27, sc28, rfl, f29, b30⟩
  clear K26
  have F31 := Lib.hid (F23.out.keeps (b30))
  clear F23
  have F32 := Lib.hid (F24.out.keeps (b30))
  clear F24
  have B33 := Lib.hid (bt B25.out b30)
  clear B25
  clear b30
  have F34 := Lib.hid f29
  clear f29
  have F35 := Lib.hid (F31.out.keeps ((Below.refl w3.heap.size w3).alloc (Nat.le_refl _) (.cells #[.int .u8 0, .slice so16 1 sc17, .int .u8 2, .slice so27 1 sc28] 28)))
  clear F31
  have F36 := Lib.hid (F32.out.keeps ((Below.refl w3.heap.size w3).alloc (Nat.le_refl _) (.cells #[.int .u8 0, .slice so16 1 sc17, .int .u8 2, .slice so27 1 sc28] 28)))
  clear F32
  have F37 := Lib.hid (F34.out.keeps ((Below.refl w3.heap.size w3).alloc (Nat.le_refl _) (.cells #[.int .u8 0, .slice so16 1 sc17, .int .u8 2, .slice so27 1 sc28] 28)))
  clear F34
  have B38 := Lib.hid (bt B33.out ((Below.refl w3.heap.size w3).alloc (Nat.le_refl _) (.cells #[.int .u8 0, .slice so16 1 sc17, .int .u8 2, .slice so27 1 sc28] 28)))
  clear B33
  have K39 : Hid ((w3.alloc (.cells #[.int .u8 0, .slice so16 1 sc17, .int .u8 2, .slice so27 1 sc28] 28)).heap[w3.heap.size]? = some (.cells #[.int .u8 0, .slice so16 1 sc17, .int .u8 2, .slice so27 1 sc28] 28)) := kb_new rfl
  have F40 := Lib.hid (tms_new2 (by decide) rfl (by decide) rfl K39.out F36.out F37.out)
  clear K39
  clear F36
  clear F37
  go_wp2_with fail
  refine (Q3.out _ _ _ F35.out F40.out).mono ?_
  rintro e w4 ⟨v41, rfl, o43, b44⟩
  have F45 := Lib.hid (F35.out.keeps (b44))
  clear F35
  have F46 := Lib.hid (F40.out.keeps (b44))
  clear F40
  have B47 := Lib.hid (bt B38.out b44)
  clear B38
  clear b44
  have F50 := Lib.hid o43.tms
  obtain ⟨so48, sc49, rfl⟩ := o43.tms.shape
  clear o43
  clear F45
  clear F46
  have F51 := Lib.hid (F50.out.keeps ((Below.refl w4.heap.size w4).alloc (Nat.le_refl _) (.cells #[.int .u32 1, .int .u32 9] 30)))
  clear F50
  have B52 := Lib.hid (bt B47.out ((Below.refl w4.heap.size w4).alloc (Nat.le_refl _) (.cells #[.int .u32 1, .int .u32 9] 30)))
  clear B47
  have K53 : Hid ((w4.alloc (.cells #[.int .u32 1, .int .u32 9] 30)).heap[w4.heap.size]? = some (.cells #[.int .u32 1, .int .u32 9] 30)) := kb_new rfl
  go_wp2_with fail
  refine (Q4.out _ _ K53.out).mono ?_
  rintro e w5 ⟨so54, sc55, rfl, f56, b57⟩
  clear K53
  have F58 := Lib.hid (F51.out.keeps (b57))
  clear F51
  have B59 := Lib.hid (bt B52.out b57)
  clear B52
  clear b57
  have F60 := Lib.hid f56
  clear f56
  have F61 := Lib.hid (F58.out.keeps ((Below.refl w5.heap.size w5).alloc (Nat.le_refl _) (.cells #[.int .u32 1, .int .u32 1] 30)))
  clear F58
  have F62 := Lib.hid (F60.out.keeps ((Below.refl w5.heap.size w5).alloc (Nat.le_refl _) (.cells #[.int .u32 1, .int .u32 1] 30)))
  clear F60
  have B63 := Lib.hid (bt B59.out ((Below.refl w5.heap.size w5).alloc (Nat.le_refl _) (.cells #[.int .u32 1, .int .u32 1] 30)))
  clear B59
  have K64 : Hid ((w5.alloc (.cells #[.int .u32 1, .int .u32 1] 30)).heap[w5.heap.size]? = some (.cells #[.int .u32 1, .int .u32 1] 30)) := kb_new rfl
  go_wp2_with fail
  refine (Q5.out _ _ K64.out).mono ?_
  rintro e w6 ⟨so65, sc66, rfl, f67, b68⟩
  clear K64
  have F69 := Lib.hid (F61.out.keeps (b68))
  clear F61
  have F70 := Lib.hid (F62.out.keeps (b68))
  clear F62
  have B71 := Lib.hid (bt B63.out b68)
  clear B63
  clear b68
  have F72 := Lib.hid f67
  clear f67
  have F73 := Lib.hid (F69.out.keeps ((Below.refl w6.heap.size w6).alloc (Nat.le_refl _) (.cells #[.int .u8 0, .slice so54 1 sc55, .int .u8 1, .slice so65 1 sc66] 28)))
  clear F69
  have F74 := Lib.hid (F70.out.keeps ((Below.refl w6.heap.size w6).alloc (Nat.le_refl _) (.cells #[.int .u8 0, .slice so54 1 sc55, .int .u8 1, .slice so65 1 sc66] 28)))
  clear F70
  have F75 := Lib.hid (F72.out.keeps ((Below.refl w6.heap.size w6).alloc (Nat.le_refl _) (.cells #[.int .u8 0, .slice so54 1 sc55, .int .u8 1, .slice so65 1 sc66] 28)))
  clear F72
  have B76 := Lib.hid (bt B71.out ((Below.refl w6.heap.size w6).alloc (Nat.le_refl _) (.cells #[.int .u8 0, .slice so54 1 sc55, .int .u8 1, .slice so65 1 sc66] 28)))
  clear B71
  have K77 : Hid ((w6.alloc (.cells #[.int .u8 0, .slice so54 1 sc55, .int .u8 1, .slice so65 1 sc66] 28)).heap[w6.heap.size]? = some (.cells #[.int .u8 0, .slice so54 1 sc55, .int .u8 1, .slice so65 1 sc66] 28)) := kb_new rfl
  have F78 := Lib.hid (tms_new2 (by decide) rfl (by decide) rfl K77.out F74.out F75.out)
  clear K77
  clear F74
  clear F75
  have F79 := Lib.hid (F73.out.keeps ((Below.refl (w6.alloc (.cells #[.int .u8 0, .slice so54 1 sc55, .int .u8 1, .slice so65 1 sc66] 28)).heap.size (w6.alloc (.cells #[.int .u8 0, .slice so54 1 sc55, .int .u8 1, .slice so65 1 sc66] 28))).alloc (Nat.le_refl _) (.cells #[.int .u32 2, .int .u32 9] 30)))
  clear F73
  have F80 := Lib.hid (F78.out.keeps ((Below.refl (w6.alloc (.cells #[.int .u8 0, .slice so54 1 sc55, .int .u8 1, .slice so65 1 sc66] 28)).heap.size (w6.alloc (.cells #[.int .u8 0, .slice so54 1 sc55, .int .u8 1, .slice so65 1 sc66] 28))).alloc (Nat.le_refl _) (.cells #[.int .u32 2, .int .u32 9] 30)))
  clear F78
  have B81 := Lib.hid (bt B76.out ((Below.refl (w6.alloc (.cells #[.int .u8 0, .slice so54 1 sc55, .int .u8 1, .slice so65 1 sc66] 28)).heap.size (w6.alloc (.cells #[.int .u8 0, .slice so54 1 sc55, .int .u8 1, .slice so65 1 sc66] 28))).alloc (Nat.le_refl _) (.cells #[.int .u32 2, .int .u32 9] 30)))
  clear B76
  have K82 : Hid (((w6.alloc (.cells #[.int .u8 0, .slice so54 1 sc55, .int .u8 1, .slice so65 1 sc66] 28)).alloc (.cells #[.int .u32 2, .int .u32 9] 30)).heap[w6.heap.size + 1]? = some (.cells #[.int .u32 2, .int .u32 9] 30)) := kb_new (by simp)
  go_wp2_with fail
  refine (Q6.out _ _ K82.out).mono ?_
  rintro e w7 ⟨so83, sc84, rfl, f85, b86⟩
  clear K82
  have F87 := Lib.hid (F79.out.keeps (b86))
  clear F79
  have F88 := Lib.hid (F80.out.keeps (b86))
  clear F80
  have B89 := Lib.hid (bt B81.out b86)
  clear B81
  clear b86
  have F90 := Lib.hid f85
  clear f85
  have F91 := Lib.hid (F87.out.keeps ((Below.refl w7.heap.size w7).alloc (Nat.le_refl _) (.cells #[.int .u32 1, .int .u32 5] 30)))
  clear F87
  have F92 := Lib.hid (F88.out.keeps ((Below.refl w7.heap.size w7).alloc (Nat.le_refl _) (.cells #[.int .u32 1, .int .u32 5] 30)))
  clear F88
  have F93 := Lib.hid (F90.out.keeps ((Below.refl w7.heap.size w7).alloc (Nat.le_refl _) (.cells #[.int .u32 1, .int .u32 5] 30)))
  clear F90
  have B94 := Lib.hid (bt B89.out ((Below.refl w7.heap.size w7).alloc (Nat.le_refl _) (.cells #[.int .u32 1, .int .u32 5] 30)))
  clear B89
  have K95 : Hid ((w7.alloc (.cells #[.int .u32 1, .int .u32 5] 30)).heap[w7.heap.size]? = some (.cells #[.int .u32 1, .int .u32 5] 30)) := kb_new rfl
  go_wp2_with fail
  refine (Q7.out _ _ K95.out).mono ?_
  rintro e w8 ⟨so96, sc97, rfl, f98, b99⟩
  clear K95
  have F100 := Lib.hid (F91.out.keeps (b99))
  clear F91
  have F101 := Lib.hid (F92.out.keeps (b99))
  clear F92
  have F102 := Lib.hid (F93.out.keeps (b99))
  clear F93
  have B103 := Lib.hid (bt B94.out b99)
  clear B94
  clear b99
  have F104 := Lib.hid f98
  clear f98
  have F105 := Lib.hid (F100.out.keeps ((Below.refl w8.heap.size w8).alloc (Nat.le_refl _) (.cells #[.int .u8 0, .slice so83 1 sc84, .int .u8 1, .slice so96 1 sc97] 28)))
  clear F100
  have F106 := Lib.hid (F101.out.keeps ((Below.refl w8.heap.size w8).alloc (Nat.le_refl _) (.cells #[.int .u8 0, .slice so83 1 sc84, .int .u8 1, .slice so96 1 sc97] 28)))
  clear F101
  have F107 := Lib.hid (F102.out.keeps ((Below.refl w8.heap.size w8).alloc (Nat.le_refl _) (.cells #[.int .u8 0, .slice so83 1 sc84, .int .u8 1, .slice so96 1 sc97] 28)))
  clear F102
  have F108 := Lib.hid (F104.out.keeps ((Below.refl w8.heap.size w8).alloc (Nat.le_refl _) (.cells #[.int .u8 0, .slice so83 1 sc84, .int .u8 1, .slice so96 1 sc97] 28)))
  clear F104
  have B109 := Lib.hid (bt B103.out ((Below.refl w8.heap.size w8).alloc (Nat.le_refl _) (.cells #[.int .u8 0, .slice so83 1 sc84, .int .u8 1, .slice so96 1 sc97] 28)))
  clear B103
  have K110 : Hid ((w8.alloc (.cells #[.int .u8 0, .slice so83 1 sc84, .int .u8 1, .slice so96 1 sc97] 28)).heap[w8.heap.size]? = some (.cells #[.int .u8 0, .slice so83 1 sc84, .int .u8 1, .slice so96 1 sc97] 28)) := kb_new rfl
  have F111 := Lib.hid (tms_new2 (by decide) rfl (by decide) rfl K110.out F107.out F108.out)
  clear K110
  clear F107
  clear F108
  go_wp2_with fail
  refine (Q8.out _ _ _ F106.out F111.out).mono ?_
  rintro e w9 ⟨v112, rfl, o114, b115⟩
  have F116 := Lib.hid (F105.out.keeps (b115))
  clear F105
  have F117 := Lib.hid (F106.out.keeps (b115))
  clear F106
  have F118 := Lib.hid (F111.out.keeps (b115))
  clear F111
  have B119 := Lib.hid (bt B109.out b115)
  clear B109
  clear b115
  have F122 := Lib.hid o114.tms
  obtain ⟨so120, sc121, rfl⟩ := o114.tms.shape
  clear o114
  clear F117
  clear F118
  have F123 := Lib.hid (F116.out.keeps ((Below.refl w9.heap.size w9).alloc (Nat.le_refl _) (.cells #[.int .u32 1, .int .u32 3] 30)))
  clear F116
  have F124 := Lib.hid (F122.out.keeps ((Below.refl w9.heap.size w9).alloc (Nat.le_refl _) (.cells #[.int .u32 1, .int .u32 3] 30)))
  clear F122
  have B125 := Lib.hid (bt B119.out ((Below.refl w9.heap.size w9).alloc (Nat.le_refl _) (.cells #[.int .u32 1, .int .u32 3] 30)))
  clear B119
  have K126 : Hid ((w9.alloc (.cells #[.int .u32 1, .int .u32 3] 30)).heap[w9.heap.size]? = some (.cells #[.int .u32 1, .int .u32 3] 30)) := kb_new rfl
  go_wp2_with fail
  refine (Q9.out _ _ K126.out).mono ?_
  rintro e w10 ⟨so127, sc128, rfl, f129, b130⟩
  clear K126
  have F131 := Lib.hid (F123.out.keeps (b130))
  clear F123
  have F132 := Lib.hid (F124.out.keeps (b130))
  clear F124
  have B133 := Lib.hid (bt B125.out b130)
  clear B125
  clear b130
  have F134 := Lib.hid f129
  clear f129
  have F135 := Lib.hid (F131.out.keeps ((Below.refl w10.heap.size w10).alloc (Nat.le_refl _) (.cells #[.int .u32 7, .int .u32 7] 30)))
  clear F131
  have F136 := Lib.hid (F132.out.keeps ((Below.refl w10.heap.size w10).alloc (Nat.le_refl _) (.cells #[.int .u32 7, .int .u32 7] 30)))
  clear F132
  have F137 := Lib.hid (F134.out.keeps ((Below.refl w10.heap.size w10).alloc (Nat.le_refl _) (.cells #[.int .u32 7, .int .u32 7] 30)))
  clear F134
  have B138 := Lib.hid (bt B133.out ((Below.refl w10.heap.size w10).alloc (Nat.le_refl _) (.cells #[.int .u32 7, .int .u32 7] 30)))
  clear B133
  have K139 : Hid ((w10.alloc (.cells #[.int .u32 7, .int .u32 7] 30)).heap[w10.heap.size]? = some (.cells #[.int .u32 7, .int .u32 7] 30)) := kb_new rfl
  go_wp2_with fail
  refine (Q2.out _ _ K139.out).mono ?_
  rintro e w11 ⟨so140, sc141, rfl, f142, b143⟩
  clear K139
  have F144 := Lib.hid (F135.out.keeps (b143))
  clear F135
  have F145 := Lib.hid (F136.out.keeps (b143))
  clear F136
  have F146 := Lib.hid (F137.out.keeps (b143))
  clear F137
  have B147 := Lib.hid (bt B138.out b143)
  clear B138
  clear b143
  have F148 := Lib.hid f142
  clear f142
  have F149 := Lib.hid (F144.out.keeps ((Below.refl w11.heap.size w11).alloc (Nat.le_refl _) (.cells #[.int .u8 0, .slice so127 1 sc128, .int .u8 2, .slice so140 1 sc141] 28)))
  clear F144
  have F150 := Lib.hid (F145.out.keeps ((Below.refl w11.heap.size w11).alloc (Nat.le_refl _) (.cells #[.int .u8 0, .slice so127 1 sc128, .int .u8 2, .slice so140 1 sc141] 28)))
  clear F145
  have F151 := Lib.hid (F146.out.keeps ((Below.refl w11.heap.size w11).alloc (Nat.le_refl _) (.cells #[.int .u8 0, .slice so127 1 sc128, .int .u8 2, .slice so140 1 sc141] 28)))
  clear F146
  have F152 := Lib.hid (F148.out.keeps ((Below.refl w11.heap.size w11).alloc (Nat.le_refl _) (.cells #[.int .u8 0, .slice so127 1 sc128, .int .u8 2, .slice so140 1 sc141] 28)))
  clear F148
  have B153 := Lib.hid (bt B147.out ((Below.refl w11.heap.size w11).alloc (Nat.le_refl _) (.cells #[.int .u8 0, .slice so127 1 sc128, .int .u8 2, .slice so140 1 sc141] 28)))
  clear B147
  have K154 : Hid ((w11.alloc (.cells #[.int .u8 0, .slice so127 1 sc128, .int .u8 2, .slice so140 1 sc141] 28)).heap[w11.heap.size]? = some (.cells #[.int .u8 0, .slice so127 1 sc128, .int .u8 2, .slice so140 1 sc141] 28)) := kb_new rfl
  have F155 := Lib.hid (tms_new2 (by decide) rfl (by decide) rfl K154.out F151.out F152.out)
  clear K154
  clear F151
  clear F152
  go_wp2_with fail
  refine (Q10.out _ _ _ F149.out F155.out).mono ?_
  rintro e w12 ⟨rfl, b156⟩
  have F157 := Lib.hid (F149.out.keeps (b156))
  clear F149
  have F158 := Lib.hid (F150.out.keeps (b156))
  clear F150
  have F159 := Lib.hid (F155.out.keeps (b156))
  clear F155
  have B160 := Lib.hid (bt B153.out b156)
  clear B153
  clear b156
  clear F159
  clear F157
  have F161 := Lib.hid (F158.out.keeps ((Below.refl w12.heap.size w12).alloc (Nat.le_refl _) (.cells #[.int .u32 1, .int .u32 1] 30)))
  clear F158
  have B162 := Lib.hid (bt B160.out ((Below.refl w12.heap.size w12).alloc (Nat.le_refl _) (.cells #[.int .u32 1, .int .u32 1] 30)))
  clear B160
  have K163 : Hid ((w12.alloc (.cells #[.int .u32 1, .int .u32 1] 30)).heap[w12.heap.size]? = some (.cells #[.int .u32 1, .int .u32 1] 30)) := kb_new rfl
  go_wp2_with fail
  refine (Q11.out _ _ K163.out).mono ?_
  rintro e w13 ⟨so164, sc165, rfl, f166, b167⟩
  clear K163
  have F168 := Lib.hid (F161.out.keeps (b167))
  clear F161
  have B169 := Lib.hid (bt B162.out b167)
  clear B162
  clear b167
  have F170 := Lib.hid f166
  clear f166
  have F171 := Lib.hid (F168.out.keeps ((Below.refl w13.heap.size w13).alloc (Nat.le_refl _) (.cells #[.int .u8 0, .slice so164 1 sc165] 28)))
  clear F168
  have F172 := Lib.hid (F170.out.keeps ((Below.refl w13.heap.size w13).alloc (Nat.le_refl _) (.cells #[.int .u8 0, .slice so164 1 sc165] 28)))
  clear F170
  have B173 := Lib.hid (bt B169.out ((Below.refl w13.heap.size w13).alloc (Nat.le_refl _) (.cells #[.int .u8 0, .slice so164 1 sc165] 28)))
  clear B169
  have K174 : Hid ((w13.alloc (.cells #[.int .u8 0, .slice so164 1 sc165] 28)).heap[w13.heap.size]? = some (.cells #[.int .u8 0, .slice so164 1 sc165] 28)) := kb_new rfl
  have F175 := Lib.hid (tms_new1 (by decide) rfl K174.out F172.out)
  clear K174
  clear F172
  go_wp2_with fail
  refine (Q12.out _ _ _ F171.out F175.out).mono ?_
  rintro e w14 ⟨rfl, b176⟩
  have F177 := Lib.hid (F171.out.keeps (b176))
  clear F171
  have F178 := Lib.hid (F175.out.keeps (b176))
  clear F175
  have B179 := Lib.hid (bt B173.out b176)
  clear B173
  clear b176
  clear F178
  clear F177
  go_wp2_with fail
  refine (Q13.out _).mono ?_
  rintro e w15 ⟨rfl, b180⟩
  have B181 := Lib.hid (bt B179.out b180)
  clear B179
  clear b180
  have F182 : Hid (Tms w15 (.slice none 0 0) []) := Tms.nil _
  go_wp2_with fail
  refine (Q14.out _ _ F182.out).mono ?_
  rintro e w16 ⟨v183, rfl, o185, b186⟩
  have F187 := Lib.hid (F182.out.keeps (b186))
  clear F182
  have B188 := Lib.hid (bt B181.out b186)
  clear B181
  clear b186
  have F191 := Lib.hid o185.tms
  obtain ⟨so189, sc190, rfl⟩ := o185.tms.shape
  clear o185
  clear F187
  clear F191
  have B192 := Lib.hid (bt B188.out ((Below.refl w16.heap.size w16).alloc (Nat.le_refl _) (.cells #[.int .u32 1, .int .u32 1025] 30)))
  clear B188
  have K193 : Hid ((w16.alloc (.cells #[.int .u32 1, .int .u32 1025] 30)).heap[w16.heap.size]? = some (.cells #[.int .u32 1, .int .u32 1025] 30)) := kb_new rfl
  go_wp2_with fail
  refine (Q15.out _ _ K193.out).mono ?_
  rintro e w17 ⟨so194, sc195, rfl, f196, b197⟩
  clear K193
  have B198 := Lib.hid (bt B192.out b197)
  clear B192
  clear b197
  have F199 := Lib.hid f196
  clear f196
  have F200 := Lib.hid (F199.out.keeps ((Below.refl w17.heap.size w17).alloc (Nat.le_refl _) (.cells #[.int .u8 0, .slice so194 1 sc195] 28)))
  clear F199
  have B201 := Lib.hid (bt B198.out ((Below.refl w17.heap.size w17).alloc (Nat.le_refl _) (.cells #[.int .u8 0, .slice so194 1 sc195] 28)))
  clear B198
  have K202 : Hid ((w17.alloc (.cells #[.int .u8 0, .slice so194 1 sc195] 28)).heap[w17.heap.size]? = some (.cells #[.int .u8 0, .slice so194 1 sc195] 28)) := kb_new rfl
  have F203 := Lib.hid (tms_new1 (by decide) rfl K202.out F200.out)
  clear K202
  clear F200
  go_wp2_with fail
  refine (Q16.out _ _ F203.out).mono ?_
  rintro e w18 ⟨v204, rfl, o205, b206⟩
  have F207 := Lib.hid (F203.out.keeps (b206))
  clear F203
  have B208 := Lib.hid (bt B201.out b206)
  clear B201
  clear b206
  obtain ⟨so209, sc210, rfl⟩ := Sees.shape (Sees.own o205)
  clear o205
  clear F207
  have B211 := Lib.hid (bt B208.out ((Below.refl w18.heap.size w18).alloc (Nat.le_refl _) (.cells Z 34)))
  clear B208
  have K212 : Hid ((w18.alloc (.cells Z 34)).heap[w18.heap.size]? = some (.cells Z 34)) := kb_new rfl
  go_wp2_with fail
  refine (of_many (by decide) (by decide)).mono ?_
  rintro e w19 ⟨v213, rfl, o215, b216⟩
  have B217 := Lib.hid (bt B211.out b216)
  clear B211
  clear b216
  have F220 := Lib.hid o215.tms
  obtain ⟨so218, sc219, rfl⟩ := o215.tms.shape
  clear o215
  clear F220
  have B221 := Lib.hid (bt B217.out ((Below.refl w19.heap.size w19).alloc (Nat.le_refl _) (.cells #[.int .u32 9, .int .u32 9] 30)))
  clear B217
  have K222 : Hid ((w19.alloc (.cells #[.int .u32 9, .int .u32 9] 30)).heap[w19.heap.size]? = some (.cells #[.int .u32 9, .int .u32 9] 30)) := kb_new rfl
  go_wp2_with fail
  refine (Q17.out _ _ K222.out).mono ?_
  rintro e w20 ⟨so223, sc224, rfl, f225, b226⟩
  clear K222
  have B227 := Lib.hid (bt B221.out b226)
  clear B221
  clear b226
  have F228 := Lib.hid f225
  clear f225
  have F229 := Lib.hid (F228.out.keeps ((Below.refl w20.heap.size w20).alloc (Nat.le_refl _) (.cells #[.int .u32 3, .int .u32 4] 30)))
  clear F228
  have B230 := Lib.hid (bt B227.out ((Below.refl w20.heap.size w20).alloc (Nat.le_refl _) (.cells #[.int .u32 3, .int .u32 4] 30)))
  clear B227
  have K231 : Hid ((w20.alloc (.cells #[.int .u32 3, .int .u32 4] 30)).heap[w20.heap.size]? = some (.cells #[.int .u32 3, .int .u32 4] 30)) := kb_new rfl
  go_wp2_with fail
  refine (Q18.out _ _ K231.out).mono ?_
  rintro e w21 ⟨so232, sc233, rfl, f234, b235⟩
  clear K231
  have F236 := Lib.hid (F229.out.keeps (b235))
  clear F229
  have B237 := Lib.hid (bt B230.out b235)
  clear B230
  clear b235
  have F238 := Lib.hid f234
  clear f234
  have F239 := Lib.hid (F236.out.keeps ((Below.refl w21.heap.size w21).alloc (Nat.le_refl _) (.cells #[.int .u8 0, .slice so223 1 sc224, .int .u8 1, .slice so232 1 sc233] 28)))
  clear F236
  have F240 := Lib.hid (F238.out.keeps ((Below.refl w21.heap.size w21).alloc (Nat.le_refl _) (.cells #[.int .u8 0, .slice so223 1 sc224, .int .u8 1, .slice so232 1 sc233] 28)))
  clear F238
  have B241 := Lib.hid (bt B237.out ((Below.refl w21.heap.size w21).alloc (Nat.le_refl _) (.cells #[.int .u8 0, .slice so223 1 sc224, .int .u8 1, .slice so232 1 sc233] 28)))
  clear B237
  have K242 : Hid ((w21.alloc (.cells #[.int .u8 0, .slice so223 1 sc224, .int .u8 1, .slice so232 1 sc233] 28)).heap[w21.heap.size]? = some (.cells #[.int .u8 0, .slice so223 1 sc224, .int .u8 1, .slice so232 1 sc233] 28)) := kb_new rfl
  have F243 := Lib.hid (tms_new2 (by decide) rfl (by decide) rfl K242.out F239.out F240.out)
  clear K242
  clear F239
  clear F240
  go_wp2_with fail
  refine (AL.out _ ).mono ?_
  rintro e w22 ⟨rfl, b244⟩
  have F245 := Lib.hid (F243.out.keeps (b244))
  clear F243
  have B246 := Lib.hid (bt B241.out b244)
  clear B241
  clear b244
  go_wp2_with fail
  refine (Q19.out _ _ F245.out).mono ?_
  rintro e w23 ⟨rfl, b247⟩
  have F248 := Lib.hid (F245.out.keeps (b247))
  clear F245
  have B249 := Lib.hid (bt B246.out b247)
  clear B246
  clear b247
  go_wp2_with fail
  refine (Q20.out _ _ F248.out).mono ?_
  rintro e w24 ⟨rfl, b250⟩
  have F251 := Lib.hid (F248.out.keeps (b250))
  clear F248
  have B252 := Lib.hid (bt B249.out b250)
  clear B249
  clear b250
  clear F251
  have B253 := Lib.hid (bt B252.out ((Below.refl w24.heap.size w24).alloc (Nat.le_refl _) (.cells #[.int .u32 3, .int .u32 5] 30)))
  clear B252
  have K254 : Hid ((w24.alloc (.cells #[.int .u32 3, .int .u32 5] 30)).heap[w24.heap.size]? = some (.cells #[.int .u32 3, .int .u32 5] 30)) := kb_new rfl
  go_wp2_with fail
  refine (Q21.out _ _ K254.out).mono ?_
  rintro e w25 ⟨so255, sc256, rfl, f257, b258⟩
  clear K254
  have B259 := Lib.hid (bt B253.out b258)
  clear B253
  clear b258
  have F260 := Lib.hid f257
  clear f257
  have F261 := Lib.hid (F260.out.keeps ((Below.refl w25.heap.size w25).alloc (Nat.le_refl _) (.cells #[.int .u32 1, .int .u32 1] 30)))
  clear F260
  have B262 := Lib.hid (bt B259.out ((Below.refl w25.heap.size w25).alloc (Nat.le_refl _) (.cells #[.int .u32 1, .int .u32 1] 30)))
  clear B259
  have K263 : Hid ((w25.alloc (.cells #[.int .u32 1, .int .u32 1] 30)).heap[w25.heap.size]? = some (.cells #[.int .u32 1, .int .u32 1] 30)) := kb_new rfl
  go_wp2_with fail
  refine (Q11.out _ _ K263.out).mono ?_
  rintro e w26 ⟨so264, sc265, rfl, f266, b267⟩
  clear K263
  have F268 := Lib.hid (F261.out.keeps (b267))
  clear F261
  have B269 := Lib.hid (bt B262.out b267)
  clear B262
  clear b267
  have F270 := Lib.hid f266
  clear f266
  have F271 := Lib.hid (F268.out.keeps ((Below.refl w26.heap.size w26).alloc (Nat.le_refl _) (.cells #[.int .u8 1, .slice so255 1 sc256, .int .u8 0, .slice so264 1 sc265] 28)))
  clear F268
  have F272 := Lib.hid (F270.out.keeps ((Below.refl w26.heap.size w26).alloc (Nat.le_refl _) (.cells #[.int .u8 1, .slice so255 1 sc256, .int .u8 0, .slice so264 1 sc265] 28)))
  clear F270
  have B273 := Lib.hid (bt B269.out ((Below.refl w26.heap.size w26).alloc (Nat.le_refl _) (.cells #[.int .u8 1, .slice so255 1 sc256, .int .u8 0, .slice so264 1 sc265] 28)))
  clear B269
  have K274 : Hid ((w26.alloc (.cells #[.int .u8 1, .slice so255 1 sc256, .int .u8 0, .slice so264 1 sc265] 28)).heap[w26.heap.size]? = some (.cells #[.int .u8 1, .slice so255 1 sc256, .int .u8 0, .slice so264 1 sc265] 28)) := kb_new rfl
  have F275 := Lib.hid (tms_new2 (by decide) rfl (by decide) rfl K274.out F271.out F272.out)
  clear K274
  clear F271
  clear F272
  go_wp2_with fail
  refine (Q22.out _ _ F275.out).mono ?_
  rintro e w27 ⟨rfl, b276⟩
  have F277 := Lib.hid (F275.out.keeps (b276))
  clear F275
  have B278 := Lib.hid (bt B273.out b276)
  clear B273
  clear b276
  clear F277
  go_wp2_with fail
  refine (Q23.out _).mono ?_
  rintro e w28 ⟨rfl, b280⟩
  have B281 := Lib.hid (bt B278.out b280)
  clear B278
  clear b280
  have F282 : Hid (Sps w28 (.slice none 0 0) []) := Sees.nil _ _
  have F283 := Lib.hid (F282.out.keeps ((Below.refl w28.heap.size w28).alloc (Nat.le_refl _) (.cells #[.int .u8 1, .slice none 0 0] 28)))
  clear F282
  have B284 := Lib.hid (bt B281.out ((Below.refl w28.heap.size w28).alloc (Nat.le_refl _) (.cells #[.int .u8 1, .slice none 0 0] 28)))
  clear B281
  have K285 : Hid ((w28.alloc (.cells #[.int .u8 1, .slice none 0 0] 28)).heap[w28.heap.size]? = some (.cells #[.int .u8 1, .slice none 0 0] 28)) := kb_new rfl
  have F286 := Lib.hid (tms_new1 (by decide) rfl K285.out F283.out)
  clear K285
  clear F283
  go_wp2_with fail
  refine (Q24.out _ _ F286.out).mono ?_
  rintro e w29 ⟨rfl, b287⟩
  have F288 := Lib.hid (F286.out.keeps (b287))
  clear F286
  have B289 := Lib.hid (bt B284.out b287)
  clear B284
  clear b287
  clear F288
  have B290 := Lib.hid (bt B289.out ((Below.refl w29.heap.size w29).alloc (Nat.le_refl _) (.cells #[.int .u32 1, .int .u32 1] 30)))
  clear B289
  have K291 : Hid ((w29.alloc (.cells #[.int .u32 1, .int .u32 1] 30)).heap[w29.heap.size]? = some (.cells #[.int .u32 1, .int .u32 1] 30)) := kb_new rfl
  go_wp2_with fail
  refine (Q25.out _ _ K291.out).mono ?_
  rintro e w30 ⟨so292, sc293, rfl, f294, b295⟩
  clear K291
  have B296 := Lib.hid (bt B290.out b295)
  clear B290
  clear b295
  have F297 := Lib.hid f294
  clear f294
  have F298 := Lib.hid (F297.out.keeps ((Below.refl w30.heap.size w30).alloc (Nat.le_refl _) (.cells #[.int .u8 8, .slice so292 1 sc293] 28)))
  clear F297
  have B299 := Lib.hid (bt B296.out ((Below.refl w30.heap.size w30).alloc (Nat.le_refl _) (.cells #[.int .u8 8, .slice so292 1 sc293] 28)))
  clear B296
  have K300 : Hid ((w30.alloc (.cells #[.int .u8 8, .slice so292 1 sc293] 28)).heap[w30.heap.size]? = some (.cells #[.int .u8 8, .slice so292 1 sc293] 28)) := kb_new rfl
  have F301 := Lib.hid (tms_new1 (by decide) rfl K300.out F298.out)
  clear K300
  clear F298
  go_wp2_with fail
  refine (Q26.out _ _ F301.out).mono ?_
  rintro e w31 ⟨rfl, b302⟩
  have F303 := Lib.hid (F301.out.keeps (b302))
  clear F301
  have B304 := Lib.hid (bt B299.out b302)
  clear B299
  clear b302
  clear F303
  go_wp2
  go_ret
  exact ⟨rfl, B304.out⟩
end Go.Proofs.Ytinglfhndlklaaa.Clocks
