/- CodeOne answers true, and changes nothing that was there. Conditions: none. -/
import Derived.Deep.DeepCutAuto
import Derived.BigQuiet
import Derived.Deep.QuietTactic
import Derived.Test.YtelilmhnfmojkaaPk15
import Derived.Test.YtelilmhnfmojkaaPk14
import Derived.Test.YtelilmhnfmojkaaPk10

namespace Go.Proofs.Ytelilmhnfmojkaa.Codes
open Go.RowKit Go.WideShapes Num Go.Proofs.Ytelilmhnfmojkaa.Place Ops
attribute [local go_sem ↓] Go.wp_at_zero Go.wp_at_succ

theorem sameO_self (a : Opn) : sameB a a = true := (sameB_iff a a).2 rfl

set_option maxRecDepth 100000 in
set_option maxHeartbeats 16000000 in
theorem one_walk {o : Opn} {ao0 : Option Addr} {cap0 : Nat} {ao1 : Option Addr} {cap1 : Nat} {xs : List UInt8} {w : World} (hr0 : Runs w (.slice ao0 o.pl.length cap0) o.pl) (hr1 : Reads w (.slice ao1 xs.length cap1) xs) :
    Calls Try.prog 4 #[opv o (.slice ao0 o.pl.length cap0), .slice ao1 xs.length cap1] w fun e w' => e = .returned (.bool true) ∧ Below w.heap.size w w' := by
  have HR0 := Lib.hid hr0
  have HR1 := Lib.hid hr1
  obtain ⟨n0, hn0⟩ : ∃ n, n = o.pl.length := ⟨_, rfl⟩
  obtain ⟨n1, hn1⟩ : ∃ n, n = xs.length := ⟨_, rfl⟩
  have HN1 := Lib.hid hn1
  have TW : Hid (∀ (W : World) (v : Value), Runs W v o.pl → n0 ≤ 300 → Calls Try.prog 13 #[opv o v] W fun e w' => ∃ v', e = .returned (opv o v') ∧ w'.ownsRow W.heap.size 71 3 v' n0 (runs o.pl) ∧ Below W.heap.size W w') := fun W v h hl => by
    have := refTwin_any (o := o) h (by omega)
    rwa [← hn0] at this
  obtain ⟨c, hc⟩ : ∃ c, chkO o = c := ⟨_, rfl⟩
  obtain ⟨P, hP⟩ : ∃ c, putB o = c := ⟨_, rfl⟩
  obtain ⟨⟨oa, sa, ca⟩, ha⟩ : ∃ z, ansO xs = z := ⟨_, rfl⟩
  have PU : Hid (∀ (W : World) (v : Value), Runs W v o.pl → Calls Try.prog 10 #[opv o v] W (Put2 c P W)) := fun W v h => by rw [← hc, ← hP]; exact cPut_any h
  have RP : Hid (∀ (W : World) (v : Value), Runs W v o.pl → Calls Try.prog 14 #[opv o v] W (Put2 c P W)) := fun W v h => by rw [← hc, ← hP]; exact refPutO_any h
  have GE : Hid (∀ (W : World), Reads W (.slice ao1 n1 cap1) xs → n1 ≤ 10000 → Calls Try.prog 15 #[.slice ao1 n1 cap1] W (GotO oa sa ca W)) := fun W h hl => by
    have := cGet_any hn1 (by omega) h
    rwa [ha] at this
  have RG : Hid (∀ (W : World), Reads W (.slice ao1 n1 cap1) xs → n1 ≤ 10000 → Calls Try.prog 16 #[.slice ao1 n1 cap1] W (GotO oa sa ca W)) := fun W h hl => by
    have := refGetO_any hn1 (by omega) h
    rwa [ha] at this
  have SA : Hid (∀ (W : World) (u v : Value), Runs W u oa.pl → Runs W v oa.pl → Calls Try.prog 17 #[opv oa u, opv oa v] W fun e w' => e = .returned (.bool true) ∧ Below W.heap.size W w') := fun W u v h h2 => by rw [← sameO_self oa]; exact Ops.refSame_any h h2
  have SO : Hid (∀ (W : World) (u v : Value), Runs W u o.pl → Runs W v o.pl → Calls Try.prog 17 #[opv o u, opv o v] W fun e w' => e = .returned (.bool true) ∧ Below W.heap.size W w') := fun W u v h h2 => by rw [← sameO_self o]; exact Ops.refSame_any h h2
  have HO : Hid (∀ v : Value, opv o v = .agg #[.int .u8 (o.k : Int), .int .u32 (o.t : Int), .int .u8 (o.r : Int), v, .int .i64 o.p]) := fun v => rfl
  have HA : Hid (∀ v : Value, opv oa v = .agg #[.int .u8 (oa.k : Int), .int .u32 (oa.t : Int), .int .u8 (oa.r : Int), v, .int .i64 oa.p]) := fun v => rfl
  obtain ⟨l, hl⟩ : ∃ l, o.pl = l := ⟨_, rfl⟩
  obtain ⟨k, hk⟩ : ∃ k, o.k = k := ⟨_, rfl⟩
  obtain ⟨t, ht⟩ : ∃ k, o.t = k := ⟨_, rfl⟩
  obtain ⟨r, hr⟩ : ∃ k, o.r = k := ⟨_, rfl⟩
  obtain ⟨p, hp⟩ : ∃ k, o.p = k := ⟨_, rfl⟩
  rw [hk, ht, hr, hp] at HO
  rw [← hn0, hl] at HR0
  rw [hl] at TW PU RP SO
  rw [← hn1] at HR1
  rw [← hn0, ← hn1]
  obtain ⟨la, hla⟩ : ∃ l, oa.pl = l := ⟨_, rfl⟩
  obtain ⟨ka, hka⟩ : ∃ k, oa.k = k := ⟨_, rfl⟩
  obtain ⟨ta, hta⟩ : ∃ k, oa.t = k := ⟨_, rfl⟩
  obtain ⟨ra, hra⟩ : ∃ k, oa.r = k := ⟨_, rfl⟩
  obtain ⟨pa, hpa⟩ : ∃ k, oa.p = k := ⟨_, rfl⟩
  rw [hka, hta, hra, hpa] at HA
  rw [hla] at SA
  unfold GotO at GE RG
  rw [hla] at GE RG
  obtain ⟨na, hna⟩ : ∃ n, n = la.length := ⟨_, rfl⟩
  have HNA := Lib.hid hna
  rw [← hna] at GE RG
  simp only [HO.out] at TW PU RP SO ⊢
  simp only [HA.out] at GE RG SA
  have B0 : Hid (Below w.heap.size w (w.alloc (.cells #[.int .u8 (k : Int), .int .u32 (t : Int), .int .u8 (r : Int), .slice ao0 n0 cap0, .int .i64 p] 35))) := (Below.refl _ _).alloc (Nat.le_refl _) _
  have FA0 := Lib.hid (five_new w (.int .u8 (k : Int)) (.int .u32 (t : Int)) (.int .u8 (r : Int)) (.slice ao0 n0 cap0) (.int .i64 p) 35)
  clear hr0 hr1 hn0 hn1 hc hP ha hl hk ht hr hp hla hka hta hra hpa hna HO HA
  by_cases h0 : 300 < n0
  · have t1 : decide ((300 : Int) < (n0 : Int)) = true := decide_eq_true (by omega)
    have t2 : decide (300 < n0) = true := decide_eq_true h0
    go_enter Try.func4, Try.ntmps4
    go_wp2
    go_ret
    exact ⟨rfl, B0.out⟩
  have t1 : decide ((300 : Int) < (n0 : Int)) = false := decide_eq_false (by omega)
  have t2 : decide (300 < n0) = false := decide_eq_false h0
  by_cases h1 : 10000 < n1
  · have t3 : decide ((10000 : Int) < (n1 : Int)) = true := decide_eq_true (by omega)
    have t4 : decide (10000 < n1) = true := decide_eq_true h1
    go_enter Try.func4, Try.ntmps4
    go_wp2
    go_ret
    exact ⟨rfl, B0.out⟩
  have t3 : decide ((10000 : Int) < (n1 : Int)) = false := decide_eq_false (by omega)
  have t4 : decide (10000 < n1) = false := decide_eq_false h1
  have h300 : n0 ≤ 300 := by omega
  have h10 : n1 ≤ 10000 := by omega
  have RA0 := Lib.hid (HR0.out.keeps B0.out)
  have RB0 := Lib.hid (HR1.out.keeps B0.out)
  go_enter Try.func4, Try.ntmps4
  go_wp2_with fail
  refine (TW.out _ _ RA0.out h300).mono ?_
  rintro e w1 ⟨vo, rfl, o1, b1⟩
  obtain ⟨aoO, capO, rfl⟩ : ∃ ao cap, vo = .slice ao n0 cap := Sees.shape (Sees.own o1)
  have B_1 := Lib.hid (bt B0.out b1)
  clear B0
  have FA_2 := Lib.hid (FA0.out.keeps b1)
  clear FA0
  have RA_3 := Lib.hid (RA0.out.keeps b1)
  clear RA0
  have RB_4 := Lib.hid (RB0.out.keeps b1)
  clear RB0
  have RO_5 := Lib.hid (Go.Proofs.Ytelilmhnfmojkaa.Runs.own o1)
  have bo := (Below.refl _ w1).alloc (Nat.le_refl _) (.cells #[.int .u8 (k : Int), .int .u32 (t : Int), .int .u8 (r : Int), .slice aoO n0 capO, .int .i64 p] 35)
  have B_6 := Lib.hid (bt B_1.out bo)
  clear B_1
  have FA_7 := Lib.hid (FA_2.out.keeps bo)
  clear FA_2
  have RA_8 := Lib.hid (RA_3.out.keeps bo)
  clear RA_3
  have RB_9 := Lib.hid (RB_4.out.keeps bo)
  clear RB_4
  have RO_10 := Lib.hid (RO_5.out.keeps bo)
  clear RO_5
  have FO_11 := Lib.hid (five_new w1 (.int .u8 (k : Int)) (.int .u32 (t : Int)) (.int .u8 (r : Int)) (.slice aoO n0 capO) (.int .i64 p) 35)
  clear o1 b1 bo
  have sB := run_string RB_9.out
  obtain ⟨-, c0, c1, c2, c3, c4⟩ := FO_11.out
  go_wp2_with fail
  clear c0 c1 c2 c3 c4 sB
  refine (PU.out _ _ RO_10.out).mono ?_
  rintro e w2 ⟨vx, rfl, o2, b2⟩
  have B_12 := Lib.hid (bt B_6.out b2)
  clear B_6
  have FA_13 := Lib.hid (FA_7.out.keeps b2)
  clear FA_7
  have RA_14 := Lib.hid (RA_8.out.keeps b2)
  clear RA_8
  have RB_15 := Lib.hid (RB_9.out.keeps b2)
  clear RB_9
  have RO_16 := Lib.hid (RO_10.out.keeps b2)
  clear RO_10
  have FO_17 := Lib.hid (FO_11.out.keeps b2)
  clear FO_11
  have RX_18 := Lib.hid (Reads.own o2)
  clear o2 b2
  obtain ⟨-, c0, c1, c2, c3, c4⟩ := FA_13.out
  go_wp2_with fail
  clear c0 c1 c2 c3 c4
  refine (RP.out _ _ RA_14.out).mono ?_
  rintro e w3 ⟨vy, rfl, o3, b3⟩
  have B_19 := Lib.hid (bt B_12.out b3)
  clear B_12
  have FA_20 := Lib.hid (FA_13.out.keeps b3)
  clear FA_13
  have RA_21 := Lib.hid (RA_14.out.keeps b3)
  clear RA_14
  have RB_22 := Lib.hid (RB_15.out.keeps b3)
  clear RB_15
  have RO_23 := Lib.hid (RO_16.out.keeps b3)
  clear RO_16
  have FO_24 := Lib.hid (FO_17.out.keeps b3)
  clear FO_17
  have RX_25 := Lib.hid (RX_18.out.keeps b3)
  clear RX_18
  have RY_26 := Lib.hid (Reads.own o3)
  clear o3 b3
  go_wp2_with fail
  refine (GE.out _ RB_22.out h10).mono ?_
  rintro e w4 ⟨aoP, capP, rfl, o4, b4⟩
  have B_27 := Lib.hid (bt B_19.out b4)
  clear B_19
  have FA_28 := Lib.hid (FA_20.out.keeps b4)
  clear FA_20
  have RA_29 := Lib.hid (RA_21.out.keeps b4)
  clear RA_21
  have RB_30 := Lib.hid (RB_22.out.keeps b4)
  clear RB_22
  have RO_31 := Lib.hid (RO_23.out.keeps b4)
  clear RO_23
  have FO_32 := Lib.hid (FO_24.out.keeps b4)
  clear FO_24
  have RX_33 := Lib.hid (RX_25.out.keeps b4)
  clear RX_25
  have RY_34 := Lib.hid (RY_26.out.keeps b4)
  clear RY_26
  have RP_35 : Hid (Runs w4 (.slice aoP na capP) la) := by rw [HNA.out] at o4 ⊢; exact Go.Proofs.Ytelilmhnfmojkaa.Runs.own o4
  have bo := (Below.refl _ w4).alloc (Nat.le_refl _) (.cells #[.int .u8 (ka : Int), .int .u32 (ta : Int), .int .u8 (ra : Int), .slice aoP na capP, .int .i64 pa] 35)
  have B_36 := Lib.hid (bt B_27.out bo)
  clear B_27
  have FA_37 := Lib.hid (FA_28.out.keeps bo)
  clear FA_28
  have RA_38 := Lib.hid (RA_29.out.keeps bo)
  clear RA_29
  have RB_39 := Lib.hid (RB_30.out.keeps bo)
  clear RB_30
  have RO_40 := Lib.hid (RO_31.out.keeps bo)
  clear RO_31
  have FO_41 := Lib.hid (FO_32.out.keeps bo)
  clear FO_32
  have RX_42 := Lib.hid (RX_33.out.keeps bo)
  clear RX_33
  have RY_43 := Lib.hid (RY_34.out.keeps bo)
  clear RY_34
  have RP_44 := Lib.hid (RP_35.out.keeps bo)
  clear RP_35
  have FP_45 := Lib.hid (five_new w4 (.int .u8 (ka : Int)) (.int .u32 (ta : Int)) (.int .u8 (ra : Int)) (.slice aoP na capP) (.int .i64 pa) 35)
  clear o4 b4 bo
  go_wp2_with fail
  refine (RG.out _ RB_39.out h10).mono ?_
  rintro e w5 ⟨aoQ, capQ, rfl, o5, b5⟩
  have B_46 := Lib.hid (bt B_36.out b5)
  clear B_36
  have FA_47 := Lib.hid (FA_37.out.keeps b5)
  clear FA_37
  have RA_48 := Lib.hid (RA_38.out.keeps b5)
  clear RA_38
  have RB_49 := Lib.hid (RB_39.out.keeps b5)
  clear RB_39
  have RO_50 := Lib.hid (RO_40.out.keeps b5)
  clear RO_40
  have FO_51 := Lib.hid (FO_41.out.keeps b5)
  clear FO_41
  have RX_52 := Lib.hid (RX_42.out.keeps b5)
  clear RX_42
  have RY_53 := Lib.hid (RY_43.out.keeps b5)
  clear RY_43
  have RP_54 := Lib.hid (RP_44.out.keeps b5)
  clear RP_44
  have FP_55 := Lib.hid (FP_45.out.keeps b5)
  clear FP_45
  have RQ_56 : Hid (Runs w5 (.slice aoQ na capQ) la) := by rw [HNA.out] at o5 ⊢; exact Go.Proofs.Ytelilmhnfmojkaa.Runs.own o5
  have bo := (Below.refl _ w5).alloc (Nat.le_refl _) (.cells #[.int .u8 (ka : Int), .int .u32 (ta : Int), .int .u8 (ra : Int), .slice aoQ na capQ, .int .i64 pa] 35)
  have B_57 := Lib.hid (bt B_46.out bo)
  clear B_46
  have FA_58 := Lib.hid (FA_47.out.keeps bo)
  clear FA_47
  have RA_59 := Lib.hid (RA_48.out.keeps bo)
  clear RA_48
  have RB_60 := Lib.hid (RB_49.out.keeps bo)
  clear RB_49
  have RO_61 := Lib.hid (RO_50.out.keeps bo)
  clear RO_50
  have FO_62 := Lib.hid (FO_51.out.keeps bo)
  clear FO_51
  have RX_63 := Lib.hid (RX_52.out.keeps bo)
  clear RX_52
  have RY_64 := Lib.hid (RY_53.out.keeps bo)
  clear RY_53
  have RP_65 := Lib.hid (RP_54.out.keeps bo)
  clear RP_54
  have FP_66 := Lib.hid (FP_55.out.keeps bo)
  clear FP_55
  have RQ_67 := Lib.hid (RQ_56.out.keeps bo)
  clear RQ_56
  have FQ_68 := Lib.hid (five_new w5 (.int .u8 (ka : Int)) (.int .u32 (ta : Int)) (.int .u8 (ra : Int)) (.slice aoQ na capQ) (.int .i64 pa) 35)
  clear o5 b5 bo
  have sx := run_string RX_63.out
  have sy := run_string RY_64.out
  obtain ⟨-, c0, c1, c2, c3, c4⟩ := FP_66.out
  obtain ⟨-, d0, d1, d2, d3, d4⟩ := FQ_68.out
  go_wp2_with fail
  clear c0 c1 c2 c3 c4 d0 d1 d2 d3 d4 sx sy
  refine (SA.out _ _ _ RP_65.out RQ_67.out).mono ?_
  rintro e w6 ⟨rfl, b6⟩
  have B_69 := Lib.hid (bt B_57.out b6)
  clear B_57
  have FA_70 := Lib.hid (FA_58.out.keeps b6)
  clear FA_58
  have RA_71 := Lib.hid (RA_59.out.keeps b6)
  clear RA_59
  have RB_72 := Lib.hid (RB_60.out.keeps b6)
  clear RB_60
  have RO_73 := Lib.hid (RO_61.out.keeps b6)
  clear RO_61
  have FO_74 := Lib.hid (FO_62.out.keeps b6)
  clear FO_62
  have RX_75 := Lib.hid (RX_63.out.keeps b6)
  clear RX_63
  have RY_76 := Lib.hid (RY_64.out.keeps b6)
  clear RY_64
  have RP_77 := Lib.hid (RP_65.out.keeps b6)
  clear RP_65
  have FP_78 := Lib.hid (FP_66.out.keeps b6)
  clear FP_66
  have RQ_79 := Lib.hid (RQ_67.out.keeps b6)
  clear RQ_67
  have FQ_80 := Lib.hid (FQ_68.out.keeps b6)
  clear FQ_68
  clear b6
  obtain ⟨-, c0, c1, c2, c3, c4⟩ := FO_74.out
  obtain ⟨-, d0, d1, d2, d3, d4⟩ := FA_70.out
  go_wp2_with fail
  clear c0 c1 c2 c3 c4 d0 d1 d2 d3 d4
  refine (SO.out _ _ _ RO_73.out RA_71.out).mono ?_
  rintro e w7 ⟨rfl, b7⟩
  have B_81 := Lib.hid (bt B_69.out b7)
  clear B_69
  have FA_82 := Lib.hid (FA_70.out.keeps b7)
  clear FA_70
  have RA_83 := Lib.hid (RA_71.out.keeps b7)
  clear RA_71
  have RB_84 := Lib.hid (RB_72.out.keeps b7)
  clear RB_72
  have RO_85 := Lib.hid (RO_73.out.keeps b7)
  clear RO_73
  have FO_86 := Lib.hid (FO_74.out.keeps b7)
  clear FO_74
  have RX_87 := Lib.hid (RX_75.out.keeps b7)
  clear RX_75
  have RY_88 := Lib.hid (RY_76.out.keeps b7)
  clear RY_76
  have RP_89 := Lib.hid (RP_77.out.keeps b7)
  clear RP_77
  have FP_90 := Lib.hid (FP_78.out.keeps b7)
  clear FP_78
  have RQ_91 := Lib.hid (RQ_79.out.keeps b7)
  clear RQ_79
  have FQ_92 := Lib.hid (FQ_80.out.keeps b7)
  clear FQ_80
  clear b7
  have sB := run_string RB_84.out
  go_wp2
  go_ret
  exact ⟨rfl, B_81.out⟩
end Go.Proofs.Ytelilmhnfmojkaa.Codes

/- CodeOnes answers true, and changes nothing that was there. Conditions: none. -/
namespace Go.Proofs.Ytelilmhnfmojkaa.Codes
open Go.RowKit Go.WideShapes Num Go.Proofs.Ytelilmhnfmojkaa.Place Ops
attribute [local go_sem ↓] Go.wp_at_zero Go.wp_at_succ

theorem isAt_self {o : Opn} (hm : mayO o = true) (t : List UInt8) : IsAt (bytesO o ++ t) 0 o := ⟨hm, t, by rw [List.drop_zero]⟩
theorem take_none {o : Opn} (hm : mayO o = true) {k : Nat} (hk : k < (bytesO o).length) : ansO ((bytesO o).take k) = (zop, 0, 8) := none_found fun o' h => by
  obtain ⟨hm', t, e⟩ := h
  rw [List.drop_zero] at e
  have h2 : IsAt (bytesO o) 0 o' := ⟨hm', t ++ (bytesO o).drop k, by rw [List.drop_zero, ← List.append_assoc, ← e, List.take_append_drop]⟩
  have h3 : IsAt (bytesO o) 0 o := by have := isAt_self hm []; rwa [List.append_nil] at this
  have e2 := isAt_one h2 h3
  subst e2
  have := congrArg List.length e
  rw [List.length_take, List.length_append] at this
  omega
theorem ans_cases (xs : List UInt8) : ansO xs = (zop, 0, 8) ∨ ∃ o, mayO o = true ∧ ansO xs = (o, (bytesO o).length, 0) ∧ (bytesO o).length ≤ xs.length ∧ xs.take (bytesO o).length = bytesO o := by
  cases hg : getO xs with
  | none => left; unfold ansO; rw [hg]
  | some z =>
    obtain ⟨h1, h2⟩ := get_some (o := z.1) (s := z.2) hg
    refine .inr ⟨z.1, h1.1, one_found h1, by have := isAt_size h1; omega, (ahead_found h1).2.2.2.2.2.2⟩
theorem two_list {o : Opn} (hm : mayO o = true) : allC [o, o] = 0 ∧ allB [o, o] = 2 :: (bytesO o ++ bytesO o) := by
  have h : allM [o, o] = true := (allM_iff _).2 (fun x hx => by simp at hx; subst hx; exact hm)
  unfold allC allB
  rw [h]
  refine ⟨by simp, ?_⟩
  simp [listB, bytesL, enc, encF]
theorem opl_two {X : World} {o : Opn} {v : Value} (h : Runs X v o.pl) : OpL (X.alloc (.cells #[.int .u8 (o.k : Int), .int .u32 (o.t : Int), .int .u8 (o.r : Int), v, .int .i64 o.p, .int .u8 (o.k : Int), .int .u32 (o.t : Int), .int .u8 (o.r : Int), v, .int .i64 o.p] 35)) (.slice (some ⟨X.heap.size, 0, none⟩) 2 2) [o, o] := by
  have hk := h.keeps ((Below.refl X.heap.size X).alloc (Nat.le_refl _) (.cells #[.int .u8 (o.k : Int), .int .u32 (o.t : Int), .int .u8 (o.r : Int), v, .int .i64 o.p, .int .u8 (o.k : Int), .int .u32 (o.t : Int), .int .u8 (o.r : Int), v, .int .i64 o.p] 35))
  refine ⟨[.int .u8 (o.k : Int), .int .u32 (o.t : Int), .int .u8 (o.r : Int), v, .int .i64 o.p, .int .u8 (o.k : Int), .int .u32 (o.t : Int), .int .u8 (o.r : Int), v, .int .i64 o.p], sees_new X _ 5 2 rfl (by omega) _ _, ?_⟩
  exact ⟨[.int .u8 (o.k : Int), .int .u32 (o.t : Int), .int .u8 (o.r : Int), v, .int .i64 o.p], [.int .u8 (o.k : Int), .int .u32 (o.t : Int), .int .u8 (o.r : Int), v, .int .i64 o.p], rfl, ⟨v, rfl, hk⟩, _, [], rfl, ⟨v, rfl, hk⟩, rfl⟩
theorem str_two (P : List UInt8) : ((str (2 :: (P ++ P))).toList == (ByteArray.mk #[2] ++ str P ++ str P).toList) = true := by
  have e : ByteArray.mk #[2] ++ str P ++ str P = str (2 :: (P ++ P)) := by
    apply ByteArray.ext
    simp [str, ByteArray.data_append]
  rw [e]; simp

set_option maxRecDepth 100000 in
set_option maxHeartbeats 16000000 in
theorem ones_walk {o : Opn} {ao0 : Option Addr} {cap0 : Nat} {ao1 : Option Addr} {cap1 : Nat} {xs : List UInt8} {many : Int} {w : World} (hr0 : Runs w (.slice ao0 o.pl.length cap0) o.pl) (hr1 : Reads w (.slice ao1 xs.length cap1) xs) :
    Calls Try.prog 7 #[opv o (.slice ao0 o.pl.length cap0), .slice ao1 xs.length cap1, .int .i64 many] w fun e w' => e = .returned (.bool true) ∧ Below w.heap.size w w' := by
  have HR0 := Lib.hid hr0
  have HR1 := Lib.hid hr1
  obtain ⟨n0, hn0⟩ : ∃ n, n = o.pl.length := ⟨_, rfl⟩
  obtain ⟨n1, hn1⟩ : ∃ n, n = xs.length := ⟨_, rfl⟩
  have HN1 := Lib.hid hn1
  have hcap1 : n1 ≤ cap1 := by have := (Reads.cap hr1).2.1; omega
  have GEN : Hid (∀ (W : World) (v : Value) (ys : List UInt8), Reads W v ys → ys.length ≤ 100000 → Calls Try.prog 15 #[v] W (GotO (ansO ys).1 (ansO ys).2.1 (ansO ys).2.2 W)) := fun W v ys h hl => by
    obtain ⟨ao, cap, rfl⟩ := h.shape
    exact cGet_any rfl (by omega) h
  have PU0 : Hid (∀ (W : World) (v : Value) (o : Opn), Runs W v o.pl → Calls Try.prog 10 #[opv o v] W (Put2 (chkO o) (putB o) W)) := fun W v o h => cPut_any h
  have SA0 : Hid (∀ (W : World) (u v : Value), Runs W u o.pl → Runs W v o.pl → Calls Try.prog 23 #[opv o u, opv o v] W fun e w' => e = .returned (.bool true) ∧ Below W.heap.size W w') := fun W u v h h2 => by rw [← (sameB_iff o o).2 rfl]; exact oSame_any h h2
  have AL0 : Hid (∀ (W : World) (v : Value) (l : List Opn), OpL W v l → Calls Try.prog 8 #[v] W (Put2 (allC l) (allB l) W)) := fun W v l h => cAll_any h
  have AV := Lib.hid alive10_any
  have PUO : Hid (∀ (W : World) (v : Value), Runs W v o.pl → Calls Try.prog 10 #[opv o v] W (Put2 (chkO o) (putB o) W)) := fun W v h => cPut_any h
  have TWO : Hid (∀ (X : World) (v : Value), Runs X v o.pl → OpL (X.alloc (.cells #[.int .u8 (o.k : Int), .int .u32 (o.t : Int), .int .u8 (o.r : Int), v, .int .i64 o.p, .int .u8 (o.k : Int), .int .u32 (o.t : Int), .int .u8 (o.r : Int), v, .int .i64 o.p] 35)) (.slice (some ⟨X.heap.size, 0, none⟩) 2 2) [o, o]) := fun X v h => opl_two h
  have HO : Hid (∀ v : Value, opv o v = .agg #[.int .u8 (o.k : Int), .int .u32 (o.t : Int), .int .u8 (o.r : Int), v, .int .i64 o.p]) := fun v => rfl
  have GO : Hid (∀ (W : World) (v : Value), mayO o = true → Reads W v (bytesO o ++ xs) → (bytesO o ++ xs).length ≤ 100000 → Calls Try.prog 15 #[v] W (GotO o (bytesO o).length 0 W)) := fun W v hm h hl => by
    have := GEN.out W v _ h hl
    rwa [one_found (isAt_self hm xs)] at this
  obtain ⟨l, hl⟩ : ∃ l, o.pl = l := ⟨_, rfl⟩
  obtain ⟨k, hk⟩ : ∃ k, o.k = k := ⟨_, rfl⟩
  obtain ⟨t, ht⟩ : ∃ k, o.t = k := ⟨_, rfl⟩
  obtain ⟨r, hr⟩ : ∃ k, o.r = k := ⟨_, rfl⟩
  obtain ⟨p, hp⟩ : ∃ k, o.p = k := ⟨_, rfl⟩
  rw [hk, ht, hr, hp] at HO TWO
  unfold GotO at GO
  rw [← hn0] at GO
  rw [hl] at SA0 PUO TWO GO
  rw [← hn0, hl] at HR0
  rw [← hn1] at HR1
  rw [← hn0, ← hn1]
  simp only [HO.out] at SA0 PUO GO ⊢
  have HNL : Hid (n0 = l.length) := by rw [← hl]; exact hn0
  have B0 : Hid (Below w.heap.size w (w.alloc (.cells #[.int .u8 (k : Int), .int .u32 (t : Int), .int .u8 (r : Int), .slice ao0 n0 cap0, .int .i64 p] 35))) := (Below.refl _ _).alloc (Nat.le_refl _) _
  have FA0 := Lib.hid (five_new w (.int .u8 (k : Int)) (.int .u32 (t : Int)) (.int .u8 (r : Int)) (.slice ao0 n0 cap0) (.int .i64 p) 35)
  have RA0 := Lib.hid (HR0.out.keeps B0.out)
  have RB0 := Lib.hid (HR1.out.keeps B0.out)
  clear hr0 hr1 hn0 hn1 hl hk ht hr hp HO
  go_enter Try.func7, Try.ntmps7
  go_wp2_with fail
  refine (AV.out _).mono ?_
  rintro e w1 ⟨rfl, b1⟩
  have B_1 := Lib.hid (bt B0.out b1)
  clear B0
  have FA_2 := Lib.hid (FA0.out.keeps b1)
  clear FA0
  have RA_3 := Lib.hid (RA0.out.keeps b1)
  clear RA0
  have RB_4 := Lib.hid (RB0.out.keeps b1)
  clear RB0
  clear b1
  obtain ⟨-, c0, c1, c2, c3, c4⟩ := FA_2.out
  by_cases h0 : 64 < n0
  · have t1 : decide ((64 : Int) < (n0 : Int)) = true := decide_eq_true (by omega)
    have t2 : decide (64 < n0) = true := decide_eq_true h0
    go_wp2
    go_ret
    exact ⟨rfl, B_1.out⟩
  have t1 : decide ((64 : Int) < (n0 : Int)) = false := decide_eq_false (by omega)
  have t2 : decide (64 < n0) = false := decide_eq_false h0
  by_cases h1 : 10000 < n1
  · have t3 : decide ((10000 : Int) < (n1 : Int)) = true := decide_eq_true (by omega)
    have t4 : decide (10000 < n1) = true := decide_eq_true h1
    go_wp2
    go_ret
    exact ⟨rfl, B_1.out⟩
  have t3 : decide ((10000 : Int) < (n1 : Int)) = false := decide_eq_false (by omega)
  have t4 : decide (10000 < n1) = false := decide_eq_false h1
  have h10 : n1 ≤ 10000 := by omega
  go_wp2_with fail
  clear c0 c1 c2 c3 c4
  refine (PUO.out _ _ RA_3.out).mono ?_
  rintro e w2 ⟨vx, rfl, o2, b2⟩
  have B_5 := Lib.hid (bt B_1.out b2)
  clear B_1
  have FA_6 := Lib.hid (FA_2.out.keeps b2)
  clear FA_2
  have RA_7 := Lib.hid (RA_3.out.keeps b2)
  clear RA_3
  have RB_8 := Lib.hid (RB_4.out.keeps b2)
  clear RB_4
  obtain ⟨P, hP0⟩ : ∃ P, putB o = P := ⟨_, rfl⟩
  have HP0 := Lib.hid hP0
  rw [hP0] at o2
  obtain ⟨aoX, capX, rfl⟩ := own_shape o2
  have RX2 := Lib.hid (Reads.own o2)
  obtain ⟨pl, hpl⟩ : ∃ n, n = P.length := ⟨_, rfl⟩
  have HPL := Lib.hid hpl
  rw [← hpl] at RX2 ⊢
  clear hP0 hpl
  clear o2 b2
  go_upto_if 44 with fail
  go_cut [] (fun wx => Below w2.heap.size w2 wx)
  case first =>
    rcases chkO_cases o with ⟨hm, hc⟩ | ⟨hm, hc⟩
    rotate_left
    · have t5 : (chkO o == 0) = false := by rw [hc]; rfl
      have hc8 := hc
      go_wp2_with fail
      go_meet
      exact Below.refl _ _
    have t5 : (chkO o == 0) = true := by rw [hc]; rfl
    have hPP : bytesO o = P := by rw [← HP0.out]; unfold putB; rw [if_pos hm]
    have TK : Hid (∀ i, i < P.length → ansO (P.take i) = (zop, 0, 8)) := fun i hi => by rw [← hPP] at hi ⊢; exact take_none hm hi
    have PLEN : Hid (P.length ≤ 1200) := by rw [← hPP]; exact bytesO_len hm
    have ALL2 : Hid (∀ (W : World) (v : Value), OpL W v [o, o] → Calls Try.prog 8 #[v] W (Put2 0 (2 :: (P ++ P)) W)) := fun W v h => by
      have := AL0.out W v _ h
      rw [(two_list hm).1, (two_list hm).2, hPP] at this
      exact this
    have GO2 := Lib.hid (fun (W : World) (v : Value) => GO.out W v hm)
    rw [hPP] at GO2
    have s2 := str_two P
    rw [← HPL.out] at GO2
    clear hc hPP hm
    have bo := (Below.refl w2.heap.size w2).alloc (Nat.le_refl _) (.cells #[] 5)
    have BC0 := Lib.hid (Below.refl w2.heap.size w2)
    have pl1 := PLEN.out
    rw [← HPL.out] at pl1
    have own0 := own_new w2 w2.heap.size (Nat.le_refl _)
    have RXa := Lib.hid (RX2.out.keeps bo)
    have BO := Lib.hid bo
    clear bo
    go_wp2_with (at_builtin; refine wpList_append_bytes rfl (.tmp 46) (.tmp 47) rfl w2.heap.size _ [] rfl own0 _ P rfl RXa.out ?k1 ?k2 ?_)
    case k1 => rw [← HPL.out]; simp; omega
    case k2 => simp
    rintro v3 w3 own3 b3
    have OW3 : Hid (w3.ownsRow w2.heap.size 5 1 v3 P.length (bs P)) := own3
    clear own3
    have b3' := BO.out.trans b3
    have RBa := Lib.hid (RB_8.out.keeps b3')
    have BO3 := Lib.hid b3'
    go_wp2_with (at_builtin; refine wpList_append_bytes rfl (.tmp 48) (.tmp 49) rfl w2.heap.size _ P rfl OW3.out _ xs rfl RBa.out ?k1 ?k2 ?_)
    case k1 => have hx9 := HN1.out; rw [← HPL.out]; omega
    case k2 => exact BO3.out.size
    rintro v4 w4 own4 b4
    have b4' := BO3.out.trans b4
    have R4 : Hid (Reads w4 v4 (P ++ xs)) := Reads.own (by rw [List.length_append]; exact own4)
    have B_9 := Lib.hid (bt B_5.out b4')
    clear B_5
    have FA_10 := Lib.hid (FA_6.out.keeps b4')
    clear FA_6
    have RA_11 := Lib.hid (RA_7.out.keeps b4')
    clear RA_7
    have RB_12 := Lib.hid (RB_8.out.keeps b4')
    clear RB_8
    have RX_13 := Lib.hid (RX2.out.keeps b4')
    clear RX2
    have BC_14 := Lib.hid (bt BC0.out b4')
    clear BC0
    clear own0 OW3 own4 b3 b3' b4 b4' RXa RBa BO BO3
    go_wp2_with fail
    refine (GO2.out _ _ R4.out (by rw [List.length_append, ← HPL.out, ← HN1.out]; omega)).mono ?_
    rintro e w5 ⟨aoP, capP, rfl, o5, b5⟩
    have B_15 := Lib.hid (bt B_9.out b5)
    clear B_9
    have FA_16 := Lib.hid (FA_10.out.keeps b5)
    clear FA_10
    have RA_17 := Lib.hid (RA_11.out.keeps b5)
    clear RA_11
    have RB_18 := Lib.hid (RB_12.out.keeps b5)
    clear RB_12
    have RX_19 := Lib.hid (RX_13.out.keeps b5)
    clear RX_13
    have BC_20 := Lib.hid (bt BC_14.out b5)
    clear BC_14
    have RP_21 : Hid (Runs w5 (.slice aoP n0 capP) l) := by rw [HNL.out] at o5 ⊢; exact Go.Proofs.Ytelilmhnfmojkaa.Runs.own o5
    have bo := (Below.refl _ w5).alloc (Nat.le_refl _) (.cells #[.int .u8 (k : Int), .int .u32 (t : Int), .int .u8 (r : Int), .slice aoP n0 capP, .int .i64 p] 35)
    have B_22 := Lib.hid (bt B_15.out bo)
    clear B_15
    have FA_23 := Lib.hid (FA_16.out.keeps bo)
    clear FA_16
    have RA_24 := Lib.hid (RA_17.out.keeps bo)
    clear RA_17
    have RB_25 := Lib.hid (RB_18.out.keeps bo)
    clear RB_18
    have RX_26 := Lib.hid (RX_19.out.keeps bo)
    clear RX_19
    have BC_27 := Lib.hid (bt BC_20.out bo)
    clear BC_20
    have RP_28 := Lib.hid (RP_21.out.keeps bo)
    clear RP_21
    have FP_29 := Lib.hid (five_new w5 (.int .u8 (k : Int)) (.int .u32 (t : Int)) (.int .u8 (r : Int)) (.slice aoP n0 capP) (.int .i64 p) 35)
    clear o5 b5 bo R4
    have hsz5 : (w5.alloc (.cells #[.int .u8 (k : Int), .int .u32 (t : Int), .int .u8 (r : Int), .slice aoP n0 capP, .int .i64 p] 35)).heap.size = w5.heap.size + 1 := by simp
    have tw := TWO.out _ _ RA_24.out
    rw [hsz5] at tw
    have TW := Lib.hid tw
    clear tw hsz5
    obtain ⟨-, c0, c1, c2, c3, c4⟩ := FA_23.out
    go_wp2_with fail
    clear c0 c1 c2 c3 c4
    have bo2 := (Below.refl _ (w5.alloc (.cells #[.int .u8 (k : Int), .int .u32 (t : Int), .int .u8 (r : Int), .slice aoP n0 capP, .int .i64 p] 35))).alloc (Nat.le_refl _) (.cells #[.int .u8 (k : Int), .int .u32 (t : Int), .int .u8 (r : Int), .slice ao0 n0 cap0, .int .i64 p, .int .u8 (k : Int), .int .u32 (t : Int), .int .u8 (r : Int), .slice ao0 n0 cap0, .int .i64 p] 35)
    have B_30 := Lib.hid (bt B_22.out bo2)
    clear B_22
    have FA_31 := Lib.hid (FA_23.out.keeps bo2)
    clear FA_23
    have RA_32 := Lib.hid (RA_24.out.keeps bo2)
    clear RA_24
    have RB_33 := Lib.hid (RB_25.out.keeps bo2)
    clear RB_25
    have RX_34 := Lib.hid (RX_26.out.keeps bo2)
    clear RX_26
    have BC_35 := Lib.hid (bt BC_27.out bo2)
    clear BC_27
    have RP_36 := Lib.hid (RP_28.out.keeps bo2)
    clear RP_28
    have FP_37 := Lib.hid (FP_29.out.keeps bo2)
    clear FP_29
    clear bo2
    refine (ALL2.out _ _ TW.out).mono ?_
    rintro e w6 ⟨vl, rfl, o6, b6⟩
    have B_38 := Lib.hid (bt B_30.out b6)
    clear B_30
    have FA_39 := Lib.hid (FA_31.out.keeps b6)
    clear FA_31
    have RA_40 := Lib.hid (RA_32.out.keeps b6)
    clear RA_32
    have RB_41 := Lib.hid (RB_33.out.keeps b6)
    clear RB_33
    have RX_42 := Lib.hid (RX_34.out.keeps b6)
    clear RX_34
    have BC_43 := Lib.hid (bt BC_35.out b6)
    clear BC_35
    have RP_44 := Lib.hid (RP_36.out.keeps b6)
    clear RP_36
    have FP_45 := Lib.hid (FP_37.out.keeps b6)
    clear FP_37
    have RL_46 := Lib.hid (Reads.own o6)
    clear o6 b6 TW
    obtain ⟨-, c0, c1, c2, c3, c4⟩ := FP_45.out
    obtain ⟨-, d0, d1, d2, d3, d4⟩ := FA_39.out
    go_wp2_with fail
    clear c0 c1 c2 c3 c4 d0 d1 d2 d3 d4
    refine (SA0.out _ _ _ RP_44.out RA_40.out).mono ?_
    rintro e w7 ⟨rfl, b7⟩
    have B_47 := Lib.hid (bt B_38.out b7)
    clear B_38
    have FA_48 := Lib.hid (FA_39.out.keeps b7)
    clear FA_39
    have RA_49 := Lib.hid (RA_40.out.keeps b7)
    clear RA_40
    have RB_50 := Lib.hid (RB_41.out.keeps b7)
    clear RB_41
    have RX_51 := Lib.hid (RX_42.out.keeps b7)
    clear RX_42
    have BC_52 := Lib.hid (bt BC_43.out b7)
    clear BC_43
    have RP_53 := Lib.hid (RP_44.out.keeps b7)
    clear RP_44
    have FP_54 := Lib.hid (FP_45.out.keeps b7)
    clear FP_45
    have RL_55 := Lib.hid (RL_46.out.keeps b7)
    clear RL_46
    clear b7
    have sL := run_string RL_55.out
    have sX := run_string RX_51.out
    have zs : (str P).size = P.length := by simp [str, ByteArray.size]
    have pls := PLEN.out
    have cc1 : ¬ 9223372036854775807 < 1 + (str P).size := by omega
    have cc2 : ¬ 9223372036854775807 < 1 + (str P).size + (str P).size := by omega
    clear zs pls
    by_cases hm0 : many < 0
    · have u1 : decide (0 ≤ many) = false := decide_eq_false (by omega)
      go_wp2_with fail
      go_meet
      exact BC_52.out
    have u1 : decide (0 ≤ many) = true := decide_eq_true (by omega)
    by_cases hm1 : (pl : Int) ≤ many
    · have u2 : decide (many < (pl : Int)) = false := decide_eq_false (by omega)
      go_wp2_with fail
      go_meet
      exact BC_52.out
    have u2 : decide (many < (pl : Int)) = true := decide_eq_true (by omega)
    obtain ⟨i, rfl⟩ := Int.eq_ofNat_of_zero_le (show 0 ≤ many by omega)
    have hi : i < pl := by omega
    have u3 : decide (i < pl) = true := decide_eq_true hi
    have hcx : i ≤ capX := by have := (Reads.cap RX_51.out).2.1; have := HPL.out; omega
    have RT : Hid (Reads w7 (.slice aoX i capX) (P.take i)) := by
      have h := RX_51.out
      rw [HPL.out] at h
      exact h.take (by rw [← HPL.out]; omega)
    have GT : Hid (∀ (W : World) (v : Value), Reads W v (P.take i) → Calls Try.prog 15 #[v] W fun e w' => ∃ ao cap, e = .returned (.tuple #[.agg #[.int .u8 0, .int .u32 0, .int .u8 0, .slice ao 0 cap, .int .i64 0], .int .i64 0, .int .i64 8]) ∧ Below W.heap.size W w') := fun W v h => by
      have := GEN.out W v _ h (by rw [List.length_take, ← HPL.out]; omega)
      rw [TK.out i (by rw [← HPL.out]; exact hi)] at this
      refine this.mono ?_
      rintro e w' ⟨ao, cap, rfl, _, hb⟩
      exact ⟨ao, cap, rfl, hb⟩
    go_wp2_with fail
    refine (GT.out _ _ RT.out).mono ?_
    rintro e w8 ⟨ao8, cap8, rfl, b8⟩
    have b8' := b8.alloc b8.size (.cells #[.int .u8 0, .int .u32 0, .int .u8 0, .slice ao8 0 cap8, .int .i64 0] 35)
    have B8 := Lib.hid (bt BC_52.out b8')
    clear b8 b8'
    go_wp2_with fail
    go_meet
    exact B8.out
  case rest =>
    have hcut2 := Lib.hid hcut
    have B_901 := Lib.hid (bt B_5.out hcut2.out)
    clear B_5
    have FA_902 := Lib.hid (FA_6.out.keeps hcut2.out)
    clear FA_6
    have RA_903 := Lib.hid (RA_7.out.keeps hcut2.out)
    clear RA_7
    have RB_904 := Lib.hid (RB_8.out.keeps hcut2.out)
    clear RB_8
    clear hcut hcut2 RX2
    have GX := Lib.hid (GEN.out wc _ xs (RB_904.out) (by rw [← HN1.out]; omega))
    rcases ans_cases xs with hno | ⟨oa, hma, hya, hle, htk⟩
    · rw [hno] at GX
      unfold GotO at GX
      have HZ : Hid (∀ v : Value, opv zop v = .agg #[.int .u8 0, .int .u32 0, .int .u8 0, v, .int .i64 0]) := fun v => rfl
      simp only [HZ.out] at GX
      have HZL : Hid (zop.pl.length = 0) := rfl
      rw [HZL.out] at GX
      clear hno
      go_wp2_with fail
      refine GX.out.mono ?_
      rintro e w9 ⟨ao9, cap9, rfl, o9, b9⟩
      have b9' := b9.alloc b9.size (.cells #[.int .u8 0, .int .u32 0, .int .u8 0, .slice ao9 0 cap9, .int .i64 0] 35)
      have B9 := Lib.hid (bt B_901.out b9')
      clear o9 b9 b9'
      go_wp2
      go_ret
      exact ⟨rfl, B9.out⟩
    · rw [hya] at GX
      unfold GotO at GX
      have PA : Hid (∀ (W : World) (v : Value), Runs W v oa.pl → Calls Try.prog 10 #[opv oa v] W (Put2 0 (bytesO oa) W)) := fun W v h => by
        have := cPut_any (o := oa) h
        rw [show chkO oa = 0 by unfold chkO; rw [if_pos hma], show putB oa = bytesO oa by unfold putB; rw [if_pos hma]] at this
        exact this
      have HZ : Hid (∀ v : Value, opv oa v = .agg #[.int .u8 (oa.k : Int), .int .u32 (oa.t : Int), .int .u8 (oa.r : Int), v, .int .i64 oa.p]) := fun v => rfl
      obtain ⟨ka, hka⟩ : ∃ k, oa.k = k := ⟨_, rfl⟩
      obtain ⟨ta, hta⟩ : ∃ k, oa.t = k := ⟨_, rfl⟩
      obtain ⟨ra, hra⟩ : ∃ k, oa.r = k := ⟨_, rfl⟩
      obtain ⟨pa, hpa⟩ : ∃ k, oa.p = k := ⟨_, rfl⟩
      rw [hka, hta, hra, hpa] at HZ
      simp only [HZ.out] at GX PA
      obtain ⟨na, hna⟩ : ∃ n, n = oa.pl.length := ⟨_, rfl⟩
      have HNA := Lib.hid hna
      rw [← hna] at GX
      obtain ⟨E, hE⟩ : ∃ E, bytesO oa = E := ⟨_, rfl⟩
      rw [hE] at GX PA hle htk
      obtain ⟨el, hel⟩ : ∃ n, n = E.length := ⟨_, rfl⟩
      rw [← hel] at GX hle htk
      rw [← HN1.out] at hle
      have HTK := Lib.hid htk
      have v1 : decide (el ≤ n1) = true := decide_eq_true hle
      have v2 : decide ((el : Int) ≤ (n1 : Int)) = true := decide_eq_true (by omega)
      have hec : el ≤ cap1 := by omega
      clear hka hta hra hpa hna hE hel hma hya htk
      go_wp2_with fail
      refine GX.out.mono ?_
      rintro e w9 ⟨ao9, cap9, rfl, o9, b9⟩
      have R9 : Hid (Runs w9 (.slice ao9 na cap9) oa.pl) := by rw [HNA.out] at o9 ⊢; exact Go.Proofs.Ytelilmhnfmojkaa.Runs.own o9
      have bo := (Below.refl w9.heap.size w9).alloc (Nat.le_refl _) (.cells #[.int .u8 (ka : Int), .int .u32 (ta : Int), .int .u8 (ra : Int), .slice ao9 na cap9, .int .i64 pa] 35)
      have R10 := Lib.hid (R9.out.keeps bo)
      have B10 := Lib.hid (bt (bt B_901.out b9) bo)
      have RB10 := Lib.hid ((RB_904.out.keeps b9).keeps bo)
      clear o9 b9 bo R9
      go_wp2_with fail
      refine (PA.out _ _ R10.out).mono ?_
      rintro e w11 ⟨vy, rfl, o11, b11⟩
      have B11 := Lib.hid (bt B10.out b11)
      have RY : Reads w11 vy E := Reads.own o11
      have RB11 := RB10.out.keeps b11
      have RT : Reads w11 (.slice ao1 el cap1) E := by
        have h := RB11
        rw [HN1.out] at h
        have h2 := h.take (k := el) (by rw [← HN1.out]; exact hle)
        rwa [HTK.out] at h2
      have s3 : ∀ nq, (convert 22 9 vy).run Try.prog (w11.drewN nq) = .ok (.string (str E)) (w11.drewN nq) := fun nq => run_string (w := w11.drewN nq) RY
      have s4 : ∀ nq, (convert 22 9 (.slice ao1 el cap1)).run Try.prog (w11.drewN nq) = .ok (.string (str E)) (w11.drewN nq) := fun nq => run_string (w := w11.drewN nq) RT
      clear o11 b11 RY RB11 RT
      go_wp2
      go_quiet (fail)
      go_wp2
      go_ret
      exact ⟨rfl, below_draw B11.out _⟩
end Go.Proofs.Ytelilmhnfmojkaa.Codes

/- Slices of elements that came in: what they hold, and how long the slices in them can be. Conditions: none. -/
namespace Go.Proofs.Ytelilmhnfmojkaa
open Go.Joins Go.ChangeShapes Go.WideShapes Go.ChangeAt Go.RowKit Go.Deep Go.Proofs.Ytelilmhnfmojkaa.Ops

/-- A datum's slices are each within reach. -/
def Fits {H : Type} (t : TypeId) (d : DataW H) : Prop := ∀ n ∈ DataW.weights Try.prog t d, n ≤ reachBytes
theorem weightsAll_in {H : Type} {P : Program} {e : TypeId} {d : DataW H} : ∀ {l : List (DataW H)}, d ∈ l → ∀ n ∈ DataW.weights P e d, n ∈ DataW.weightsAll P e l
  | x :: l, h, n, hn => by
    simp only [DataW.weightsAll, List.mem_append]
    rcases List.mem_cons.1 h with rfl | h
    · exact .inl hn
    · exact .inr (weightsAll_in h n hn)
theorem fits_slice {H : Type} {ts te : TypeId} (hu : Try.prog.underlying ts = some (.slice te)) {ds sp : List (DataW H)} (h : Fits ts (.slice ds sp)) :
    (ds.length + sp.length) * Try.prog.bytesOf te ≤ reachBytes ∧ ∀ d ∈ ds, Fits te d := by
  unfold Fits at h
  simp only [DataW.weights, hu, List.mem_cons, List.mem_append] at h
  exact ⟨h _ (.inl rfl), fun d hd n hn => h n (.inr (.inl (weightsAll_in hd n hn)))⟩

theorem rows_flat {α : Type} (E : Enc α) {W : World} {g : Nat → List Value} {f : Nat → α} : ∀ (k s : Nat), (∀ i, s ≤ i → i < s + k → E.inn W (g i) (f i)) → E.rows W ((List.range' s k).flatMap g) ((List.range' s k).map f)
  | 0, _, _ => rfl
  | k + 1, s, h => by
    rw [List.range'_succ, List.flatMap_cons, List.map_cons]
    exact ⟨_, _, rfl, h s (Nat.le_refl _) (by omega), rows_flat E k (s + 1) (fun i h1 h2 => h i (by omega) (by omega))⟩
theorem flat_len {sz : Nat} {g : Nat → List Value} : ∀ (k s : Nat), (∀ i, s ≤ i → i < s + k → (g i).length = sz) → ((List.range' s k).flatMap g).length = k * sz
  | 0, _, _ => by simp
  | k + 1, s, h => by
    rw [List.range'_succ, List.flatMap_cons, List.length_append, h s (Nat.le_refl _) (by omega), flat_len k (s + 1) (fun i h1 h2 => h i (by omega) (by omega)), Nat.succ_mul]
    omega
theorem flat_get {sz : Nat} {g : Nat → List Value} : ∀ (k s i j : Nat), i < k → j < sz → (∀ i, s ≤ i → i < s + k → (g i).length = sz) → ((List.range' s k).flatMap g)[i * sz + j]? = (g (s + i))[j]?
  | 0, _, _, _, h, _, _ => by omega
  | k + 1, s, 0, j, _, hj, h => by
    show _ = (g s)[j]?
    rw [List.range'_succ, List.flatMap_cons, Nat.zero_mul, Nat.zero_add, List.getElem?_append_left (by rw [h s (Nat.le_refl _) (by omega)]; exact hj)]
  | k + 1, s, i + 1, j, hi, hj, h => by
    have hs := h s (Nat.le_refl _) (by omega)
    rw [List.range'_succ, List.flatMap_cons, List.getElem?_append_right (by rw [hs, Nat.succ_mul]; omega), hs, show (i + 1) * sz + j - sz = i * sz + j by rw [Nat.succ_mul]; omega,
      flat_get k (s + 1) i j (by omega) hj (fun i h1 h2 => h i (by omega) (by omega)), show s + 1 + i = s + (i + 1) by omega]

set_option maxRecDepth 100000 in
/-- What a slice's reading gives, out of what each element's gives. -/
theorem seq_cells {α : Type} (E : Enc α) {ts te : TypeId} (hu : Try.prog.underlying ts = some (.slice te)) (hc : Try.prog.cellsOf te = E.sz) {H : Type} {enc : TypeId × Value → H} {W : World} {R : α → Prop}
    (hel : ∀ (fuel : Nat) (cs : List Value) (y : DataW H × List MemPlace), cs.length = E.sz → DataW.trod enc Try.prog W 0 (fun _ => true) true fuel te cs = some y → ∃ a, E.inn W cs a ∧ (Fits te y.1 → R a))
    {v : Value} {fuel : Nat} {y : DataW H × List MemPlace} (hf : DataW.trod enc Try.prog W 0 (fun _ => true) true fuel ts [v] = some y) :
    ∃ (ao : Option Addr) (cap : Nat) (l : List α), v = .slice ao l.length cap ∧ Seq E W (.slice ao l.length cap) l ∧ (Fits ts y.1 → l.length * Try.prog.bytesOf te ≤ reachBytes ∧ ∀ a ∈ l, R a) := by
  have hp := E.pos
  rcases open_slice hu hf with ⟨hcs, hx⟩ | ⟨a, len, cap, m, n, D, Pl, hcs, _, hl, hm, hmm, hx, hi⟩
  · obtain rfl : v = .slice none 0 0 := by simpa using hcs
    exact ⟨none, 0, [], rfl, Seq.nil E W, fun _ => ⟨by simp, by simp⟩⟩
  · obtain rfl : v = .slice (some a) len cap := by simpa using hcs
    simp only [if_true] at hmm
    subst hmm
    unfold maxLen at hm
    by_cases hl0 : len = 0
    · subst hl0
      exact ⟨some a, m, [], rfl, ⟨[], ⟨by simp, some a, m, rfl, by omega, hm, by simp, .inl rfl⟩, rfl⟩, fun _ => ⟨by simp, by simp⟩⟩
    have each : ∀ i, i < m → ∃ c x, c.length = E.sz ∧ (∀ j, j < E.sz → W.cell? ((a.add (i * E.sz)).add j) = c[j]?) ∧ E.inn W c x ∧ (Fits te (D i) → R x) := by
      intro i him
      obtain ⟨cs, h1, h2⟩ := hi i him
      rw [hc] at h1
      obtain ⟨_, hcl, hat⟩ := World.cells?_some h1
      obtain ⟨x, h3, h4⟩ := hel n cs _ hcl h2
      exact ⟨cs, x, hcl, hat, h3, h4⟩
    have hm0 : 0 < m := by omega
    have hsel : ∃ (g : Nat → List Value) (f : Nat → α), ∀ i, i < m → (g i).length = E.sz ∧ (∀ j, j < E.sz → W.cell? ((a.add (i * E.sz)).add j) = (g i)[j]?) ∧ E.inn W (g i) (f i) ∧ (Fits te (D i) → R (f i)) :=
      ⟨fun i => if h : i < m then Classical.choose (each i h) else Classical.choose (each 0 hm0), fun i => if h : i < m then Classical.choose (Classical.choose_spec (each i h)) else Classical.choose (Classical.choose_spec (each 0 hm0)),
        fun i h => by simp only [h, dif_pos]; exact Classical.choose_spec (Classical.choose_spec (each i h))⟩
    obtain ⟨g, f, hgf⟩ := hsel
    have hxl : ((List.range' 0 len).map f).length = len := by simp
    have hgl : ∀ i, 0 ≤ i → i < 0 + len → (g i).length = E.sz := fun i _ h => (hgf i (by omega)).1
    have hcl := flat_len (sz := E.sz) (g := g) len 0 hgl
    refine ⟨some a, m, (List.range' 0 len).map f, by rw [hxl], ⟨(List.range' 0 len).flatMap g, ⟨by rw [hxl, hcl], some a, m, rfl, by omega, hm, by simp, ?_⟩, rows_flat E len 0 (fun i _ h => (hgf i (by omega)).2.2.1)⟩, ?_⟩
    · right
      obtain ⟨c0, x0, hc0, ha0, _, _⟩ := each 0 hm0
      obtain ⟨u0, hu0⟩ : ∃ u, c0[0]? = some u := ⟨c0[0]'(by omega), List.getElem?_eq_getElem (by omega)⟩
      have h00 := (ha0 0 hp).trans hu0
      obtain ⟨b, off, spot⟩ := a
      have hspot : spot = none := by simpa [Addr.add] using World.cell?_spot h00
      subst hspot
      refine ⟨b, off, rfl, World.block_lt_of_cell? W ⟨b, off, none⟩ (by simpa [Addr.add] using h00), fun j u hj => ?_⟩
      have hjl : j < ((List.range' 0 len).flatMap g).length := (List.getElem?_eq_some_iff.1 hj).1
      rw [hcl] at hjl
      have hij : j = (j / E.sz) * E.sz + j % E.sz := by rw [Nat.mul_comm]; exact (Nat.div_add_mod j E.sz).symm
      have hi1 : j / E.sz < len := Nat.div_lt_of_lt_mul (by rw [Nat.mul_comm]; exact hjl)
      have hj1 : j % E.sz < E.sz := Nat.mod_lt _ hp
      rw [hij, flat_get len 0 (j / E.sz) (j % E.sz) hi1 hj1 hgl, Nat.zero_add, ← (hgf (j / E.sz) (by omega)).2.1 _ hj1] at hj
      rw [← hj, add_plain, add_plain, Nat.add_assoc, ← hij]
    · intro hw
      rw [hx] at hw
      obtain ⟨h1, h2⟩ := fits_slice hu hw
      refine ⟨Nat.le_trans (Nat.mul_le_mul_right _ (by simp)) h1, fun x hx => ?_⟩
      obtain ⟨i, hi2, rfl⟩ := List.mem_map.1 hx
      have hil : i < len := by have := List.mem_range'_1.1 hi2; omega
      exact (hgf i (by omega)).2.2.2 (h2 _ (List.mem_map.2 ⟨i, List.mem_range.2 hil, rfl⟩))

/-! ### Runs, operations -/
def runE : Enc Run where
  sz := 3
  pos := by decide
  inn _ cs x := cs = [.int .u32 (x.t : Int), .int .u8 (x.r : Int), .int .i64 x.m]
  len := by rintro w cs x rfl; rfl
  one := by
    rintro w cs x rfl u hu
    simp only [List.mem_cons, List.not_mem_nil, or_false] at hu
    rcases hu with rfl | rfl | rfl <;> rfl
  keep := by rintro w w' cs x _ h; exact h
theorem runE_rows {w : World} : ∀ {cs : List Value} {l : List Run}, runE.rows w cs l → cs = runs l
  | _, [], h => h
  | _, _ :: _, ⟨c, d, h1, h2, h3⟩ => by
    rw [h1, show c = _ from h2, runE_rows h3]
    rfl
set_option maxRecDepth 100000 in
theorem kit_bytesRun : Try.prog.bytesOf 71 = 16 := by kernel_rfl
set_option maxRecDepth 100000 in
theorem kit_bytesOp : Try.prog.bytesOf 35 = 48 := by kernel_rfl
set_option maxRecDepth 100000 in
theorem run_cells {H : Type} {enc : TypeId × Value → H} {W : World} {fuel : Nat} {cs : List Value} {y : DataW H × List MemPlace} (hcl : cs.length = 3)
    (ht : DataW.trod enc Try.prog W 0 (fun _ => true) true fuel 71 cs = some y) : ∃ x : Run, cs = [.int .u32 (x.t : Int), .int .u8 (x.r : Int), .int .i64 x.m] := by
  obtain ⟨y0, y1, y2, n2, -, hlen, h0, h1, h2⟩ := trod_struct3 Try.underlying71 ht
  match cs, hcl with
  | [c0, c1, c2], _ =>
    have h0' : DataW.trod enc Try.prog W 0 (fun _ => true) true n2 30 [c0] = some y0 := h0
    have h1' : DataW.trod enc Try.prog W 0 (fun _ => true) true n2 5 [c1] = some y1 := h1
    have h2' : DataW.trod enc Try.prog W 0 (fun _ => true) true n2 3 [c2] = some y2 := h2
    obtain ⟨z, e0, -, wz⟩ := DataW.trod_int Try.underlying30 h0'
    obtain ⟨u, e1, -, wu⟩ := DataW.trod_int Try.underlying5 h1'
    obtain ⟨mm, e2, -, wm⟩ := DataW.trod_int Try.underlying3 h2'
    simp at e0 e1 e2
    subst e0 e1 e2
    have hmb : -9223372036854775808 ≤ mm ∧ mm ≤ 9223372036854775807 := by simpa [Lit.wf, IntKind.min, IntKind.max, IntKind.signed, IntKind.bits] using wm
    obtain ⟨tn, rfl, hn⟩ := wf_u32 wz
    obtain ⟨q, rfl, hq⟩ := wf_u8 wu
    exact ⟨⟨tn, q, mm, hn, hq, hmb⟩, rfl⟩
set_option maxRecDepth 100000 in
/-- A slice of runs that is read, and how long it can be. -/
theorem runs_fits {H : Type} {enc : TypeId × Value → H} {W : World} {v : Value} {fuel : Nat} {y : DataW H × List MemPlace}
    (hf : DataW.trod enc Try.prog W 0 (fun _ => true) true fuel 33 [v] = some y) :
    ∃ (ao : Option Addr) (cap : Nat) (l : List Run), v = .slice ao l.length cap ∧ Runs W (.slice ao l.length cap) l ∧ (Fits 33 y.1 → l.length ≤ 8796093022208) := by
  obtain ⟨ao, cap, l, h1, ⟨cs, h2, h3⟩, h4⟩ := seq_cells (R := fun _ => True) runE Try.underlying33 kit_cellsRun (fun fuel cs y hcl ht => by
    obtain ⟨x, hx⟩ := run_cells hcl ht
    exact ⟨x, hx, fun _ => trivial⟩) hf
  rw [runE_rows h3] at h2
  refine ⟨ao, cap, l, h1, h2, fun h => ?_⟩
  have h5 := (h4 h).1
  rw [kit_bytesRun] at h5
  unfold reachBytes at h5
  omega
set_option maxRecDepth 100000 in
theorem op_cells {H : Type} {enc : TypeId × Value → H} {W : World} {fuel : Nat} {cs : List Value} {y : DataW H × List MemPlace} (hcl : cs.length = 5)
    (ht : DataW.trod enc Try.prog W 0 (fun _ => true) true fuel 35 cs = some y) : ∃ o : Opn, opE.inn W cs o ∧ (Fits 35 y.1 → o.pl.length ≤ 8796093022208) := by
  obtain ⟨y0, y1, y2, y3, n, hy, -, h0, h1, h2, h3⟩ := trod_struct4 Try.underlying35 ht
  match cs, hcl with
  | [c0, c1, c2, c3, c4], _ =>
    have h0' : DataW.trod enc Try.prog W 0 (fun _ => true) true n 5 [c0] = some y0 := h0
    have h1' : DataW.trod enc Try.prog W 0 (fun _ => true) true n 32 [c1, c2] = some y1 := h1
    have h2' : DataW.trod enc Try.prog W 0 (fun _ => true) true n 33 [c3] = some y2 := h2
    have h3' : DataW.trod enc Try.prog W 0 (fun _ => true) true n 3 [c4] = some y3 := h3
    obtain ⟨z0, z1, n2, -, -, g0, g1⟩ := trod_struct2 Try.underlying32 h1'
    have g0' : DataW.trod enc Try.prog W 0 (fun _ => true) true n2 30 [c1] = some z0 := g0
    have g1' : DataW.trod enc Try.prog W 0 (fun _ => true) true n2 5 [c2] = some z1 := g1
    obtain ⟨k, e0, -, wk⟩ := DataW.trod_int Try.underlying5 h0'
    obtain ⟨t, e1, -, wt⟩ := DataW.trod_int Try.underlying30 g0'
    obtain ⟨r, e2, -, wr⟩ := DataW.trod_int Try.underlying5 g1'
    obtain ⟨q, e4, -, wq⟩ := DataW.trod_int Try.underlying3 h3'
    obtain ⟨ao, cap, l, e3, hl, hb⟩ := runs_fits h2'
    simp at e0 e1 e2 e4
    subst e0 e1 e2 e3 e4
    have hq : -9223372036854775808 ≤ q ∧ q ≤ 9223372036854775807 := by simpa [Lit.wf, IntKind.min, IntKind.max, IntKind.signed, IntKind.bits] using wq
    obtain ⟨k, rfl, hk⟩ := wf_u8 wk
    obtain ⟨t, rfl, ht2⟩ := wf_u32 wt
    obtain ⟨r, rfl, hr⟩ := wf_u8 wr
    refine ⟨⟨k, t, r, l, q, hk, ht2, hr, hq⟩, ⟨_, rfl, hl⟩, fun h => hb (fun n hn => h n ?_)⟩
    rw [hy]
    simp only [DataW.weights, Try.underlying35, List.map_cons, DataW.weightsEach, List.mem_append]
    exact .inr (.inr (.inl hn))
set_option maxRecDepth 100000 in
/-- An argument that is a slice of operations. -/
theorem ops_of {H : Type} {enc : TypeId × Value → H} {W : World} {v : Value} {d : DataW H} {p : List MemPlace} {base : Nat}
    (hv : Value.okWide Try.prog W .any base 26 v) (h : DataW.Trod enc Try.prog W 0 (fun _ => true) true 26 v d p) :
    ∃ (ao : Option Addr) (cap : Nat) (l : List Opn), v = .slice ao l.length cap ∧ OpL W (.slice ao l.length cap) l ∧ (Fits 26 d → l.length ≤ 2932031007402 ∧ ∀ o ∈ l, o.pl.length ≤ 8796093022208) := by
  obtain ⟨a0, len, cap, rfl⟩ := okWide_slice Try.underlying26 hv
  obtain ⟨fuel, hf⟩ := h
  rw [show (Value.slice a0 len cap).cells.toList = [Value.slice a0 len cap] by simp [Value.cells]] at hf
  obtain ⟨ao, cap, l, h1, h2, h3⟩ := seq_cells (R := fun o : Opn => o.pl.length ≤ 8796093022208) opE Try.underlying26 kit_cellsOp (fun fuel cs y hcl ht => op_cells hcl ht) hf
  refine ⟨ao, cap, l, h1, h2, fun h => ?_⟩
  obtain ⟨h4, h5⟩ := h3 h
  rw [kit_bytesOp] at h4
  unfold reachBytes at h4
  exact ⟨by omega, h5⟩
end Go.Proofs.Ytelilmhnfmojkaa
