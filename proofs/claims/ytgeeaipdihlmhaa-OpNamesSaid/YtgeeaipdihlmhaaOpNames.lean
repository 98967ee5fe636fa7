/- OpNames answers true. Conditions: none. -/
import Derived.Test.YtgeeaipdihlmhaaOpLaws
import Derived.Test.YtgeeaipdihlmhaaPlaceLaws
namespace Go.Proofs.Ytgeeaipdihlmhaa.Ops
open Go.RowKit Stamp Go.Proofs.Ytgeeaipdihlmhaa.Place
attribute [local go_sem ↓] Go.wp_at_zero Go.wp_at_succ

theorem bad_lit {k t r : Nat} {l : List Run} {p : Int} (h : k < 256 ∧ t < 4294967296 ∧ r < 256) (hp : -9223372036854775808 ≤ p ∧ p ≤ 9223372036854775807) (K T R : Int) (hK : K = k) (hT : T = t) (hR : R = r) (hm : mayO ⟨k, t, r, l, p, h.1, h.2.1, h.2.2, hp⟩ = false) (W : World) (v : Value) (hv : Runs W v l) :
    Calls Try.prog 10 #[.agg #[.int .u8 K, .int .u32 T, .int .u8 R, v, .int .i64 p]] W fun e w' => e = .returned (.bool true) ∧ Below W.heap.size W w' := by
  subst hK hT hR
  exact bad_yes (o := ⟨k, t, r, l, p, h.1, h.2.1, h.2.2, hp⟩) hv hm
theorem cont_lit {k t r : Nat} {l : List Run} {p : Int} {b : Bool} (h : k < 256 ∧ t < 4294967296 ∧ r < 256) (hp : -9223372036854775808 ≤ p ∧ p ≤ 9223372036854775807) (K T R : Int) (hK : K = k) (hT : T = t) (hR : R = r) (hm : contB ⟨k, t, r, l, p, h.1, h.2.1, h.2.2, hp⟩ = b) (W : World) (v : Value) :
    Calls Try.prog 12 #[.agg #[.int .u8 K, .int .u32 T, .int .u8 R, v, .int .i64 p]] W fun e w' => e = .returned (.bool b) ∧ Below W.heap.size W w' := by
  subst hK hT hR hm
  exact oContent_any (o := ⟨k, t, r, l, p, h.1, h.2.1, h.2.2, hp⟩) W

set_option maxRecDepth 100000 in
set_option maxHeartbeats 4000000 in
theorem names_any (w : World) : Calls Try.prog 3 #[] w fun e w' => e = .returned (.bool true) ∧ Below w.heap.size w w' := by
  have X1 := Lib.hid (bad_lit (k := 2) (t := 1) (r := 0) (l := [lr9 1 0 1 (by decide)]) (p := 1) (by decide) (by decide) 2 1 0 rfl rfl rfl (by decide +kernel))
  have X2 := Lib.hid (bad_lit (k := 1) (t := 3) (r := 0) (l := [lr9 1 0 2 (by decide)]) (p := 97) (by decide) (by decide) 1 3 0 rfl rfl rfl (by decide +kernel))
  have X3 := Lib.hid (bad_lit (k := 3) (t := 3) (r := 1) (l := [lr9 1 0 3 (by decide)]) (p := 0) (by decide) (by decide) 3 3 1 rfl rfl rfl (by decide +kernel))
  have X4 := Lib.hid (bad_lit (k := 1) (t := 1) (r := 0) (l := [lr9 1 0 1 (by decide)]) (p := 55296) (by decide) (by decide) 1 1 0 rfl rfl rfl (by decide +kernel))
  have X5 := Lib.hid (bad_lit (k := 5) (t := 1) (r := 0) (l := [lr9 1 0 1 (by decide)]) (p := 0) (by decide) (by decide) 5 1 0 rfl rfl rfl (by decide +kernel))
  have X6 := Lib.hid (bad_lit (k := 0) (t := 0) (r := 0) (l := []) (p := 0) (by decide) (by decide) 0 0 0 rfl rfl rfl (by decide +kernel))
  have X7 := Lib.hid (cont_lit (k := 3) (t := 0) (r := 0) (l := []) (p := 0) (b := true) (by decide) (by decide) 3 0 0 rfl rfl rfl rfl)
  have X8 := Lib.hid (cont_lit (k := 2) (t := 1) (r := 0) (l := [lr9 1 0 1 (by decide)]) (p := 0) (b := false) (by decide) (by decide) 2 1 0 rfl rfl rfl rfl)
  have X0 : Hid (∀ (W : World) (v u : Value), Runs W v [lr9 1 0 1 (by decide)] → Ids W u [] → Calls Try.prog 9 #[.agg #[.int .u8 2, .int .u32 1, .int .u8 0, v, .int .i64 0], u] W fun e w' => e = .returned (.bool true) ∧ Below W.heap.size W w') := fun W v u h h2 => needs_yes (o := lo9 2 1 0 [lr9 1 0 1 (by decide)] 0 (by decide)) h h2 (by decide +kernel) (by decide +kernel)
  have RO := runs_lit w [lr9 1 0 1 (by decide)] #[.int .u32 1, .int .u8 0, .int .i64 1] 1 w.heap.size rfl rfl (by decide) rfl
  have b1 := (Below.refl _ w).alloc (Nat.le_refl _) (.cells #[.int .u32 1, .int .u8 0, .int .i64 1] 24)
  have RT := runs_lit (w.alloc (.cells #[.int .u32 1, .int .u8 0, .int .i64 1] 24)) [lr9 1 0 2 (by decide)] #[.int .u32 1, .int .u8 0, .int .i64 2] 1 (w.heap.size + 1) rfl rfl (by decide) (by simp)
  have b2 := (Below.refl _ (w.alloc (.cells #[.int .u32 1, .int .u8 0, .int .i64 1] 24))).alloc (Nat.le_refl _) (.cells #[.int .u32 1, .int .u8 0, .int .i64 2] 24)
  have HO := Lib.hid (RO.keeps b2)
  have HT := Lib.hid RT
  have HB := Lib.hid (bt b1 b2)
  clear RO RT b1 b2
  go_enter Try.func3, Try.ntmps3
  go_wp2_with fail
  refine (by09_any _ _ _).mono ?_
  rintro e w1 ⟨rfl, b⟩
  have F1 := Lib.hid (HO.out.keeps b)
  clear HO
  have F2 := Lib.hid (HT.out.keeps b)
  clear HT
  have B1 := Lib.hid (bt HB.out b)
  clear b
  have b := ((Below.refl _ w1).alloc (Nat.le_refl _) (.cells #[.int .u8 2, .int .u32 1, .int .u8 0, .slice (some ⟨w.heap.size, 0, none⟩) 1 1, .int .i64 0] 30)).alloc (by simp) (.cells #[.int .u8 2, .int .u32 1, .int .u8 0, .slice (some ⟨w.heap.size, 0, none⟩) 1 1, .int .i64 1] 30)
  have F3 := Lib.hid (F1.out.keeps b)
  clear F1
  have F4 := Lib.hid (F2.out.keeps b)
  clear F2
  have f1 := (five_new w1 (.int .u8 2) (.int .u32 1) (.int .u8 0) (.slice (some ⟨w.heap.size, 0, none⟩) 1 1) (.int .i64 0) 30).keeps ((Below.refl _ _).alloc (Nat.le_refl _) (.cells #[.int .u8 2, .int .u32 1, .int .u8 0, .slice (some ⟨w.heap.size, 0, none⟩) 1 1, .int .i64 1] 30))
  have f2 : Five ((w1.alloc (.cells #[.int .u8 2, .int .u32 1, .int .u8 0, .slice (some ⟨w.heap.size, 0, none⟩) 1 1, .int .i64 0] 30)).alloc (.cells #[.int .u8 2, .int .u32 1, .int .u8 0, .slice (some ⟨w.heap.size, 0, none⟩) 1 1, .int .i64 1] 30)) (w1.heap.size + 1) (.int .u8 2) (.int .u32 1) (.int .u8 0) (.slice (some ⟨w.heap.size, 0, none⟩) 1 1) (.int .i64 1) := by
    have h := five_new (w1.alloc (.cells #[.int .u8 2, .int .u32 1, .int .u8 0, .slice (some ⟨w.heap.size, 0, none⟩) 1 1, .int .i64 0] 30)) (.int .u8 2) (.int .u32 1) (.int .u8 0) (.slice (some ⟨w.heap.size, 0, none⟩) 1 1) (.int .i64 1) 30
    rwa [show (w1.alloc (.cells #[.int .u8 2, .int .u32 1, .int .u8 0, .slice (some ⟨w.heap.size, 0, none⟩) 1 1, .int .i64 0] 30)).heap.size = w1.heap.size + 1 by simp] at h
  have G1 := Lib.hid f1
  have G2 := Lib.hid f2
  have B1' := Lib.hid (bt B1.out b)
  clear f1 f2 b
  go_wp2_with fail
  refine (alive09_any _).mono ?_
  rintro e w2 ⟨rfl, b⟩
  have F5 := Lib.hid (F3.out.keeps b)
  clear F3
  have F6 := Lib.hid (F4.out.keeps b)
  clear F4
  have F7 := Lib.hid (G1.out.keeps b)
  clear G1
  have F8 := Lib.hid (G2.out.keeps b)
  clear G2
  have B2 := Lib.hid (bt B1'.out b)
  clear b
  obtain ⟨-, c0, c1, c2, c3, c4⟩ := F7.out
  skip
  go_wp2_with fail
  refine (X0.out _ _ _ F5.out (Ids.nil _)).mono ?_
  rintro e w3 ⟨rfl, b⟩
  have F9 := Lib.hid (F5.out.keeps b)
  clear F5
  have F10 := Lib.hid (F6.out.keeps b)
  clear F6
  have F11 := Lib.hid (F7.out.keeps b)
  clear F7
  have F12 := Lib.hid (F8.out.keeps b)
  clear F8
  have B3 := Lib.hid (bt B2.out b)
  clear b
  clear c0 c1 c2 c3 c4
  obtain ⟨-, c0, c1, c2, c3, c4⟩ := F12.out
  go_wp2_with fail
  refine (X1.out _ _ F9.out).mono ?_
  rintro e w4 ⟨rfl, b⟩
  have F13 := Lib.hid (F9.out.keeps b)
  clear F9
  have F14 := Lib.hid (F10.out.keeps b)
  clear F10
  have F15 := Lib.hid (F11.out.keeps b)
  clear F11
  have F16 := Lib.hid (F12.out.keeps b)
  clear F12
  have B4 := Lib.hid (bt B3.out b)
  clear b
  clear c0 c1 c2 c3 c4
  go_wp2_with fail
  refine (by09_any _ _ _).mono ?_
  rintro e w5 ⟨rfl, b⟩
  have F17 := Lib.hid (F13.out.keeps b)
  clear F13
  have F18 := Lib.hid (F14.out.keeps b)
  clear F14
  have F19 := Lib.hid (F15.out.keeps b)
  clear F15
  have F20 := Lib.hid (F16.out.keeps b)
  clear F16
  have B5 := Lib.hid (bt B4.out b)
  clear b
  go_wp2_with fail
  refine (X2.out _ _ F18.out).mono ?_
  rintro e w6 ⟨rfl, b⟩
  have F21 := Lib.hid (F17.out.keeps b)
  clear F17
  have F22 := Lib.hid (F18.out.keeps b)
  clear F18
  have F23 := Lib.hid (F19.out.keeps b)
  clear F19
  have F24 := Lib.hid (F20.out.keeps b)
  clear F20
  have B6 := Lib.hid (bt B5.out b)
  clear b
  go_wp2_with fail
  refine (by09_any _ _ _).mono ?_
  rintro e w7 ⟨rfl, b⟩
  have F25 := Lib.hid (F21.out.keeps b)
  clear F21
  have F26 := Lib.hid (F22.out.keeps b)
  clear F22
  have F27 := Lib.hid (F23.out.keeps b)
  clear F23
  have F28 := Lib.hid (F24.out.keeps b)
  clear F24
  have B7 := Lib.hid (bt B6.out b)
  clear b
  go_wp2_with fail
  refine (three_any _).mono ?_
  rintro e w8 ⟨g3, rfl, r3, b⟩
  have F29 := Lib.hid (F25.out.keeps b)
  clear F25
  have F30 := Lib.hid (F26.out.keeps b)
  clear F26
  have F31 := Lib.hid (F27.out.keeps b)
  clear F27
  have F32 := Lib.hid (F28.out.keeps b)
  clear F28
  have B8 := Lib.hid (bt B7.out b)
  have R3 := Lib.hid r3
  clear r3
  clear b
  go_wp2_with fail
  refine (X3.out _ _ R3.out).mono ?_
  rintro e w9 ⟨rfl, b⟩
  have F33 := Lib.hid (F29.out.keeps b)
  clear F29
  have F34 := Lib.hid (F30.out.keeps b)
  clear F30
  have F35 := Lib.hid (F31.out.keeps b)
  clear F31
  have F36 := Lib.hid (F32.out.keeps b)
  clear F32
  have F37 := Lib.hid (R3.out.keeps b)
  clear R3
  have B9 := Lib.hid (bt B8.out b)
  clear b
  go_wp2_with fail
  refine (by09_any _ _ _).mono ?_
  rintro e w10 ⟨rfl, b⟩
  have F38 := Lib.hid (F33.out.keeps b)
  clear F33
  have F39 := Lib.hid (F34.out.keeps b)
  clear F34
  have F40 := Lib.hid (F35.out.keeps b)
  clear F35
  have F41 := Lib.hid (F36.out.keeps b)
  clear F36
  have F42 := Lib.hid (F37.out.keeps b)
  clear F37
  have B10 := Lib.hid (bt B9.out b)
  clear b
  go_wp2_with fail
  refine (X4.out _ _ F38.out).mono ?_
  rintro e w11 ⟨rfl, b⟩
  have F43 := Lib.hid (F38.out.keeps b)
  clear F38
  have F44 := Lib.hid (F39.out.keeps b)
  clear F39
  have F45 := Lib.hid (F40.out.keeps b)
  clear F40
  have F46 := Lib.hid (F41.out.keeps b)
  clear F41
  have F47 := Lib.hid (F42.out.keeps b)
  clear F42
  have B11 := Lib.hid (bt B10.out b)
  clear b
  go_wp2_with fail
  refine (by09_any _ _ _).mono ?_
  rintro e w12 ⟨rfl, b⟩
  have F48 := Lib.hid (F43.out.keeps b)
  clear F43
  have F49 := Lib.hid (F44.out.keeps b)
  clear F44
  have F50 := Lib.hid (F45.out.keeps b)
  clear F45
  have F51 := Lib.hid (F46.out.keeps b)
  clear F46
  have F52 := Lib.hid (F47.out.keeps b)
  clear F47
  have B12 := Lib.hid (bt B11.out b)
  clear b
  go_wp2_with fail
  refine (X5.out _ _ F48.out).mono ?_
  rintro e w13 ⟨rfl, b⟩
  have F53 := Lib.hid (F48.out.keeps b)
  clear F48
  have F54 := Lib.hid (F49.out.keeps b)
  clear F49
  have F55 := Lib.hid (F50.out.keeps b)
  clear F50
  have F56 := Lib.hid (F51.out.keeps b)
  clear F51
  have F57 := Lib.hid (F52.out.keeps b)
  clear F52
  have B13 := Lib.hid (bt B12.out b)
  clear b
  go_wp2_with fail
  refine (X6.out _ _ (Runs.nil _)).mono ?_
  rintro e w14 ⟨rfl, b⟩
  have F58 := Lib.hid (F53.out.keeps b)
  clear F53
  have F59 := Lib.hid (F54.out.keeps b)
  clear F54
  have F60 := Lib.hid (F55.out.keeps b)
  clear F55
  have F61 := Lib.hid (F56.out.keeps b)
  clear F56
  have F62 := Lib.hid (F57.out.keeps b)
  clear F57
  have B14 := Lib.hid (bt B13.out b)
  clear b
  go_wp2_with fail
  refine (X7.out _ _).mono ?_
  rintro e w15 ⟨rfl, b⟩
  have F63 := Lib.hid (F58.out.keeps b)
  clear F58
  have F64 := Lib.hid (F59.out.keeps b)
  clear F59
  have F65 := Lib.hid (F60.out.keeps b)
  clear F60
  have F66 := Lib.hid (F61.out.keeps b)
  clear F61
  have F67 := Lib.hid (F62.out.keeps b)
  clear F62
  have B15 := Lib.hid (bt B14.out b)
  clear b
  obtain ⟨-, c0, c1, c2, c3, c4⟩ := F65.out
  go_wp2_with fail
  refine (X8.out _ _).mono ?_
  rintro e w16 ⟨rfl, b⟩
  have F68 := Lib.hid (F63.out.keeps b)
  clear F63
  have F69 := Lib.hid (F64.out.keeps b)
  clear F64
  have F70 := Lib.hid (F65.out.keeps b)
  clear F65
  have F71 := Lib.hid (F66.out.keeps b)
  clear F66
  have F72 := Lib.hid (F67.out.keeps b)
  clear F67
  have B16 := Lib.hid (bt B15.out b)
  clear b
  clear c0 c1 c2 c3 c4
  go_wp2
  go_ret
  exact ⟨rfl, B16.out⟩
end Go.Proofs.Ytgeeaipdihlmhaa.Ops
