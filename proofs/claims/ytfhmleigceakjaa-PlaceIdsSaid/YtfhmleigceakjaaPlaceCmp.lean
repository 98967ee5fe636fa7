/- octavo/place: Compare, Begins: what each answers. Conditions: the slices' cells are runs. -/
import Derived.Test.YtfhmleigceakjaaPlaceApart
import Derived.Test.YtfhmleigceakjaaPlaceCheck
import Derived.Test.YtfhmleigceakjaaPlaceFirst
namespace Go.Proofs.Ytfhmleigceakjaa.Place
open Go.RowKit Stamp
attribute [local go_sem ↓] Go.wp_at_zero Go.wp_at_succ

set_option maxRecDepth 100000 in
set_option maxHeartbeats 4000000 in
theorem pCompare_any {a b : Value} {p q : List Run} {w : World} (ha : Runs w a p) (hb : Runs w b q) :
    Calls Try.prog 13 #[a, b] w fun e w' => e = .returned (.int .i64 (cmp p q)) ∧ Below w.heap.size w w' := by
  have HA := Lib.hid ha
  have HB := Lib.hid hb
  obtain ⟨pb, hpb⟩ : ∃ pb, anyB p = pb := ⟨_, rfl⟩
  obtain ⟨qb, hqb⟩ : ∃ qb, anyB q = qb := ⟨_, rfl⟩
  have A1 : Hid (∀ W : World, Below w.heap.size w W → Calls Try.prog 31 #[a] W fun e w' => e = .returned (.bool pb) ∧ Below W.heap.size W w') := fun W hW => stands_is (HA.out.keeps hW) hpb
  have A2 : Hid (∀ W : World, Below w.heap.size w W → Calls Try.prog 31 #[b] W fun e w' => e = .returned (.bool qb) ∧ Below W.heap.size W w') := fun W hW => stands_is (HB.out.keeps hW) hqb
  have HPB := Lib.hid hpb
  have HQB := Lib.hid hqb
  clear ha hb hpb hqb
  cases pb
  · have hz : cmp p q = 0 := by unfold cmp; rw [if_neg (by rw [HPB.out]; simp)]
    rw [hz]
    clear hz
    go_enter Try.func13, Try.ntmps13
    go_wp2_with fail
    refine (A1.out _ (Below.refl _ _)).mono ?_
    rintro e w1 ⟨rfl, b1⟩
    go_wp2
    go_ret
    exact ⟨rfl, b1⟩
  cases qb
  · have hz : cmp p q = 0 := by unfold cmp; rw [if_neg (by rw [HQB.out]; simp)]
    rw [hz]
    clear hz
    go_enter Try.func13, Try.ntmps13
    go_wp2_with fail
    refine (A1.out _ (Below.refl _ _)).mono ?_
    rintro e w1 ⟨rfl, b1⟩
    have B1 := Lib.hid b1
    clear b1
    go_wp2_with fail
    refine (A2.out _ B1.out).mono ?_
    rintro e w2 ⟨rfl, b2⟩
    have B2 := Lib.hid (bt B1.out b2)
    clear b2
    go_wp2
    go_ret
    exact ⟨rfl, B2.out⟩
  have hz : cmp p q = hold (all p) (all q) := by unfold cmp; rw [if_pos ⟨HPB.out, HQB.out⟩]
  have AP : Hid (∀ W : World, Below w.heap.size w W → Calls Try.prog 34 #[a, b] W (Parted (hold (all p) (all q)) (first (all p) (all q)) W)) := fun W hW => apart_any (HA.out.keeps hW) (HB.out.keeps hW) ((anyB_iff p).1 HPB.out).chain ((anyB_iff q).1 HQB.out).chain
  rw [hz]
  obtain ⟨h0, hh0⟩ : ∃ h0, h0 = hold (all p) (all q) := ⟨_, rfl⟩
  obtain ⟨f0, hf0⟩ : ∃ f0, f0 = first (all p) (all q) := ⟨_, rfl⟩
  rw [← hh0, ← hf0] at AP
  rw [← hh0]
  clear hz hh0 hf0
  go_enter Try.func13, Try.ntmps13
  go_wp2_with fail
  refine (A1.out _ (Below.refl _ _)).mono ?_
  rintro e w1 ⟨rfl, b1⟩
  have B1 := Lib.hid b1
  clear b1
  go_wp2_with fail
  refine (A2.out _ B1.out).mono ?_
  rintro e w2 ⟨rfl, b2⟩
  have B2 := Lib.hid (bt B1.out b2)
  clear b2
  go_wp2_with fail
  refine (AP.out _ B2.out).mono ?_
  rintro e w3 ⟨x, y, rfl, he, hf, b3⟩
  have B3 := Lib.hid (bt B2.out b3)
  clear b3 AP hf A1 A2 B1 B2
  obtain ⟨t1, r1, m1, ht1, hr1, hm1⟩ := x
  obtain ⟨t2, r2, m2, ht2, hr2, hm2⟩ := y
  unfold ends at he
  simp only at he ⊢
  obtain ⟨wl, hwl⟩ : ∃ wl, wl = (w3.alloc (.cells #[.int .u32 (t1 : Int), .int .u8 (r1 : Int), .int .i64 m1] 29)).alloc (.cells #[.int .u32 (t2 : Int), .int .u8 (r2 : Int), .int .i64 m2] 29) := ⟨_, rfl⟩
  have PA : Hid (Tri wl w3.heap.size (.int .u32 (t1 : Int)) (.int .u8 (r1 : Int)) (.int .i64 m1)) := by
    rw [hwl]
    exact (tri_new w3 (.int .u32 (t1 : Int)) (.int .u8 (r1 : Int)) (.int .i64 m1) 29).keeps ((Below.refl _ _).alloc (Nat.le_refl _) _)
  have PB : Hid (Tri wl (w3.heap.size + 1) (.int .u32 (t2 : Int)) (.int .u8 (r2 : Int)) (.int .i64 m2)) := by
    have := tri_new (w3.alloc (.cells #[.int .u32 (t1 : Int), .int .u8 (r1 : Int), .int .i64 m1] 29)) (.int .u32 (t2 : Int)) (.int .u8 (r2 : Int)) (.int .i64 m2) 29
    rw [hwl]
    unfold Hid
    simpa using this
  have BL : Hid (Below w.heap.size w wl) := by rw [hwl]; exact (B3.out.alloc B3.out.size _).alloc (Nat.le_trans B3.out.size (by simp)) _
  by_cases hm1z : m1 = 0
  · rw [if_pos hm1z] at he
    by_cases hm2z : m2 = 0
    · rw [if_pos hm2z] at he
      simp only at he
      subst hm1z hm2z he
      go_wp2
      rw [← hwl]
      go_ret
      exact ⟨rfl, BL.out⟩
    · rw [if_neg hm2z] at he
      simp only at he
      have u1 : (m2 == 0) = false := by simpa using hm2z
      subst hm1z he
      go_wp2
      rw [← hwl]
      go_ret
      exact ⟨rfl, BL.out⟩
  · rw [if_neg hm1z] at he
    have u1 : (m1 == 0) = false := by simpa using hm1z
    by_cases hm2z : m2 = 0
    · rw [if_pos hm2z] at he
      simp only at he
      subst hm2z he
      go_wp2
      rw [← hwl]
      go_ret
      exact ⟨rfl, BL.out⟩
    · rw [if_neg hm2z] at he
      have u2 : (m2 == 0) = false := by simpa using hm2z
      have LS := Lib.hid (less_any t2 r2 t1 r1 ht2 hr2 ht1 hr1)
      have F1 := Lib.hid (firstOf_any t1 r1 m1)
      have F2 := Lib.hid (firstOf_any t2 r2 m2)
      obtain ⟨lb, hlb⟩ : ∃ lb, less t2 r2 t1 r1 = lb := ⟨_, rfl⟩
      rw [hlb] at LS he
      clear hlb hm1z hm2z
      cases lb
      all_goals
        simp only [Bool.false_eq_true, if_false, if_true] at he
        subst he
        go_wp2
        rw [← hwl]
        clear hwl
        go_region_held3 (fun w' => Below wl.heap.size wl w' ∧ w'.cell? ⟨w3.heap.size, 0, none⟩ = some (.int .u32 (t1 : Int)) ∧ w'.cell? ⟨w3.heap.size, 1, none⟩ = some (.int .u8 (r1 : Int)) ∧ w'.cell? ⟨w3.heap.size, 2, none⟩ = some (.int .i64 m1) ∧ w'.cell? ⟨w3.heap.size + 1, 0, none⟩ = some (.int .u32 (t2 : Int)) ∧ w'.cell? ⟨w3.heap.size + 1, 1, none⟩ = some (.int .u8 (r2 : Int)) ∧ w'.cell? ⟨w3.heap.size + 1, 2, none⟩ = some (.int .i64 m2))
          (first | exact keepT2 PA.out PB.out (drew1 _) (Below.refl _ _) | (go_split_ands; exact keepT2 PA.out PB.out (drew1 _) (by assumption)) | (go_split_ands; exact keepT2 PA.out PB.out (by assumption) (by assumption)))
          ((first | (go_at_call 35; (with_reducible refine (firstOf_any _ _ _ _).mono ?_); rintro e w4 ⟨rfl, b4⟩) | (go_at_call 30; (with_reducible refine (LS.out _).mono ?_); rintro e w6 ⟨rfl, b6⟩)))
      all_goals
        go_wp2
        go_ret
        go_split_ands
        exact ⟨rfl, BL.out.trans (Below.mono (by assumption) BL.out.size)⟩

set_option maxRecDepth 100000 in
set_option maxHeartbeats 4000000 in
theorem pBegins_any {a b : Value} {p q : List Run} {w : World} (ha : Runs w a p) (hb : Runs w b q) :
    Calls Try.prog 16 #[a, b] w fun e w' => e = .returned (.bool (beg p q)) ∧ Below w.heap.size w w' := by
  have HA := Lib.hid ha
  have HB := Lib.hid hb
  obtain ⟨pb, hpb⟩ : ∃ pb, anyB p = pb := ⟨_, rfl⟩
  obtain ⟨qb, hqb⟩ : ∃ qb, anyB q = qb := ⟨_, rfl⟩
  have A1 : Hid (∀ W : World, Below w.heap.size w W → Calls Try.prog 31 #[a] W fun e w' => e = .returned (.bool pb) ∧ Below W.heap.size W w') := fun W hW => stands_is (HA.out.keeps hW) hpb
  have A2 : Hid (∀ W : World, Below w.heap.size w W → Calls Try.prog 31 #[b] W fun e w' => e = .returned (.bool qb) ∧ Below W.heap.size W w') := fun W hW => stands_is (HB.out.keeps hW) hqb
  have HPB := Lib.hid hpb
  have HQB := Lib.hid hqb
  clear ha hb hpb hqb
  cases pb
  · have hz : beg p q = false := by unfold beg; rw [HPB.out]; rfl
    rw [hz]
    clear hz
    go_enter Try.func16, Try.ntmps16
    go_wp2_with fail
    refine (A1.out _ (Below.refl _ _)).mono ?_
    rintro e w1 ⟨rfl, b1⟩
    go_wp2
    go_ret
    exact ⟨rfl, b1⟩
  cases qb
  · have hz : beg p q = false := by unfold beg; rw [HPB.out, HQB.out]; rfl
    rw [hz]
    clear hz
    go_enter Try.func16, Try.ntmps16
    go_wp2_with fail
    refine (A1.out _ (Below.refl _ _)).mono ?_
    rintro e w1 ⟨rfl, b1⟩
    have B1 := Lib.hid b1
    clear b1
    go_wp2_with fail
    refine (A2.out _ B1.out).mono ?_
    rintro e w2 ⟨rfl, b2⟩
    have B2 := Lib.hid (bt B1.out b2)
    clear b2
    go_wp2
    go_ret
    exact ⟨rfl, B2.out⟩
  have hz : beg p q = first (all p) (all q) := by unfold beg; rw [HPB.out, HQB.out]; rfl
  have AP : Hid (∀ W : World, Below w.heap.size w W → Calls Try.prog 34 #[a, b] W (Parted (hold (all p) (all q)) (first (all p) (all q)) W)) := fun W hW => apart_any (HA.out.keeps hW) (HB.out.keeps hW) ((anyB_iff p).1 HPB.out).chain ((anyB_iff q).1 HQB.out).chain
  rw [hz]
  obtain ⟨h0, hh0⟩ : ∃ h0, h0 = hold (all p) (all q) := ⟨_, rfl⟩
  obtain ⟨f0, hf0⟩ : ∃ f0, f0 = first (all p) (all q) := ⟨_, rfl⟩
  rw [← hh0, ← hf0] at AP
  rw [← hf0]
  clear hz hh0 hf0
  go_enter Try.func16, Try.ntmps16
  go_wp2_with fail
  refine (A1.out _ (Below.refl _ _)).mono ?_
  rintro e w1 ⟨rfl, b1⟩
  have B1 := Lib.hid b1
  clear b1
  go_wp2_with fail
  refine (A2.out _ B1.out).mono ?_
  rintro e w2 ⟨rfl, b2⟩
  have B2 := Lib.hid (bt B1.out b2)
  clear b2
  go_wp2_with fail
  refine (AP.out _ B2.out).mono ?_
  rintro e w3 ⟨x, y, rfl, he, hf, b3⟩
  have B3 := Lib.hid (bt B2.out b3)
  clear b3 AP he A1 A2 B1 B2
  obtain ⟨t1, r1, m1, ht1, hr1, hm1⟩ := x
  obtain ⟨t2, r2, m2, ht2, hr2, hm2⟩ := y
  unfold ends at hf
  simp only at hf ⊢
  by_cases hm1z : m1 = 0
  · have hf2 : f0 = true := by rw [hf, if_pos hm1z]; split <;> rfl
    subst hm1z hf2
    clear hf
    go_wp2
    go_ret
    exact ⟨rfl, (B3.out.alloc B3.out.size _).alloc (Nat.le_trans B3.out.size (by simp)) _⟩
  · have hf2 : f0 = false := by rw [hf, if_neg hm1z]; split <;> rfl
    have u1 : (m1 == 0) = false := by simpa using hm1z
    subst hf2
    clear hf
    go_wp2
    go_ret
    exact ⟨rfl, (B3.out.alloc B3.out.size _).alloc (Nat.le_trans B3.out.size (by simp)) _⟩
end Go.Proofs.Ytfhmleigceakjaa.Place
