/- octavo/place: firstOf, lastOf, goesOn, follows, runMayBe, Twin, Same: what each answers. Conditions: the slices' cells are runs; the numbers fit. -/
import Derived.Test.YtelilmhnfmojkaaPk02

namespace Go.Proofs.Ytelilmhnfmojkaa.Place
open Go.RowKit Stamp
attribute [local go_sem ↓] Go.wp_at_zero Go.wp_at_succ

theorem firstOf_any (t r : Nat) (m : Int) (w : World) :
    Calls Try.prog 71 #[.agg #[.int .u32 (t : Int), .int .u8 (r : Int), .int .i64 m]] w fun e w' => e = .returned (.agg #[.int .u32 (t : Int), .int .u8 (r : Int)]) ∧ Below w.heap.size w w' := by
  go_enter Try.func71, Try.ntmps71
  go_wp2
  refine bodyPost_ret (v := .agg #[.int .u32 (t : Int), .int .u8 (r : Int)]) (by simp [results, Try.results71, go_sem]) rfl ⟨rfl, ?_⟩
  exact ((Below.refl _ _).alloc (Nat.le_refl _) _).alloc (by simp) _

theorem lastOf_any (t r : Nat) (m : Int) (z : Nat) (hz : (z : Int) = (t : Int) + (m - 1)) (hm : 1 ≤ m ∧ m ≤ 4096) (hb : t ≤ 1073741824) (w : World) :
    Calls Try.prog 70 #[.agg #[.int .u32 (t : Int), .int .u8 (r : Int), .int .i64 m]] w fun e w' => e = .returned (.agg #[.int .u32 (z : Int), .int .u8 (r : Int)]) ∧ Below w.heap.size w w' := by
  obtain ⟨o1, o2⟩ := hm
  have e3 : IntKind.u32.wrap (m - 1) = m - 1 := by rw [IntKind.wrap_u32]; omega
  have e4 : IntKind.u32.wrap ((t : Int) + (m - 1)) = (t : Int) + (m - 1) := by rw [IntKind.wrap_u32]; omega
  have e5 : IntKind.i64.wrap (m - 1) = m - 1 := IntWalk.i64_in _ (by omega)
  rw [hz]
  clear hz
  go_enter Try.func70, Try.ntmps70
  go_wp2
  refine bodyPost_ret (v := .agg #[.int .u32 ((t : Int) + (m - 1)), .int .u8 (r : Int)]) (by simp [results, Try.results70, go_sem]) rfl ⟨rfl, ?_⟩
  exact ((Below.refl _ _).alloc (Nat.le_refl _) _).alloc (by simp) _

/-- Does a stamp go on a run of last time z? -/
def goes (z r u s : Nat) : Bool := decide (u = z + 1 ∧ s = r)
set_option maxHeartbeats 1000000 in
theorem goesOn_any (t r : Nat) (m : Int) (z u s : Nat) (hz : (z : Int) = (t : Int) + (m - 1)) (hm : 1 ≤ m ∧ m ≤ 4096) (hb : t ≤ 1073741824) (w : World) :
    Calls Try.prog 72 #[.agg #[.int .u32 (t : Int), .int .u8 (r : Int), .int .i64 m], .agg #[.int .u32 (u : Int), .int .u8 (s : Int)]] w fun e w' => e = .returned (.bool (goes z r u s)) ∧ Below w.heap.size w w' := by
  have L := Lib.hid (fun W => lastOf_any t r m z hz hm hb W)
  have hz2 : (z : Int) + 1 ≤ 1073745920 := by omega
  have hw : IntKind.u32.wrap ((z : Int) + 1) = (z : Int) + 1 := by rw [IntKind.wrap_u32]; omega
  obtain ⟨q, hq⟩ : ∃ q, goes z r u s = q := ⟨_, rfl⟩
  have hc : ((u : Int) = (z : Int) + 1 ∧ s = r ∧ q = true) ∨ (¬ (u : Int) = (z : Int) + 1 ∧ q = false) ∨ ((u : Int) = (z : Int) + 1 ∧ ¬ s = r ∧ q = false) := by
    unfold goes at hq
    by_cases h1 : u = z + 1
    · by_cases h2 : s = r
      · exact .inl ⟨by omega, h2, by rw [← hq]; exact decide_eq_true ⟨h1, h2⟩⟩
      · exact .inr (.inr ⟨by omega, h2, by rw [← hq]; exact decide_eq_false (by omega)⟩)
    · exact .inr (.inl ⟨by omega, by rw [← hq]; exact decide_eq_false (by omega)⟩)
  have P1 : Hid (Pair ((w.alloc (.cells #[.int .u32 (t : Int), .int .u8 (r : Int), .int .i64 m] 71)).alloc (.cells #[.int .u32 (u : Int), .int .u8 (s : Int)] 32)) (w.heap.size + 1) (.int .u32 (u : Int)) (.int .u8 (s : Int))) := by
    have := pair_new (w.alloc (.cells #[.int .u32 (t : Int), .int .u8 (r : Int), .int .i64 m] 71)) (.int .u32 (u : Int)) (.int .u8 (s : Int)) 32
    unfold Hid
    simpa using this
  have B0 : Hid (Below w.heap.size w ((w.alloc (.cells #[.int .u32 (t : Int), .int .u8 (r : Int), .int .i64 m] 71)).alloc (.cells #[.int .u32 (u : Int), .int .u8 (s : Int)] 32))) := ((Below.refl _ _).alloc (Nat.le_refl _) _).alloc (by simp) _
  rw [hq]
  clear hq hz hm hb
  go_enter Try.func72, Try.ntmps72
  go_wp2_with fail
  refine (L.out _).mono ?_
  rintro e w1 ⟨rfl, b1⟩
  have PP := Lib.hid (P1.out.keeps b1)
  have B1 := Lib.hid (bt B0.out b1)
  clear b1 B0 P1
  obtain ⟨g0, g1, g2⟩ := PP.out
  have hne : ¬ w.heap.size + 1 = w1.heap.size := by omega
  rcases hc with ⟨h1, rfl, rfl⟩ | ⟨h1, rfl⟩ | ⟨h1, h2, rfl⟩
  · rw [h1] at g1
    go_wp2
    go_ret
    exact ⟨rfl, B1.out.alloc B1.out.size _⟩
  · go_wp2
    go_ret
    exact ⟨rfl, B1.out.alloc B1.out.size _⟩
  · rw [h1] at g1
    go_wp2
    go_ret
    exact ⟨rfl, B1.out.alloc B1.out.size _⟩

theorem keepT2 {wl w1 w2 : World} {h1 h2 : Nat} {c0 c1 c2 d0 d1 d2 : Value} (p1 : Tri wl h1 c0 c1 c2) (p2 : Tri wl h2 d0 d1 d2) (h : Below w1.heap.size w1 w2) (hb : Below wl.heap.size wl w1) :
    Below wl.heap.size wl w2 ∧ w2.cell? ⟨h1, 0, none⟩ = some c0 ∧ w2.cell? ⟨h1, 1, none⟩ = some c1 ∧ w2.cell? ⟨h1, 2, none⟩ = some c2 ∧ w2.cell? ⟨h2, 0, none⟩ = some d0 ∧ w2.cell? ⟨h2, 1, none⟩ = some d1 ∧ w2.cell? ⟨h2, 2, none⟩ = some d2 :=
  have b := bt hb h
  ⟨b, (p1.keeps b).2.1, (p1.keeps b).2.2.1, (p1.keeps b).2.2.2, (p2.keeps b).2.1, (p2.keeps b).2.2.1, (p2.keeps b).2.2.2⟩

theorem field_t (a b : Value) (W : World) : (Instr.field 32 (.agg #[a, b]) 0).run Try.prog W = .ok a W := by kernel_rfl
/-- May a run of time t by r stand behind one whose last time is z, by r0? -/
def nextB (z r0 t r : Nat) : Bool := decide (z < t ∧ (r = r0 → z + 1 < t))
set_option maxRecDepth 100000 in
set_option maxHeartbeats 1000000 in
theorem follows_any (t r : Nat) (m : Int) (t0 r0 : Nat) (m0 : Int) (z : Nat) (hz : (z : Int) = (t0 : Int) + (m0 - 1)) (hm : 1 ≤ m0 ∧ m0 ≤ 4096) (hb : t0 ≤ 1073741824) (w : World) :
    Calls Try.prog 69 #[.agg #[.int .u32 (t : Int), .int .u8 (r : Int), .int .i64 m], .agg #[.int .u32 (t0 : Int), .int .u8 (r0 : Int), .int .i64 m0]] w fun e w' => e = .returned (.bool (nextB z r0 t r)) ∧ Below w.heap.size w w' := by
  have LO := Lib.hid (fun W => lastOf_any t0 r0 m0 z hz hm hb W)
  have FO := Lib.hid (fun W => firstOf_any t r m W)
  have GO := Lib.hid (fun W => goesOn_any t0 r0 m0 z t r hz hm hb W)
  obtain ⟨g, hg⟩ : ∃ g, goes z r0 t r = g := ⟨_, rfl⟩
  rw [hg] at GO
  obtain ⟨q, hq⟩ : ∃ q, nextB z r0 t r = q := ⟨_, rfl⟩
  have hc : (z < t ∧ q = !g) ∨ (¬ z < t ∧ q = false) := by
    unfold goes at hg
    unfold nextB at hq
    by_cases h1 : z < t
    · refine .inl ⟨h1, ?_⟩
      by_cases h2 : t = z + 1 ∧ r = r0
      · rw [decide_eq_true h2] at hg
        rw [decide_eq_false (by omega)] at hq
        rw [← hg, ← hq]; rfl
      · rw [decide_eq_false h2] at hg
        rw [decide_eq_true (by omega)] at hq
        rw [← hg, ← hq]; rfl
    · exact .inr ⟨h1, by rw [← hq]; exact decide_eq_false (by omega)⟩
  have hf0 : ∀ W : World, (Instr.field 32 (.agg #[.int .u32 (z : Int), .int .u8 (r0 : Int)]) 0).run Try.prog W = .ok (.int .u32 (z : Int)) W := fun W => field_t _ _ W
  obtain ⟨wl, hwl⟩ : ∃ wl, wl = (w.alloc (.cells #[.int .u32 (t : Int), .int .u8 (r : Int), .int .i64 m] 71)).alloc (.cells #[.int .u32 (t0 : Int), .int .u8 (r0 : Int), .int .i64 m0] 71) := ⟨_, rfl⟩
  have PA : Hid (Tri wl w.heap.size (.int .u32 (t : Int)) (.int .u8 (r : Int)) (.int .i64 m)) := by
    rw [hwl]
    exact (tri_new w (.int .u32 (t : Int)) (.int .u8 (r : Int)) (.int .i64 m) 71).keeps ((Below.refl _ _).alloc (Nat.le_refl _) _)
  have PB : Hid (Tri wl (w.heap.size + 1) (.int .u32 (t0 : Int)) (.int .u8 (r0 : Int)) (.int .i64 m0)) := by
    have := tri_new (w.alloc (.cells #[.int .u32 (t : Int), .int .u8 (r : Int), .int .i64 m] 71)) (.int .u32 (t0 : Int)) (.int .u8 (r0 : Int)) (.int .i64 m0) 71
    rw [hwl]
    unfold Hid
    simpa using this
  have B0 : Hid (Below w.heap.size w wl) := by rw [hwl]; exact ((Below.refl _ _).alloc (Nat.le_refl _) _).alloc (by simp) _
  rw [hq]
  clear hg hq hz hm hb
  rcases hc with ⟨h1, rfl⟩ | ⟨h1, rfl⟩
  · have t1 : decide ((z : Int) < (t : Int)) = true := decide_eq_true (by omega)
    have t2 : decide (z < t) = true := decide_eq_true h1
    go_enter Try.func69, Try.ntmps69
    go_wp2
    rw [← hwl]
    clear hwl
    go_region_held3 (fun w' => Below wl.heap.size wl w' ∧ w'.cell? ⟨w.heap.size, 0, none⟩ = some (.int .u32 (t : Int)) ∧ w'.cell? ⟨w.heap.size, 1, none⟩ = some (.int .u8 (r : Int)) ∧ w'.cell? ⟨w.heap.size, 2, none⟩ = some (.int .i64 m) ∧ w'.cell? ⟨w.heap.size + 1, 0, none⟩ = some (.int .u32 (t0 : Int)) ∧ w'.cell? ⟨w.heap.size + 1, 1, none⟩ = some (.int .u8 (r0 : Int)) ∧ w'.cell? ⟨w.heap.size + 1, 2, none⟩ = some (.int .i64 m0))
      (first | exact keepT2 PA.out PB.out (drew1 _) (Below.refl _ _) | (go_split_ands; exact keepT2 PA.out PB.out (drew1 _) (by assumption)) | (go_split_ands; exact keepT2 PA.out PB.out (by assumption) (by assumption)))
      ((first | (go_at_call 70; (with_reducible refine (LO.out _).mono ?_); rintro e w4 ⟨rfl, b4⟩) | (go_at_call 71; (with_reducible refine (FO.out _).mono ?_); rintro e w5 ⟨rfl, b5⟩) | (go_at_call 72; (with_reducible refine (GO.out _).mono ?_); rintro e w6 ⟨rfl, b6⟩)))
    all_goals
      go_wp2
      go_ret
      go_split_ands
      exact ⟨rfl, B0.out.trans (Below.mono (by assumption) B0.out.size)⟩
  · have t1 : decide ((z : Int) < (t : Int)) = false := decide_eq_false (by omega)
    have t2 : decide (z < t) = false := decide_eq_false h1
    go_enter Try.func69, Try.ntmps69
    go_wp2
    rw [← hwl]
    clear hwl
    refine wp_region_held_drew (S := fun w' => Below wl.heap.size wl w' ∧ w'.cell? ⟨w.heap.size, 0, none⟩ = some (.int .u32 (t : Int)) ∧ w'.cell? ⟨w.heap.size, 1, none⟩ = some (.int .u8 (r : Int)) ∧ w'.cell? ⟨w.heap.size, 2, none⟩ = some (.int .i64 m) ∧ w'.cell? ⟨w.heap.size + 1, 0, none⟩ = some (.int .u32 (t0 : Int)) ∧ w'.cell? ⟨w.heap.size + 1, 1, none⟩ = some (.int .u8 (r0 : Int)) ∧ w'.cell? ⟨w.heap.size + 1, 2, none⟩ = some (.int .i64 m0)) (by kernel_rfl) (keepT2 PA.out PB.out (drew1 _) (Below.refl _ _)) (fun hHeld => ?_)
    refine wpAnyH_take (i := 0) (v := ?va0) rfl (by kernel_rfl) (by kernel_rfl) (by kernel_rfl) (fun _ _ _ h => h) (Or.inl ⟨by rfl, ?ya0⟩) (by assumption) ?_
    case ya0 => intro w hSw; (try dsimp only at hSw); go_simp <;> with_reducible rfl
    try simp only [List.getElem_toArray, List.getElem_cons_zero, Act.put, List.setIfInBounds_toArray, List.set_cons_zero, List.set_cons_succ]
    refine wpAnyH_take (i := 1) (v := ?va1) rfl (by kernel_rfl) (by kernel_rfl) (by kernel_rfl) (fun _ _ _ h => h) (Or.inl ⟨by rfl, ?ya1⟩) (by assumption) ?_
    case ya1 => intro w hSw; (try dsimp only at hSw); go_simp <;> with_reducible rfl
    try simp only [List.getElem_toArray, List.getElem_cons_succ, List.getElem_cons_zero, Act.put, List.setIfInBounds_toArray, List.set_cons_zero, List.set_cons_succ]
    refine wpAnyH_take (i := 2) (v := ?va2) rfl (by kernel_rfl) (by kernel_rfl) (by kernel_rfl) (fun _ _ _ h => h) (Or.inl ⟨by rfl, ?ya2⟩) (by assumption) ?_
    case ya2 => intro w hSw; (try dsimp only at hSw); go_simp <;> with_reducible rfl
    try simp only [List.getElem_toArray, List.getElem_cons_succ, List.getElem_cons_zero, Act.put, List.setIfInBounds_toArray, List.set_cons_zero, List.set_cons_succ]
    refine wpAnyH_ready (rs := [3]) (by kernel_rfl) (by simp) ?_
    refine AllReadyH.cons rfl (fun K hK => ?_) ?za3
    case za3 => exact AllReadyH.nil
    go_simp
    refine (LO.out _).mono ?_
    rintro e w9 ⟨rfl, b9⟩
    refine hK.out _ _ (keepT2 PA.out PB.out b9 hHeld.1) (fun hNew => ?_)
    clear hHeld b9
    have hHeld := hNew
    clear hNew hK K
    try simp only [List.getElem_toArray, List.getElem_cons_succ, List.getElem_cons_zero, Act.put, List.setIfInBounds_toArray, List.set_cons_zero, List.set_cons_succ]
    refine wpAnyH_take (i := 4) (v := ?va4) rfl (by kernel_rfl) (by kernel_rfl) (by kernel_rfl) (fun _ _ _ h => h) (Or.inl ⟨by rfl, ?ya4⟩) (by assumption) ?_
    case ya4 => intro w hSw; (try dsimp only at hSw); go_simp <;> with_reducible rfl
    try simp only [List.getElem_toArray, List.getElem_cons_succ, List.getElem_cons_zero, Act.put, List.setIfInBounds_toArray, List.set_cons_zero, List.set_cons_succ]
    refine wpAnyH_take (i := 5) (v := ?va5) rfl (by kernel_rfl) (by kernel_rfl) (by kernel_rfl) (fun _ _ _ h => h) (Or.inl ⟨by rfl, ?ya5⟩) (by assumption) ?_
    case ya5 => intro w hSw; (try dsimp only at hSw); go_simp <;> with_reducible rfl
    try simp only [List.getElem_toArray, List.getElem_cons_succ, List.getElem_cons_zero, Act.put, List.setIfInBounds_toArray, List.set_cons_zero, List.set_cons_succ]
    refine wpAnyH_take (i := 6) (v := ?va6) rfl (by kernel_rfl) (by kernel_rfl) (by kernel_rfl) (fun _ _ _ h => h) (Or.inl ⟨by rfl, ?ya6⟩) (by assumption) ?_
    case ya6 => intro w hSw; (try dsimp only at hSw); go_simp <;> with_reducible rfl
    try simp only [List.getElem_toArray, List.getElem_cons_succ, List.getElem_cons_zero, Act.put, List.setIfInBounds_toArray, List.set_cons_zero, List.set_cons_succ]
    refine wpAnyH_take (i := 7) (v := undef) rfl (by kernel_rfl) (by kernel_rfl) (by kernel_rfl) (fun _ _ _ h => h) (Or.inr ⟨by rfl, rfl⟩) (by assumption) ?_
    try simp only [List.getElem_toArray, List.getElem_cons_succ, List.getElem_cons_zero, Act.put, List.setIfInBounds_toArray, List.set_cons_zero, List.set_cons_succ]
    refine wpAnyH_take (i := 8) (v := undef) rfl (by kernel_rfl) (by kernel_rfl) (by kernel_rfl) (fun _ _ _ h => h) (Or.inr ⟨by rfl, rfl⟩) (by assumption) ?_
    try simp only [List.getElem_toArray, List.getElem_cons_succ, List.getElem_cons_zero, Act.put, List.setIfInBounds_toArray, List.set_cons_zero, List.set_cons_succ]
    refine wpAnyH_take (i := 9) (v := undef) rfl (by kernel_rfl) (by kernel_rfl) (by kernel_rfl) (fun _ _ _ h => h) (Or.inr ⟨by rfl, rfl⟩) (by assumption) ?_
    try simp only [List.getElem_toArray, List.getElem_cons_succ, List.getElem_cons_zero, Act.put, List.setIfInBounds_toArray, List.set_cons_zero, List.set_cons_succ]
    refine wpAnyH_take (i := 10) (v := undef) rfl (by kernel_rfl) (by kernel_rfl) (by kernel_rfl) (fun _ _ _ h => h) (Or.inr ⟨by rfl, rfl⟩) (by assumption) ?_
    try simp only [List.getElem_toArray, List.getElem_cons_succ, List.getElem_cons_zero, Act.put, List.setIfInBounds_toArray, List.set_cons_zero, List.set_cons_succ]
    refine wpAnyH_take (i := 11) (v := undef) rfl (by kernel_rfl) (by kernel_rfl) (by kernel_rfl) (fun _ _ _ h => h) (Or.inr ⟨by rfl, rfl⟩) (by assumption) ?_
    try simp only [List.getElem_toArray, List.getElem_cons_succ, List.getElem_cons_zero, Act.put, List.setIfInBounds_toArray, List.set_cons_zero, List.set_cons_succ]
    refine wpAnyH_take (i := 12) (v := ?va12) rfl (by kernel_rfl) (by kernel_rfl) (by kernel_rfl) (fun _ _ _ h => h) (Or.inl ⟨by rfl, ?ya12⟩) (by assumption) ?_
    case ya12 => intro w hSw; (try dsimp only at hSw); go_simp <;> with_reducible rfl
    try simp only [List.getElem_toArray, List.getElem_cons_succ, List.getElem_cons_zero, Act.put, List.setIfInBounds_toArray, List.set_cons_zero, List.set_cons_succ]
    refine wpAnyH_take (i := 13) (v := ?va13) rfl (by kernel_rfl) (by kernel_rfl) (by kernel_rfl) (fun _ _ _ h => h) (Or.inl ⟨by rfl, ?ya13⟩) (by assumption) ?_
    case ya13 => intro w hSw; (try dsimp only at hSw); go_simp <;> with_reducible rfl
    try simp only [List.getElem_toArray, List.getElem_cons_succ, List.getElem_cons_zero, Act.put, List.setIfInBounds_toArray, List.set_cons_zero, List.set_cons_succ]
    refine wpAnyH_done (by kernel_rfl) ?_ _
    go_wp2
    go_ret
    exact ⟨rfl, B0.out.trans (hHeld.1.mono B0.out.size)⟩
end Go.Proofs.Ytelilmhnfmojkaa.Place

/- octavo/place: runMayBe, Twin, slices.Equal, Same: what each answers. Conditions: the slices' cells are runs. -/
namespace Go.Proofs.Ytelilmhnfmojkaa.Place
open Go.RowKit Stamp
attribute [local go_sem ↓] Go.wp_at_zero Go.wp_at_succ

set_option maxHeartbeats 1000000 in
theorem runMayBe_any (t r : Nat) (m : Int) (w : World) :
    Calls Try.prog 68 #[.agg #[.int .u32 (t : Int), .int .u8 (r : Int), .int .i64 m]] w fun e w' => e = .returned (.bool (oneB t r m)) ∧ Below w.heap.size w w' := by
  have q : (decide (m < 1) = true ∧ oneB t r m = false) ∨ (decide (m < 1) = false ∧ decide (4096 < m) = true ∧ oneB t r m = false) ∨
      (decide (m < 1) = false ∧ decide (4096 < m) = false ∧ may t r = false ∧ oneB t r m = false) ∨
      (decide (m < 1) = false ∧ decide (4096 < m) = false ∧ may t r = true ∧ (1 ≤ m ∧ m ≤ 4096) ∧ t ≤ 1073741824 ∧ ∃ z : Nat, (z : Int) = (t : Int) + (m - 1) ∧ oneB t r m = may z r) := by
    unfold oneB
    by_cases h1 : m < 1
    · exact .inl ⟨decide_eq_true h1, decide_eq_false (by omega)⟩
    by_cases h2 : 4096 < m
    · exact .inr (.inl ⟨decide_eq_false h1, decide_eq_true h2, decide_eq_false (by omega)⟩)
    cases h3 : may t r
    · have := may_no.1 h3
      exact .inr (.inr (.inl ⟨decide_eq_false h1, decide_eq_false h2, rfl, decide_eq_false (by omega)⟩))
    · have := may_iff.1 h3
      refine .inr (.inr (.inr ⟨decide_eq_false h1, decide_eq_false h2, rfl, ⟨by omega, by omega⟩, by omega, ((t : Int) + (m - 1)).toNat, by omega, ?_⟩))
      unfold may
      rw [decide_eq_decide]
      omega
  have FO := Lib.hid (fun W => firstOf_any t r m W)
  have P0 := Lib.hid (tri_new w (.int .u32 (t : Int)) (.int .u8 (r : Int)) (.int .i64 m) 71)
  have B0 := Lib.hid ((Below.refl w.heap.size w).alloc (Nat.le_refl _) (.cells #[.int .u32 (t : Int), .int .u8 (r : Int), .int .i64 m] 71))
  rcases q with ⟨q1, h⟩ | ⟨q1, q2, h⟩ | ⟨q1, q2, q3, h⟩ | ⟨q1, q2, q3, q4, q5, z, hz, h⟩
  · rw [h]
    clear h
    go_enter Try.func68, Try.ntmps68
    go_wp2
    go_ret
    exact ⟨rfl, (Below.refl _ _).alloc (Nat.le_refl _) _⟩
  · rw [h]
    clear h
    go_enter Try.func68, Try.ntmps68
    go_wp2
    go_ret
    exact ⟨rfl, (Below.refl _ _).alloc (Nat.le_refl _) _⟩
  · have CK := Lib.hid (fun W => check_no t r q3 W)
    rw [h]
    clear h q3
    go_enter Try.func68, Try.ntmps68
    go_wp2_with fail
    refine (FO.out _).mono ?_
    rintro e w1 ⟨rfl, b1⟩
    have B1 := Lib.hid (bt B0.out b1)
    clear b1
    go_wp2_with fail
    refine (CK.out _).mono ?_
    rintro e w2 ⟨rfl, b2⟩
    have B2 := Lib.hid (bt B1.out b2)
    clear b2
    go_wp2
    go_ret
    exact ⟨rfl, B2.out⟩
  · have CK := Lib.hid (fun W => check_yes t r q3 W)
    have LO := Lib.hid (fun W => lastOf_any t r m z hz q4 q5 W)
    obtain ⟨q, hq⟩ : ∃ q, may z r = q := ⟨_, rfl⟩
    rw [h, hq]
    have C2 : Hid (∀ W : World, Calls Try.prog 54 #[.agg #[.int .u32 (z : Int), .int .u8 (r : Int)]] W fun e w' => e = .returned (.int .i64 (if q = true then 0 else 8)) ∧ Below W.heap.size W w') := fun W => by
      have := check_any z r W
      unfold Stamp.chk at this
      rwa [hq] at this
    clear h q3 hz q4 q5 hq
    cases q
    all_goals
      simp only [Bool.false_eq_true, if_false, if_true] at C2
      go_enter Try.func68, Try.ntmps68
      go_wp2_with fail
      refine (FO.out _).mono ?_
      rintro e w1 ⟨rfl, b1⟩
      have B1 := Lib.hid (bt B0.out b1)
      have P1 := Lib.hid (P0.out.keeps b1)
      clear b1
      go_wp2_with fail
      refine (CK.out _).mono ?_
      rintro e w2 ⟨rfl, b2⟩
      have B2 := Lib.hid (bt B1.out b2)
      have P2 := Lib.hid (P1.out.keeps b2)
      clear b2
      obtain ⟨g0, g1, g2, g3⟩ := P2.out
      go_wp2_with fail
      refine (LO.out _).mono ?_
      rintro e w3 ⟨rfl, b3⟩
      have B3 := Lib.hid (bt B2.out b3)
      clear b3 g0 g1 g2 g3
      go_wp2_with fail
      refine (C2.out _).mono ?_
      rintro e w4 ⟨rfl, b4⟩
      have B4 := Lib.hid (bt B3.out b4)
      clear b4
      go_wp2
      go_ret
      exact ⟨rfl, B4.out⟩

set_option maxHeartbeats 1000000 in
theorem slEq_yes {a b : Value} {l : List Run} {w : World} (ha : Runs w a l) (hb : Runs w b l) :
    Calls Try.prog 53 #[a, b] w fun e w' => e = .returned (.bool true) ∧ Below w.heap.size w w' := by
  obtain ⟨ao, ca, rfl⟩ := ha.shape
  obtain ⟨bo, cb, rfl⟩ := hb.shape
  obtain ⟨n, hn⟩ : ∃ n, n = l.length := ⟨_, rfl⟩
  have hm : n ≤ 9223372036854775807 := by rw [hn]; exact Sees.max ha
  have HA := Lib.hid ha
  have HB := Lib.hid hb
  have HN := Lib.hid hn
  rw [← hn]
  clear ha hb hn
  have t1 : ((n : Int) != (n : Int)) = false := by simp
  go_enter Try.func53, Try.ntmps53
  go_wp2
  go_loopw [13] (fun i wr => ∃ k : Nat, k ≤ n ∧ i = .int .i64 (k : Int) ∧ ∃ q, wr = w.drewN q) (fun i _ => n - (intOf i).toNat)
  case atStart => exact ⟨0, by omega, rfl, 0, rfl⟩
  case round =>
    obtain ⟨k, hk, rfl, q, rfl⟩ := hrel
    by_cases hkn : k < n
    · have q1 : decide (k < n) = true := by simpa using hkn
      obtain ⟨b1, o1, rfl, hb1, ha0, ha1, ha2⟩ := HA.out.at k (by rw [← HN.out]; exact hkn)
      obtain ⟨b2, o2, rfl, hb2, hb0, hb1', hb2'⟩ := HB.out.at k (by rw [← HN.out]; exact hkn)
      obtain ⟨x, hx⟩ : ∃ x, x = l.getD k zrun := ⟨_, rfl⟩
      rw [← hx] at ha0 ha1 ha2 hb0 hb1' hb2'
      obtain ⟨xt, xr, xm, _, _, _⟩ := x
      simp only at ha0 ha1 ha2 hb0 hb1' hb2'
      have q2 : (0 : Int) ≤ (k : Int) := by omega
      have q3 : (k : Int) < (n : Int) := by omega
      clear hx
      go_wp2
      go_quiet (fail)
      go_wp2
      go_roundw
      case rel => exact ⟨k + 1, by omega, by go_num, _, rfl⟩
      case measure => simp [intOf]; omega
    · have q1 : decide (k < n) = false := by simpa using hkn
      go_wp2
      go_ret
      exact ⟨rfl, below_draw (Below.refl _ _) _⟩

set_option maxHeartbeats 1000000 in
theorem slEq_no {a b : Value} {l m : List Run} {w : World} (ha : Runs w a l) (hb : Runs w b m) (hlm : l ≠ m) :
    Calls Try.prog 53 #[a, b] w fun e w' => e = .returned (.bool false) ∧ Below w.heap.size w w' := by
  obtain ⟨ao, ca, rfl⟩ := ha.shape
  obtain ⟨bo, cb, rfl⟩ := hb.shape
  obtain ⟨n, hn⟩ : ∃ n, n = l.length := ⟨_, rfl⟩
  obtain ⟨n2, hn2⟩ : ∃ n, n = m.length := ⟨_, rfl⟩
  have hm : n ≤ 9223372036854775807 := by rw [hn]; exact Sees.max ha
  have HA := Lib.hid ha
  have HB := Lib.hid hb
  have HN := Lib.hid hn
  have HN2 := Lib.hid hn2
  have HL := Lib.hid hlm
  rw [← hn, ← hn2]
  clear ha hb hn hn2 hlm
  by_cases hlen : n = n2
  · subst hlen
    have t1 : ((n : Int) != (n : Int)) = false := by simp
    go_enter Try.func53, Try.ntmps53
    go_wp2
    go_loopw [13] (fun i wr => ∃ k : Nat, k ≤ n ∧ i = .int .i64 (k : Int) ∧ Hid (∀ j, j < k → l.getD j zrun = m.getD j zrun) ∧ ∃ q, wr = w.drewN q) (fun i _ => n - (intOf i).toNat)
    case atStart => exact ⟨0, by omega, rfl, Lib.hid (by omega), 0, rfl⟩
    case round =>
      obtain ⟨k, hk, rfl, hal, q, rfl⟩ := hrel
      by_cases hkn : k < n
      · have q1 : decide (k < n) = true := by simpa using hkn
        obtain ⟨b1, o1, rfl, hb1, ha0, ha1, ha2⟩ := HA.out.at k (by rw [← HN.out]; exact hkn)
        obtain ⟨b2, o2, rfl, hb2, hb0, hb1', hb2'⟩ := HB.out.at k (by rw [← HN2.out]; exact hkn)
        obtain ⟨x, hx⟩ : ∃ x, x = l.getD k zrun := ⟨_, rfl⟩
        obtain ⟨y, hy⟩ : ∃ y, y = m.getD k zrun := ⟨_, rfl⟩
        rw [← hx] at ha0 ha1 ha2
        rw [← hy] at hb0 hb1' hb2'
        have q2 : (0 : Int) ≤ (k : Int) := by omega
        have q3 : (k : Int) < (n : Int) := by omega
        by_cases hxy : x = y
        · have HX := Lib.hid (show l.getD k zrun = m.getD k zrun by rw [← hx, ← hy, hxy])
          subst hxy
          obtain ⟨xt, xr, xm, _, _, _⟩ := x
          simp only at ha0 ha1 ha2 hb0 hb1' hb2'
          clear hx hy
          go_wp2
          go_quiet (fail)
          go_wp2
          go_roundw
          case rel =>
            refine ⟨k + 1, by omega, by go_num, Lib.hid (fun j hj => ?_), _, rfl⟩
            by_cases e : j = k
            · rw [e]; exact HX.out
            · exact hal.out j (by omega)
          case measure => simp [intOf]; omega
        · have hparts : ¬ x.t = y.t ∨ (x.t = y.t ∧ ¬ x.r = y.r) ∨ (x.t = y.t ∧ x.r = y.r ∧ ¬ x.m = y.m) := by
            by_cases h1 : x.t = y.t
            · by_cases h2 : x.r = y.r
              · exact .inr (.inr ⟨h1, h2, fun h3 => hxy (Run.ext' h1 h2 h3)⟩)
              · exact .inr (.inl ⟨h1, h2⟩)
            · exact .inl h1
          obtain ⟨xt, xr, xm, _, _, _⟩ := x
          obtain ⟨yt, yr, ym, _, _, _⟩ := y
          simp only at ha0 ha1 ha2 hb0 hb1' hb2' hparts
          clear hx hy hxy
          rcases hparts with h1 | ⟨rfl, h2⟩ | ⟨rfl, rfl, h3⟩
          · go_wp2
            go_quiet (fail)
            go_wp2
            go_ret
            exact ⟨rfl, below_draw (below_draw (Below.refl _ _) _) _⟩
          · have h4 : ((xr : Int) == (yr : Int)) = false := by simp; omega
            have h5 : decide (xr = yr) = false := decide_eq_false h2
            go_wp2
            go_quiet (fail)
            go_wp2
            go_ret
            exact ⟨rfl, below_draw (below_draw (Below.refl _ _) _) _⟩
          · go_wp2
            go_quiet (fail)
            go_wp2
            go_ret
            exact ⟨rfl, below_draw (below_draw (Below.refl _ _) _) _⟩
      · exfalso
        obtain ⟨j, h1, h2⟩ := runs_ne (by rw [← HN.out, ← HN2.out]) HL.out
        exact h2 (hal.out j (by have := HN.out; omega))
  · have t1 : ((n : Int) != (n2 : Int)) = true := by simp; omega
    have t2 : ¬ n = n2 := hlen
    go_enter Try.func53, Try.ntmps53
    go_wp2
    go_ret
    exact ⟨rfl, Below.refl _ _⟩

theorem psame_any {a b : Value} {l m : List Run} {w : World} (ha : Runs w a l) (hb : Runs w b m) :
    Calls Try.prog 40 #[a, b] w fun e w' => e = .returned (.bool (decide (l = m))) ∧ Below w.heap.size w w' := by
  by_cases h : l = m
  · subst h
    rw [decide_eq_true rfl]
    have E := Lib.hid (slEq_yes ha hb)
    clear ha hb
    go_enter Try.func40, Try.ntmps40
    go_wp2_with fail
    refine E.out.mono ?_
    rintro e w1 ⟨rfl, b1⟩
    go_wp2
    go_ret
    exact ⟨rfl, b1⟩
  · rw [decide_eq_false h]
    have E := Lib.hid (slEq_no ha hb h)
    clear ha hb h
    go_enter Try.func40, Try.ntmps40
    go_wp2_with fail
    refine E.out.mono ?_
    rintro e w1 ⟨rfl, b1⟩
    go_wp2
    go_ret
    exact ⟨rfl, b1⟩
theorem refSame_any {a b : Value} {l m : List Run} {w : World} (ha : Runs w a l) (hb : Runs w b m) :
    Calls Try.prog 37 #[a, b] w fun e w' => e = .returned (.bool (decide (l = m))) ∧ Below w.heap.size w w' := by
  by_cases h : l = m
  · subst h
    rw [decide_eq_true rfl]
    exact same_yes ha hb
  · rw [decide_eq_false h]
    exact same_no ha hb h
end Go.Proofs.Ytelilmhnfmojkaa.Place
