/- octavo/place: firstOf, lastOf, goesOn, follows, runMayBe, Twin, Same: what each answers. Conditions: the slices' cells are runs; the numbers fit. octavo/place: runMayBe, Twin, slices.Equal, Same: what each answers. Conditions: the slices' cells are runs. octavoref06.May, Any, Check: what each answers. Conditions: the slice's cells are runs. octavo/place: Check, stands: what each answers. Conditions: the slice's cells are runs. octavoref06.cut, Held, First: what each answers. Conditions: the slices' cells are runs that may stand one behind the other. octavoref06.Held: what it answers. Conditions: the slices' cells are runs; they may stand one behind the other, at most 100 of them. octavoref06.First, Compare, Begins: what each answers. Conditions: the slices' cells are runs; First: they may stand one behind the other, at most 100 of them. octavoref06.Final, Last, All, Ids: what each answer -/
import Derived.Test.YtmiepnnpccpicaaGreatChecked
import Derived.WalkKit
import Derived.WalkSpells
import Derived.WalkLawsBesides
import Derived.Laws.BytesArg
import Derived.Lib.Hide
import Derived.Deep.LoopGhost
import Derived.Laws.AppendOwnNone
import Derived.Laws.OwnMore
import Derived.WideShapes
import Derived.Maps.AppendAt
import Derived.RegionTactic
import Derived.Deep.RegionHeld3
import Derived.Deep.DrawnRows
import Derived.Deep.QuietTactic
import Derived.BigQuiet
import Derived.IntWalk
import Derived.Test.YtmiepnnpccpicaaGreatRw
import Derived.Test.YtmiepnnpccpicaaGreatPk01

namespace Go.Proofs.YtmiepnnpccpicaaGreat.Place
open Go.RowKit Stamp
attribute [local go_sem ↓] Go.wp_at_zero Go.wp_at_succ
theorem firstOf_any (t r : Nat) (m : Int) (w : World) :
    Calls Tryz.prog 50 #[.agg #[.int .u32 (t : Int), .int .u8 (r : Int), .int .i64 m]] w fun e w' => e = .returned (.agg #[.int .u32 (t : Int), .int .u8 (r : Int)]) ∧ Below w.heap.size w w' := by
  go_enter Tryz.func50, Tryz.ntmps50
  go_wp2
  refine bodyPost_ret (v := .agg #[.int .u32 (t : Int), .int .u8 (r : Int)]) (by simp [results, Tryz.results50, go_sem]) rfl ⟨rfl, ?_⟩
  exact ((Below.refl _ _).alloc (Nat.le_refl _) _).alloc (by simp) _
theorem lastOf_any (t r : Nat) (m : Int) (z : Nat) (hz : (z : Int) = (t : Int) + (m - 1)) (hm : 1 ≤ m ∧ m ≤ 4096) (hb : t ≤ 1073741824) (w : World) :
    Calls Tryz.prog 96 #[.agg #[.int .u32 (t : Int), .int .u8 (r : Int), .int .i64 m]] w fun e w' => e = .returned (.agg #[.int .u32 (z : Int), .int .u8 (r : Int)]) ∧ Below w.heap.size w w' := by
  obtain ⟨o1, o2⟩ := hm
  have e3 : IntKind.u32.wrap (m - 1) = m - 1 := by rw [IntKind.wrap_u32]; omega
  have e4 : IntKind.u32.wrap ((t : Int) + (m - 1)) = (t : Int) + (m - 1) := by rw [IntKind.wrap_u32]; omega
  have e5 : IntKind.i64.wrap (m - 1) = m - 1 := IntWalk.i64_in _ (by omega)
  rw [hz]
  clear hz
  go_enter Tryz.func96, Tryz.ntmps96
  go_wp2
  refine bodyPost_ret (v := .agg #[.int .u32 ((t : Int) + (m - 1)), .int .u8 (r : Int)]) (by simp [results, Tryz.results96, go_sem]) rfl ⟨rfl, ?_⟩
  exact ((Below.refl _ _).alloc (Nat.le_refl _) _).alloc (by simp) _
/-- Does a stamp go on a run of last time z? -/
def goes (z r u s : Nat) : Bool := decide (u = z + 1 ∧ s = r)
set_option maxHeartbeats 1000000 in
theorem goesOn_any (t r : Nat) (m : Int) (z u s : Nat) (hz : (z : Int) = (t : Int) + (m - 1)) (hm : 1 ≤ m ∧ m ≤ 4096) (hb : t ≤ 1073741824) (w : World) :
    Calls Tryz.prog 97 #[.agg #[.int .u32 (t : Int), .int .u8 (r : Int), .int .i64 m], .agg #[.int .u32 (u : Int), .int .u8 (s : Int)]] w fun e w' => e = .returned (.bool (goes z r u s)) ∧ Below w.heap.size w w' := by
  have L := Lib.hid (fun W => lastOf_any t r m z hz hm hb W)
  have hz2 : (z : Int) + 1 ≤ 1073745920 := by omega
  have hw : IntKind.u32.wrap ((z : Int) + 1) = (z : Int) + 1 := by rw [IntKind.wrap_u32]; omega
  obtain ⟨q, hq⟩ : ∃ q, goes z r u s = q := ⟨_, rfl⟩
  have hc : ((u : Int) = (z : Int) + 1 ∧ s = r ∧ q = true) ∨ (¬ (u : Int) = (z : Int) + 1 ∧ q = false) ∨ ((u : Int) = (z : Int) + 1 ∧ ¬ s = r ∧ q = false) := by
    unfold goes at hq
    by_cases h1 : u = z + 1
    · by_cases h2 : s = r
      · exact .inl ⟨by omega, h2, by rw [← hq]; exact decide_eq_true ⟨h1, h2⟩⟩
      · exact .inr (.inr ⟨by omega, h2, by rw [← hq]; exact decide_eq_false (by omega)⟩)
    · exact .inr (.inl ⟨by omega, by rw [← hq]; exact decide_eq_false (by omega)⟩)
  have P1 : Hid (Pair ((w.alloc (.cells #[.int .u32 (t : Int), .int .u8 (r : Int), .int .i64 m] 40)).alloc (.cells #[.int .u32 (u : Int), .int .u8 (s : Int)] 25)) (w.heap.size + 1) (.int .u32 (u : Int)) (.int .u8 (s : Int))) := by
    have := pair_new (w.alloc (.cells #[.int .u32 (t : Int), .int .u8 (r : Int), .int .i64 m] 40)) (.int .u32 (u : Int)) (.int .u8 (s : Int)) 25
    unfold Hid
    simpa using this
  have B0 : Hid (Below w.heap.size w ((w.alloc (.cells #[.int .u32 (t : Int), .int .u8 (r : Int), .int .i64 m] 40)).alloc (.cells #[.int .u32 (u : Int), .int .u8 (s : Int)] 25))) := ((Below.refl _ _).alloc (Nat.le_refl _) _).alloc (by simp) _
  rw [hq]
  clear hq hz hm hb
  go_enter Tryz.func97, Tryz.ntmps97
  go_wp2_with fail
  refine (L.out _).mono ?_
  rintro e w1 ⟨rfl, b1⟩
  have PP := Lib.hid (P1.out.keeps b1)
  have B1 := Lib.hid (bt B0.out b1)
  clear b1 B0 P1
  obtain ⟨g0, g1, g2⟩ := PP.out
  have hne : ¬ w.heap.size + 1 = w1.heap.size := by omega
  rcases hc with ⟨h1, rfl, rfl⟩ | ⟨h1, rfl⟩ | ⟨h1, h2, rfl⟩
  · rw [h1] at g1
    go_wp2
    go_ret
    exact ⟨rfl, B1.out.alloc B1.out.size _⟩
  · go_wp2
    go_ret
    exact ⟨rfl, B1.out.alloc B1.out.size _⟩
  · rw [h1] at g1
    go_wp2
    go_ret
    exact ⟨rfl, B1.out.alloc B1.out.size _⟩
theorem keepT2 {wl w1 w2 : World} {h1 h2 : Nat} {c0 c1 c2 d0 d1 d2 : Value} (p1 : Tri wl h1 c0 c1 c2) (p2 : Tri wl h2 d0 d1 d2) (h : Below w1.heap.size w1 w2) (hb : Below wl.heap.size wl w1) :
    Below wl.heap.size wl w2 ∧ w2.cell? ⟨h1, 0, none⟩ = some c0 ∧ w2.cell? ⟨h1, 1, none⟩ = some c1 ∧ w2.cell? ⟨h1, 2, none⟩ = some c2 ∧ w2.cell? ⟨h2, 0, none⟩ = some d0 ∧ w2.cell? ⟨h2, 1, none⟩ = some d1 ∧ w2.cell? ⟨h2, 2, none⟩ = some d2 :=
  have b := bt hb h
  ⟨b, (p1.keeps b).2.1, (p1.keeps b).2.2.1, (p1.keeps b).2.2.2, (p2.keeps b).2.1, (p2.keeps b).2.2.1, (p2.keeps b).2.2.2⟩
theorem field_t (a b : Value) (W : World) : (Instr.field 25 (.agg #[a, b]) 0).run Tryz.prog W = .ok a W := by kernel_rfl
/-- May a run of time t by r stand behind one whose last time is z, by r0? -/
def nextB (z r0 t r : Nat) : Bool := decide (z < t ∧ (r = r0 → z + 1 < t))
set_option maxRecDepth 100000 in
set_option maxHeartbeats 1000000 in
theorem follows_any (t r : Nat) (m : Int) (t0 r0 : Nat) (m0 : Int) (z : Nat) (hz : (z : Int) = (t0 : Int) + (m0 - 1)) (hm : 1 ≤ m0 ∧ m0 ≤ 4096) (hb : t0 ≤ 1073741824) (w : World) :
    Calls Tryz.prog 58 #[.agg #[.int .u32 (t : Int), .int .u8 (r : Int), .int .i64 m], .agg #[.int .u32 (t0 : Int), .int .u8 (r0 : Int), .int .i64 m0]] w fun e w' => e = .returned (.bool (nextB z r0 t r)) ∧ Below w.heap.size w w' := by
  have LO := Lib.hid (fun W => lastOf_any t0 r0 m0 z hz hm hb W)
  have FO := Lib.hid (fun W => firstOf_any t r m W)
  have GO := Lib.hid (fun W => goesOn_any t0 r0 m0 z t r hz hm hb W)
  obtain ⟨g, hg⟩ : ∃ g, goes z r0 t r = g := ⟨_, rfl⟩
  rw [hg] at GO
  obtain ⟨q, hq⟩ : ∃ q, nextB z r0 t r = q := ⟨_, rfl⟩
  have hc : (z < t ∧ q = !g) ∨ (¬ z < t ∧ q = false) := by
    unfold goes at hg
    unfold nextB at hq
    by_cases h1 : z < t
    · refine .inl ⟨h1, ?_⟩
      by_cases h2 : t = z + 1 ∧ r = r0
      · rw [decide_eq_true h2] at hg
        rw [decide_eq_false (by omega)] at hq
        rw [← hg, ← hq]; rfl
      · rw [decide_eq_false h2] at hg
        rw [decide_eq_true (by omega)] at hq
        rw [← hg, ← hq]; rfl
    · exact .inr ⟨h1, by rw [← hq]; exact decide_eq_false (by omega)⟩
  have hf0 : ∀ W : World, (Instr.field 25 (.agg #[.int .u32 (z : Int), .int .u8 (r0 : Int)]) 0).run Tryz.prog W = .ok (.int .u32 (z : Int)) W := fun W => field_t _ _ W
  obtain ⟨wl, hwl⟩ : ∃ wl, wl = (w.alloc (.cells #[.int .u32 (t : Int), .int .u8 (r : Int), .int .i64 m] 40)).alloc (.cells #[.int .u32 (t0 : Int), .int .u8 (r0 : Int), .int .i64 m0] 40) := ⟨_, rfl⟩
  have PA : Hid (Tri wl w.heap.size (.int .u32 (t : Int)) (.int .u8 (r : Int)) (.int .i64 m)) := by
    rw [hwl]
    exact (tri_new w (.int .u32 (t : Int)) (.int .u8 (r : Int)) (.int .i64 m) 40).keeps ((Below.refl _ _).alloc (Nat.le_refl _) _)
  have PB : Hid (Tri wl (w.heap.size + 1) (.int .u32 (t0 : Int)) (.int .u8 (r0 : Int)) (.int .i64 m0)) := by
    have := tri_new (w.alloc (.cells #[.int .u32 (t : Int), .int .u8 (r : Int), .int .i64 m] 40)) (.int .u32 (t0 : Int)) (.int .u8 (r0 : Int)) (.int .i64 m0) 40
    rw [hwl]
    unfold Hid
    simpa using this
  have B0 : Hid (Below w.heap.size w wl) := by rw [hwl]; exact ((Below.refl _ _).alloc (Nat.le_refl _) _).alloc (by simp) _
  rw [hq]
  clear hg hq hz hm hb
  rcases hc with ⟨h1, rfl⟩ | ⟨h1, rfl⟩
  · have t1 : decide ((z : Int) < (t : Int)) = true := decide_eq_true (by omega)
    have t2 : decide (z < t) = true := decide_eq_true h1
    go_enter Tryz.func58, Tryz.ntmps58
    go_wp2
    rw [← hwl]
    clear hwl
    go_region_held3 (fun w' => Below wl.heap.size wl w' ∧ w'.cell? ⟨w.heap.size, 0, none⟩ = some (.int .u32 (t : Int)) ∧ w'.cell? ⟨w.heap.size, 1, none⟩ = some (.int .u8 (r : Int)) ∧ w'.cell? ⟨w.heap.size, 2, none⟩ = some (.int .i64 m) ∧ w'.cell? ⟨w.heap.size + 1, 0, none⟩ = some (.int .u32 (t0 : Int)) ∧ w'.cell? ⟨w.heap.size + 1, 1, none⟩ = some (.int .u8 (r0 : Int)) ∧ w'.cell? ⟨w.heap.size + 1, 2, none⟩ = some (.int .i64 m0))
      (first | exact keepT2 PA.out PB.out (drew1 _) (Below.refl _ _) | (go_split_ands; exact keepT2 PA.out PB.out (drew1 _) (by assumption)) | (go_split_ands; exact keepT2 PA.out PB.out (by assumption) (by assumption)))
      ((first | (go_at_call 96; (with_reducible refine (LO.out _).mono ?_); rintro e w4 ⟨rfl, b4⟩) | (go_at_call 50; (with_reducible refine (FO.out _).mono ?_); rintro e w5 ⟨rfl, b5⟩) | (go_at_call 97; (with_reducible refine (GO.out _).mono ?_); rintro e w6 ⟨rfl, b6⟩)))
    all_goals
      go_wp2
      go_ret
      go_split_ands
      exact ⟨rfl, B0.out.trans (Below.mono (by assumption) B0.out.size)⟩
  · have t1 : decide ((z : Int) < (t : Int)) = false := decide_eq_false (by omega)
    have t2 : decide (z < t) = false := decide_eq_false h1
    go_enter Tryz.func58, Tryz.ntmps58
    go_wp2
    rw [← hwl]
    clear hwl
    refine wp_region_held_drew (S := fun w' => Below wl.heap.size wl w' ∧ w'.cell? ⟨w.heap.size, 0, none⟩ = some (.int .u32 (t : Int)) ∧ w'.cell? ⟨w.heap.size, 1, none⟩ = some (.int .u8 (r : Int)) ∧ w'.cell? ⟨w.heap.size, 2, none⟩ = some (.int .i64 m) ∧ w'.cell? ⟨w.heap.size + 1, 0, none⟩ = some (.int .u32 (t0 : Int)) ∧ w'.cell? ⟨w.heap.size + 1, 1, none⟩ = some (.int .u8 (r0 : Int)) ∧ w'.cell? ⟨w.heap.size + 1, 2, none⟩ = some (.int .i64 m0)) (by kernel_rfl) (keepT2 PA.out PB.out (drew1 _) (Below.refl _ _)) (fun hHeld => ?_)
    refine rN 0 ?_
    refine rN 1 ?_
    refine rN 2 ?_
    refine wpAnyH_ready (rs := [3]) (by kernel_rfl) (by simp) ?_
    refine AllReadyH.cons rfl (fun K hK => ?_) ?za3
    case za3 => exact AllReadyH.nil
    go_simp
    refine (LO.out _).mono ?_
    rintro e w9 ⟨rfl, b9⟩
    refine hK.out _ _ (keepT2 PA.out PB.out b9 hHeld.1) (fun hNew => ?_)
    clear hHeld b9
    have hHeld := hNew
    clear hNew hK K
    refine rX ?_
    refine rN 4 ?_
    refine rN 5 ?_
    refine rN 6 ?_
    refine rV 7 ?_
    refine rV 8 ?_
    refine rV 9 ?_
    refine rV 10 ?_
    refine rV 11 ?_
    refine rN 12 ?_
    refine rN 13 ?_
    refine wpAnyH_done (by kernel_rfl) ?_ _
    go_wp2
    go_ret
    exact ⟨rfl, B0.out.trans (hHeld.1.mono B0.out.size)⟩
end Go.Proofs.YtmiepnnpccpicaaGreat.Place

namespace Go.Proofs.YtmiepnnpccpicaaGreat.Place
open Go.RowKit Stamp
attribute [local go_sem ↓] Go.wp_at_zero Go.wp_at_succ
set_option maxHeartbeats 1000000 in
theorem runMayBe_any (t r : Nat) (m : Int) (w : World) :
    Calls Tryz.prog 57 #[.agg #[.int .u32 (t : Int), .int .u8 (r : Int), .int .i64 m]] w fun e w' => e = .returned (.bool (oneB t r m)) ∧ Below w.heap.size w w' := by
  have q : (decide (m < 1) = true ∧ oneB t r m = false) ∨ (decide (m < 1) = false ∧ decide (4096 < m) = true ∧ oneB t r m = false) ∨
      (decide (m < 1) = false ∧ decide (4096 < m) = false ∧ may t r = false ∧ oneB t r m = false) ∨
      (decide (m < 1) = false ∧ decide (4096 < m) = false ∧ may t r = true ∧ (1 ≤ m ∧ m ≤ 4096) ∧ t ≤ 1073741824 ∧ ∃ z : Nat, (z : Int) = (t : Int) + (m - 1) ∧ oneB t r m = may z r) := by
    unfold oneB
    by_cases h1 : m < 1
    · exact .inl ⟨decide_eq_true h1, decide_eq_false (by omega)⟩
    by_cases h2 : 4096 < m
    · exact .inr (.inl ⟨decide_eq_false h1, decide_eq_true h2, decide_eq_false (by omega)⟩)
    cases h3 : may t r
    · have := may_no.1 h3
      exact .inr (.inr (.inl ⟨decide_eq_false h1, decide_eq_false h2, rfl, decide_eq_false (by omega)⟩))
    · have := may_iff.1 h3
      refine .inr (.inr (.inr ⟨decide_eq_false h1, decide_eq_false h2, rfl, ⟨by omega, by omega⟩, by omega, ((t : Int) + (m - 1)).toNat, by omega, ?_⟩))
      unfold may
      rw [decide_eq_decide]
      omega
  have FO := Lib.hid (fun W => firstOf_any t r m W)
  have P0 := Lib.hid (tri_new w (.int .u32 (t : Int)) (.int .u8 (r : Int)) (.int .i64 m) 40)
  have B0 := Lib.hid ((Below.refl w.heap.size w).alloc (Nat.le_refl _) (.cells #[.int .u32 (t : Int), .int .u8 (r : Int), .int .i64 m] 40))
  rcases q with ⟨q1, h⟩ | ⟨q1, q2, h⟩ | ⟨q1, q2, q3, h⟩ | ⟨q1, q2, q3, q4, q5, z, hz, h⟩
  · rw [h]
    clear h
    go_enter Tryz.func57, Tryz.ntmps57
    go_wp2
    go_ret
    exact ⟨rfl, (Below.refl _ _).alloc (Nat.le_refl _) _⟩
  · rw [h]
    clear h
    go_enter Tryz.func57, Tryz.ntmps57
    go_wp2
    go_ret
    exact ⟨rfl, (Below.refl _ _).alloc (Nat.le_refl _) _⟩
  · have CK := Lib.hid (fun W => check_no t r q3 W)
    rw [h]
    clear h q3
    go_enter Tryz.func57, Tryz.ntmps57
    go_wp2_with fail
    refine (FO.out _).mono ?_
    rintro e w1 ⟨rfl, b1⟩
    have B1 := Lib.hid (bt B0.out b1)
    clear b1
    go_wp2_with fail
    refine (CK.out _).mono ?_
    rintro e w2 ⟨rfl, b2⟩
    have B2 := Lib.hid (bt B1.out b2)
    clear b2
    go_wp2
    go_ret
    exact ⟨rfl, B2.out⟩
  · have CK := Lib.hid (fun W => check_yes t r q3 W)
    have LO := Lib.hid (fun W => lastOf_any t r m z hz q4 q5 W)
    obtain ⟨q, hq⟩ : ∃ q, may z r = q := ⟨_, rfl⟩
    rw [h, hq]
    have C2 : Hid (∀ W : World, Calls Tryz.prog 72 #[.agg #[.int .u32 (z : Int), .int .u8 (r : Int)]] W fun e w' => e = .returned (.int .i64 (if q = true then 0 else 8)) ∧ Below W.heap.size W w') := fun W => by
      have := check_any z r W
      unfold Stamp.chk at this
      rwa [hq] at this
    clear h q3 hz q4 q5 hq
    cases q
    all_goals
      simp only [Bool.false_eq_true, if_false, if_true] at C2
      go_enter Tryz.func57, Tryz.ntmps57
      go_wp2_with fail
      refine (FO.out _).mono ?_
      rintro e w1 ⟨rfl, b1⟩
      have B1 := Lib.hid (bt B0.out b1)
      have P1 := Lib.hid (P0.out.keeps b1)
      clear b1
      go_wp2_with fail
      refine (CK.out _).mono ?_
      rintro e w2 ⟨rfl, b2⟩
      have B2 := Lib.hid (bt B1.out b2)
      have P2 := Lib.hid (P1.out.keeps b2)
      clear b2
      obtain ⟨g0, g1, g2, g3⟩ := P2.out
      go_wp2_with fail
      refine (LO.out _).mono ?_
      rintro e w3 ⟨rfl, b3⟩
      have B3 := Lib.hid (bt B2.out b3)
      clear b3 g0 g1 g2 g3
      go_wp2_with fail
      refine (C2.out _).mono ?_
      rintro e w4 ⟨rfl, b4⟩
      have B4 := Lib.hid (bt B3.out b4)
      clear b4
      go_wp2
      go_ret
      exact ⟨rfl, B4.out⟩
theorem ptwin_any {v : Value} {l : List Run} {w : World} (hv : Runs w v l) (hl : l.length ≤ 8796093022208) :
    Calls Tryz.prog 83 #[v] w fun e w' => ∃ v', e = .returned v' ∧ w'.ownsRow w.heap.size 40 3 v' l.length (runs l) ∧ Below w.heap.size w w' := by
  obtain ⟨ao, cap, rfl⟩ := hv.shape
  have HV : Hid (Sees w (.slice ao l.length cap) 3 l.length (runs l)) := hv
  have O0 : Hid (w.ownsRow w.heap.size 40 3 (.slice none 0 0) 0 []) := World.ownsRow_nil _ _ _ _
  clear hv
  go_enter Tryz.func83, Tryz.ntmps83
  go_wp2_with (at_builtin; refine wpList_append_sees rfl (.const (.slice none 0 0)) (.tmp 3) 26 40 rfl Tryz.underlying26 run_info rfl (by decide) w.heap.size _ 0 [] rfl O0.out _ l.length _ rfl HV.out (runs_oneCell l) ?k1 ?k2 ?k3 ?_)
  case k1 => omega
  case k2 => omega
  case k3 => simp
  rintro v1 w1 o1 g1 b1
  have HO : Hid (w1.ownsRow w.heap.size 40 3 v1 l.length (runs l)) := by
    have := o1
    unfold Hid
    simpa using this
  have HB := Lib.hid b1
  clear o1 g1 b1
  go_wp2
  go_ret
  exact ⟨_, rfl, HO.out, HB.out⟩
end Go.Proofs.YtmiepnnpccpicaaGreat.Place

namespace Go.Proofs.YtmiepnnpccpicaaGreat.Place
open Go.RowKit Stamp
attribute [local go_sem ↓] Go.wp_at_zero Go.wp_at_succ
attribute [local go_sem] yielded_undef
def chainB : List Run → Bool
  | [] => true
  | [x] => decide (One x)
  | x :: y :: p => decide (One x) && (decide (Next x y) && chainB (y :: p))
theorem chainB_iff : ∀ p : List Run, chainB p = true ↔ Chain p
  | [] => by simp [chainB, Chain]
  | [x] => by simp [chainB, Chain]
  | x :: y :: p => by simp [chainB, Chain, chainB_iff (y :: p)]
def mayB (p : List Run) : Bool := decide (1 ≤ p.length) && (decide (p.length ≤ 64) && (chainB p && decide (long p ≤ 4096)))
theorem mayB_iff (p : List Run) : mayB p = true ↔ May p := by simp [mayB, May, chainB_iff]
theorem mayB_no {p : List Run} (h : ¬ May p) : mayB p = false := by
  cases hb : mayB p
  · rfl
  · exact absurd ((mayB_iff p).1 hb) h
theorem chain_one : ∀ {l : List Run} {k : Nat}, Chain l → k < l.length → One (l.getD k zrun)
  | [], k, _, h => by simp at h
  | x :: p, 0, h, _ => by simpa using h.head
  | x :: p, k + 1, h, hk => by simpa using chain_one (k := k) h.tail (by simpa using hk)
theorem chain_next : ∀ {l : List Run} {k : Nat}, Chain l → k + 1 < l.length → Next (l.getD k zrun) (l.getD (k + 1) zrun)
  | [], k, _, h => by simp at h
  | [x], k, _, h => by simp at h
  | x :: y :: p, 0, h, _ => by simpa using h.2.1
  | x :: y :: p, k + 1, h, hk => by simpa using chain_next (k := k) h.2.2 (by simpa using hk)
theorem take_last (l : List Run) (k : Nat) (h : k + 1 ≤ l.length) : (l.take (k + 1)).getLast? = some (l.getD k zrun) := by
  rw [List.take_succ_eq_append_getElem (by omega), List.getLast?_concat]
  simp [List.getD, List.getElem?_eq_getElem (show k < l.length by omega)]
theorem chain_take_one (l : List Run) (h : 0 < l.length) (h1 : One (l.getD 0 zrun)) : Chain (l.take (0 + 1)) := by
  cases l with
  | nil => simp at h
  | cons x p => show One x; simpa using h1
theorem chain_take_succ (l : List Run) (j : Nat) (h : j + 1 < l.length) (hc : Chain (l.take (j + 1))) (h1 : One (l.getD (j + 1) zrun)) (h2 : Next (l.getD j zrun) (l.getD (j + 1) zrun)) : Chain (l.take (j + 1 + 1)) := by
  rw [List.take_succ_eq_append_getElem h]
  have e : l[j + 1] = l.getD (j + 1) zrun := by simp [List.getD, List.getElem?_eq_getElem h]
  rw [e]
  refine chain_append hc h1 ?_
  intro x y hx hy
  rw [take_last l j (by omega)] at hx
  simp only [Option.some.injEq, List.head?_cons] at hx hy
  subst hx hy
  exact h2
def anyB (l : List Run) : Bool := decide (l.length = 0) || mayB l
theorem anyB_iff (l : List Run) : anyB l = true ↔ Any l := by simp [anyB, Any, mayB_iff]
def chk (l : List Run) : Int := if mayB l = true then 0 else 8
end Go.Proofs.YtmiepnnpccpicaaGreat.Place

namespace Go.Proofs.YtmiepnnpccpicaaGreat.Place
open Go.RowKit Stamp
attribute [local go_sem ↓] Go.wp_at_zero Go.wp_at_succ
attribute [local go_sem] yielded_undef
theorem keepT1 {wl w1 w2 : World} {h1 : Nat} {c0 c1 c2 : Value} (p1 : Tri wl h1 c0 c1 c2) (h : Below w1.heap.size w1 w2) (hb : Below wl.heap.size wl w1) :
    Below wl.heap.size wl w2 ∧ w2.cell? ⟨h1, 0, none⟩ = some c0 ∧ w2.cell? ⟨h1, 1, none⟩ = some c1 ∧ w2.cell? ⟨h1, 2, none⟩ = some c2 :=
  have b := bt hb h
  ⟨b, (p1.keeps b).2.1, (p1.keeps b).2.2.1, (p1.keeps b).2.2.2⟩
/-- Three cells in the midst of a block. -/
def Mid3 (w : World) (b o1 o2 o3 : Nat) (d0 d1 d2 : Value) : Prop := b < w.heap.size ∧ w.cell? ⟨b, o1, none⟩ = some d0 ∧ w.cell? ⟨b, o2, none⟩ = some d1 ∧ w.cell? ⟨b, o3, none⟩ = some d2
theorem Mid3.keeps {w w' : World} {b o1 o2 o3 : Nat} {d0 d1 d2 : Value} (p : Mid3 w b o1 o2 o3 d0 d1 d2) (hb : Below w.heap.size w w') : Mid3 w' b o1 o2 o3 d0 d1 d2 :=
  ⟨Nat.lt_of_lt_of_le p.1 hb.size, (hb.cell (p := ⟨b, o1, none⟩) p.1).trans p.2.1, (hb.cell (p := ⟨b, o2, none⟩) p.1).trans p.2.2.1, (hb.cell (p := ⟨b, o3, none⟩) p.1).trans p.2.2.2⟩
theorem keepTP {wl w1 w2 : World} {h1 b o1 o2 o3 : Nat} {c0 c1 c2 d0 d1 d2 : Value} (p1 : Tri wl h1 c0 c1 c2) (p2 : Mid3 wl b o1 o2 o3 d0 d1 d2) (h : Below w1.heap.size w1 w2) (hb : Below wl.heap.size wl w1) :
    Below wl.heap.size wl w2 ∧ w2.cell? ⟨h1, 0, none⟩ = some c0 ∧ w2.cell? ⟨h1, 1, none⟩ = some c1 ∧ w2.cell? ⟨h1, 2, none⟩ = some c2 ∧ w2.cell? ⟨b, o1, none⟩ = some d0 ∧ w2.cell? ⟨b, o2, none⟩ = some d1 ∧ w2.cell? ⟨b, o3, none⟩ = some d2 :=
  have a := bt hb h
  ⟨a, (p1.keeps a).2.1, (p1.keeps a).2.2.1, (p1.keeps a).2.2.2, (p2.keeps a).2.1, (p2.keeps a).2.2.1, (p2.keeps a).2.2.2⟩
theorem nextB_iff {x y : Run} {z : Nat} (hz : (z : Int) = (x.t : Int) + (x.m - 1)) : nextB z x.r y.t y.r = true ↔ Next x y := by
  unfold nextB Next fin
  rw [decide_eq_true_iff]
  constructor
  · rintro ⟨h1, h2⟩; exact ⟨by omega, fun h => by have := h2 h; omega⟩
  · rintro ⟨h1, h2⟩; exact ⟨by omega, fun h => by have := h2 h; omega⟩
set_option maxRecDepth 100000 in
set_option maxHeartbeats 8000000 in
theorem check_any {v : Value} {l : List Run} {w : World} (hv : Runs w v l) :
    Calls Tryz.prog 24 #[v] w fun e w' => e = .returned (.int .i64 (chk l)) ∧ Below w.heap.size w w' := by
  obtain ⟨ao, cap, rfl⟩ := hv.shape
  obtain ⟨n, hn⟩ : ∃ n, n = l.length := ⟨_, rfl⟩
  have hmax : n ≤ 9223372036854775807 := by rw [hn]; exact Sees.max hv
  have HV := Lib.hid hv
  have HN := Lib.hid hn
  rw [← hn]
  clear hv
  have hno : mayB l = false → chk l = 8 := fun h => by unfold chk; rw [h]; rfl
  by_cases h0 : n < 1
  · have t1 : decide ((n : Int) < 1) = true := decide_eq_true (by omega)
    obtain rfl : n = 0 := by omega
    rw [hno (mayB_no (fun h => by have := h.1; omega))]
    clear hn h0 hno
    go_enter Tryz.func24, Tryz.ntmps24
    go_wp2
    go_ret
    exact ⟨rfl, Below.refl _ _⟩
  have t1 : decide ((n : Int) < 1) = false := decide_eq_false (by omega)
  by_cases h64 : 64 < n
  · have t2 : decide ((64 : Int) < (n : Int)) = true := decide_eq_true (by omega)
    have t3 : decide (64 < n) = true := decide_eq_true h64
    have t4 : ¬ n = 0 := by omega
    rw [hno (mayB_no (fun h => by have := h.2.1; omega))]
    clear hn h0 hno
    go_enter Tryz.func24, Tryz.ntmps24
    go_wp2
    go_ret
    exact ⟨rfl, Below.refl _ _⟩
  have t2 : decide ((64 : Int) < (n : Int)) = false := decide_eq_false (by omega)
  have t3 : decide (64 < n) = false := decide_eq_false h64
  have t4 : ¬ n = 0 := by omega
  have hn64 : n ≤ 64 := by omega
  have HNO := Lib.hid hno
  clear hn h0 hno h64
  go_enter Tryz.func24, Tryz.ntmps24
  go_wp2
  go_loopw [3, 16] (fun s i wr => ∃ (k : Nat) (L : Int), k ≤ n ∧ i = .int .i64 (k : Int) ∧ s = .int .i64 L ∧ (0 ≤ L ∧ L ≤ 4096 * (k : Int)) ∧ Hid (L = long (l.take k)) ∧ Hid (Chain (l.take k)) ∧ Hid (Below w.heap.size w wr)) (fun _ i _ => n - (intOf i).toNat)
  case atStart => exact ⟨0, 0, by omega, rfl, rfl, by omega, Lib.hid (by simp [long]), Lib.hid (by simp [Chain]), Lib.hid (Below.refl _ _)⟩
  case round =>
    obtain ⟨k, L, hk, rfl, rfl, hL, hlong, hch, hbel⟩ := hrel
    by_cases hkn : k < n
    · have q1 : decide (k < n) = true := by simpa using hkn
      have V1 : Runs wr (.slice ao n cap) l := by
        have := HV.out.keeps hbel.out
        rwa [← HN.out] at this
      obtain ⟨b, off, rfl, hb, hx0, hx1, hx2⟩ := V1.at k (by rw [← HN.out]; exact hkn)
      have V1' := Lib.hid V1
      obtain ⟨x, hx⟩ : ∃ x, x = l.getD k zrun := ⟨_, rfl⟩
      rw [← hx] at hx0 hx1 hx2
      have hone := oneB_iff x
      have hlt := long_take l k (by rw [← HN.out]; exact hkn)
      rw [← hx, ← hlong.out] at hlt
      obtain ⟨t, r, m, ht, hr, hm⟩ := x
      simp only at hx0 hx1 hx2 hone hlt
      have HX := Lib.hid hx
      have HONE := Lib.hid hone
      have HL2 : Hid (L + m = long (l.take (k + 1))) := hlt.symm
      have q2 : (0 : Int) ≤ (k : Int) := by omega
      have q3 : (k : Int) < (n : Int) := by omega
      obtain ⟨wl, hwl⟩ : ∃ wl, wl = wr.alloc (.cells #[.int .u32 (t : Int), .int .u8 (r : Int), .int .i64 m] 40) := ⟨_, rfl⟩
      have PA : Hid (Tri wl wr.heap.size (.int .u32 (t : Int)) (.int .u8 (r : Int)) (.int .i64 m)) := by rw [hwl]; exact tri_new wr _ _ _ _
      have B0 : Hid (Below wr.heap.size wr wl) := by rw [hwl]; exact (Below.refl _ _).alloc (Nat.le_refl _) _
      have RM := Lib.hid (runMayBe_any t r m)
      clear hx hone V1 hlt
      cases ho : oneB t r m
      · have hno : ¬ May l := fun h => by
          have h1 := chain_one h.2.2.1 (k := k) (by rw [← HN.out]; exact hkn)
          rw [← HX.out] at h1
          have := HONE.out.2 h1
          rw [ho] at this
          cases this
        rw [ho] at RM
        have HF := Lib.hid (HNO.out (mayB_no hno))
        clear hno ho
        go_wp2
        rw [← hwl]
        clear hwl
        refine wp_region_held_drew (S := fun w' => Below wl.heap.size wl w' ∧ w'.cell? ⟨wr.heap.size, 0, none⟩ = some (.int .u32 (t : Int)) ∧ w'.cell? ⟨wr.heap.size, 1, none⟩ = some (.int .u8 (r : Int)) ∧ w'.cell? ⟨wr.heap.size, 2, none⟩ = some (.int .i64 m)) (by kernel_rfl) (keepT1 PA.out (drew1 _) (Below.refl _ _)) (fun hHeld => ?_)
        refine rN 0 ?_
        refine wpAnyH_ready (rs := [1]) (by kernel_rfl) (by simp) ?_
        refine AllReadyH.cons rfl (fun K hK => ?_) ?za1
        case za1 => exact AllReadyH.nil
        go_simp
        refine (RM.out _).mono ?_
        rintro e w9 ⟨rfl, b9⟩
        refine hK.out _ _ (keepT1 PA.out b9 hHeld.1) (fun hNew => ?_)
        clear hHeld b9
        have hHeld := hNew
        clear hNew hK K
        refine rX ?_
        refine rN 2 ?_
        refine rN 3 ?_
        refine rV 4 ?_
        refine rV 5 ?_
        refine rV 6 ?_
        refine rV 7 ?_
        refine rV 8 ?_
        refine rV 9 ?_
        refine rV 10 ?_
        refine rV 11 ?_
        refine rV 12 ?_
        refine rV 13 ?_
        refine rV 14 ?_
        refine rV 15 ?_
        refine rN 16 ?_
        refine wpAnyH_done (by kernel_rfl) ?_ _
        go_wp2
        go_ret
        exact ⟨by rw [HF.out]; rfl, bt hbel.out (bt B0.out hHeld.1)⟩
      · have hOne := HONE.out.1 ho
        rw [ho] at RM
        have hmb : 1 ≤ m ∧ m ≤ 4096 := ⟨hOne.2.2.2.1, hOne.2.2.2.2.1⟩
        clear ho
        by_cases hk0 : k = 0
        · have HC : Hid (Chain (l.take (k + 1))) := by
            have := chain_take_one l (by rw [← HN.out]; omega) (by rw [← hk0, ← HX.out]; exact hOne)
            rw [hk0]; exact this
          have g1 : decide ((0 : Int) < (k : Int)) = false := decide_eq_false (by omega)
          have g2 : decide (0 < k) = false := decide_eq_false (by omega)
          clear hOne hk0
          go_wp2
          rw [← hwl]
          clear hwl
          refine wp_region_held_drew (S := fun w' => Below wl.heap.size wl w' ∧ w'.cell? ⟨wr.heap.size, 0, none⟩ = some (.int .u32 (t : Int)) ∧ w'.cell? ⟨wr.heap.size, 1, none⟩ = some (.int .u8 (r : Int)) ∧ w'.cell? ⟨wr.heap.size, 2, none⟩ = some (.int .i64 m)) (by kernel_rfl) (keepT1 PA.out (drew1 _) (Below.refl _ _)) (fun hHeld => ?_)
          refine rN 0 ?_
          refine wpAnyH_ready (rs := [1]) (by kernel_rfl) (by simp) ?_
          refine AllReadyH.cons rfl (fun K hK => ?_) ?zb1
          case zb1 => exact AllReadyH.nil
          go_simp
          refine (RM.out _).mono ?_
          rintro e w9 ⟨rfl, b9⟩
          refine hK.out _ _ (keepT1 PA.out b9 hHeld.1) (fun hNew => ?_)
          clear hHeld b9
          have hHeld := hNew
          clear hNew hK K
          refine rX ?_
          refine rN 2 ?_
          refine rN 3 ?_
          refine rN 4 ?_
          refine rN 5 ?_
          refine rN 6 ?_
          refine rV 7 ?_
          refine rV 8 ?_
          refine rV 9 ?_
          refine rV 10 ?_
          refine rV 11 ?_
          refine rV 12 ?_
          refine rV 13 ?_
          refine rV 14 ?_
          refine rN 15 ?_
          refine rN 16 ?_
          refine wpAnyH_done (by kernel_rfl) ?_ _
          obtain ⟨hH, hA0, hA1, hA2⟩ := hHeld
          go_wp2
          go_roundw
          case rel => exact ⟨k + 1, L + m, by omega, by go_num, rfl, by omega, HL2, HC, Lib.hid (bt hbel.out (bt B0.out hH))⟩
          case measure => simp [intOf]; omega
        · obtain ⟨j, hj⟩ : ∃ j, k = j + 1 := ⟨k - 1, by omega⟩
          have g1 : decide ((0 : Int) < (k : Int)) = true := decide_eq_true (by omega)
          have g2 : decide (0 < k) = true := decide_eq_true (by omega)
          have hchj : Chain (l.take (j + 1)) := by have := hch.out; rwa [hj] at this
          obtain ⟨b', off', he, _, hy0, hy1, hy2⟩ := V1'.out.at j (by rw [← HN.out]; omega)
          obtain ⟨rfl, rfl⟩ : b = b' ∧ off = off' := by simpa using he
          have hOneY : One (l.getD j zrun) := by
            have h1 := chain_one (k := j) hchj (by rw [List.length_take, ← HN.out]; omega)
            have h2 : (l.take (j + 1)).getD j zrun = l.getD j zrun := by simp [List.getD]
            rwa [h2] at h1
          obtain ⟨y, hy⟩ : ∃ y, y = l.getD j zrun := ⟨_, rfl⟩
          rw [← hy] at hy0 hy1 hy2 hOneY
          have hNx : Next y ⟨t, r, m, ht, hr, hm⟩ → Chain (l.take (k + 1)) := fun h => by
            rw [hj]
            refine chain_take_succ l j (by rw [← HN.out]; omega) hchj ?_ ?_
            · rw [← hj, ← HX.out]; exact hOne
            · rw [← hj, ← HX.out, ← hy]; exact h
          have hNo : ¬ Next y ⟨t, r, m, ht, hr, hm⟩ → chk l = 8 := fun h => by
            refine HNO.out (mayB_no (fun hM => h ?_))
            have h1 := chain_next hM.2.2.1 (k := j) (by rw [← HN.out]; omega)
            rw [← hj, ← HX.out, ← hy] at h1
            exact h1
          obtain ⟨z, hz⟩ : ∃ z : Nat, (z : Int) = (y.t : Int) + (y.m - 1) := ⟨((y.t : Int) + (y.m - 1)).toNat, by have := hOneY.2.2.2.1; omega⟩
          have hiff := nextB_iff (y := ⟨t, r, m, ht, hr, hm⟩) hz
          simp only at hiff
          have FW := Lib.hid (fun W => follows_any t r m y.t y.r y.m z hz ⟨hOneY.2.2.2.1, hOneY.2.2.2.2.1⟩ hOneY.2.1 W)
          obtain ⟨q, hq⟩ : ∃ q, nextB z y.r t r = q := ⟨_, rfl⟩
          rw [hq] at FW hiff
          have HC : Hid (q = true → Hid (Chain (l.take (k + 1)))) := fun h => hNx (hiff.1 h)
          have HNo : Hid (q = false → chk l = 8) := fun h => hNo (fun h2 => by have := hiff.2 h2; rw [h] at this; cases this)
          have PB0 : Mid3 wr b (off + j * 3) (off + j * 3 + 1) (off + j * 3 + 2) (.int .u32 (y.t : Int)) (.int .u8 (y.r : Int)) (.int .i64 y.m) := ⟨hb, hy0, hy1, hy2⟩
          have PB := Lib.hid (PB0.keeps B0.out)
          have i1 : (k : Int) - 1 = (j : Int) := by omega
          have i2 : IntKind.i64.wrap (j : Int) = (j : Int) := IntWalk.i64_in _ (by omega)
          have i3 : (0 : Int) ≤ (j : Int) := by omega
          have i4 : (j : Int) < (n : Int) := by omega
          obtain ⟨t0, r0, m0, ht0, hr0, hm0⟩ := y
          simp only at FW PB
          clear hOne hk0 hj hchj he hOneY hy hNx hNo hiff hz hq hy0 hy1 hy2 PB0
          cases q
          · have HF := Lib.hid (HNo.out rfl)
            clear HC HNo
            go_wp2
            rw [← hwl]
            clear hwl
            refine wp_region_held_drew (S := fun w' => Below wl.heap.size wl w' ∧ w'.cell? ⟨wr.heap.size, 0, none⟩ = some (.int .u32 (t : Int)) ∧ w'.cell? ⟨wr.heap.size, 1, none⟩ = some (.int .u8 (r : Int)) ∧ w'.cell? ⟨wr.heap.size, 2, none⟩ = some (.int .i64 m) ∧ w'.cell? ⟨b, off + j * 3, none⟩ = some (.int .u32 (t0 : Int)) ∧ w'.cell? ⟨b, off + j * 3 + 1, none⟩ = some (.int .u8 (r0 : Int)) ∧ w'.cell? ⟨b, off + j * 3 + 2, none⟩ = some (.int .i64 m0)) (by kernel_rfl) (keepTP PA.out PB.out (drew1 _) (Below.refl _ _)) (fun hHeld => ?_)
            refine rN 0 ?_
            refine wpAnyH_ready (rs := [1]) (by kernel_rfl) (by simp) ?_
            refine AllReadyH.cons rfl (fun K hK => ?_) ?zd1
            case zd1 => exact AllReadyH.nil
            go_simp
            refine (RM.out _).mono ?_
            rintro e w9 ⟨rfl, b9⟩
            refine hK.out _ _ (keepTP PA.out PB.out b9 hHeld.1) (fun hNew => ?_)
            clear hHeld b9
            have hHeld := hNew
            clear hNew hK K
            refine rX ?_
            refine rN 2 ?_
            refine rN 3 ?_
            refine rN 4 ?_
            refine rN 5 ?_
            refine rN 6 ?_
            refine rN 7 ?_
            refine rN 8 ?_
            refine rN 9 ?_
            refine rN 10 ?_
            refine rN 11 ?_
            refine rN 12 ?_
            refine wpAnyH_ready (rs := [13]) (by kernel_rfl) (by simp) ?_
            refine AllReadyH.cons rfl (fun K hK => ?_) ?zd13
            case zd13 => exact AllReadyH.nil
            go_simp
            refine (FW.out _).mono ?_
            rintro e w9 ⟨rfl, b9⟩
            refine hK.out _ _ (keepTP PA.out PB.out b9 hHeld.1) (fun hNew => ?_)
            clear hHeld b9
            have hHeld := hNew
            clear hNew hK K
            refine rX ?_
            refine rN 14 ?_
            refine rN 15 ?_
            refine rN 16 ?_
            refine wpAnyH_done (by kernel_rfl) ?_ _
            go_wp2
            go_ret
            exact ⟨by rw [HF.out]; rfl, bt hbel.out (bt B0.out hHeld.1)⟩
          · have HC2 := HC.out rfl
            clear HNo HC
            go_wp2
            rw [← hwl]
            clear hwl
            refine wp_region_held_drew (S := fun w' => Below wl.heap.size wl w' ∧ w'.cell? ⟨wr.heap.size, 0, none⟩ = some (.int .u32 (t : Int)) ∧ w'.cell? ⟨wr.heap.size, 1, none⟩ = some (.int .u8 (r : Int)) ∧ w'.cell? ⟨wr.heap.size, 2, none⟩ = some (.int .i64 m) ∧ w'.cell? ⟨b, off + j * 3, none⟩ = some (.int .u32 (t0 : Int)) ∧ w'.cell? ⟨b, off + j * 3 + 1, none⟩ = some (.int .u8 (r0 : Int)) ∧ w'.cell? ⟨b, off + j * 3 + 2, none⟩ = some (.int .i64 m0)) (by kernel_rfl) (keepTP PA.out PB.out (drew1 _) (Below.refl _ _)) (fun hHeld => ?_)
            refine rN 0 ?_
            refine wpAnyH_ready (rs := [1]) (by kernel_rfl) (by simp) ?_
            refine AllReadyH.cons rfl (fun K hK => ?_) ?zc1
            case zc1 => exact AllReadyH.nil
            go_simp
            refine (RM.out _).mono ?_
            rintro e w9 ⟨rfl, b9⟩
            refine hK.out _ _ (keepTP PA.out PB.out b9 hHeld.1) (fun hNew => ?_)
            clear hHeld b9
            have hHeld := hNew
            clear hNew hK K
            refine rX ?_
            refine rN 2 ?_
            refine rN 3 ?_
            refine rN 4 ?_
            refine rN 5 ?_
            refine rN 6 ?_
            refine rN 7 ?_
            refine rN 8 ?_
            refine rN 9 ?_
            refine rN 10 ?_
            refine rN 11 ?_
            refine rN 12 ?_
            refine wpAnyH_ready (rs := [13]) (by kernel_rfl) (by simp) ?_
            refine AllReadyH.cons rfl (fun K hK => ?_) ?zc13
            case zc13 => exact AllReadyH.nil
            go_simp
            refine (FW.out _).mono ?_
            rintro e w9 ⟨rfl, b9⟩
            refine hK.out _ _ (keepTP PA.out PB.out b9 hHeld.1) (fun hNew => ?_)
            clear hHeld b9
            have hHeld := hNew
            clear hNew hK K
            refine rX ?_
            refine rN 14 ?_
            refine rN 15 ?_
            refine rN 16 ?_
            refine wpAnyH_done (by kernel_rfl) ?_ _
            obtain ⟨hH, hA0, hA1, hA2, _, _, _⟩ := hHeld
            go_wp2
            go_roundw
            case rel => exact ⟨k + 1, L + m, by omega, by go_num, rfl, by omega, HL2, HC2.out, Lib.hid (bt hbel.out (bt B0.out hH))⟩
            case measure => simp [intOf]; omega
    · have q1 : decide (k < n) = false := by simpa using hkn
      have hkk : l.take k = l := List.take_of_length_le (by have := HN.out; omega)
      have hc : Chain l := by have := hch.out; rwa [hkk] at this
      have hl : L = long l := by have := hlong.out; rwa [hkk] at this
      by_cases hbig : 4096 < L
      · have t5 : decide (4096 < L) = true := decide_eq_true hbig
        have HF := Lib.hid (HNO.out (mayB_no (fun hM => by have := hM.2.2.2; omega)))
        clear hkk hc hl
        go_wp2
        go_ret
        exact ⟨by rw [HF.out]; rfl, hbel.out⟩
      · have t5 : decide (4096 < L) = false := decide_eq_false hbig
        have HF : Hid (chk l = 0) := by
          show _ = _
          unfold chk
          rw [if_pos ((mayB_iff l).2 ⟨by have := HN.out; omega, by have := HN.out; omega, hc, by omega⟩)]
        clear hkk hc hl
        go_wp2
        go_ret
        exact ⟨by rw [HF.out]; rfl, hbel.out⟩
theorem check_is {v : Value} {l : List Run} {w : World} (hv : Runs w v l) {c : Int} (h : chk l = c) :
    Calls Tryz.prog 24 #[v] w fun e w' => e = .returned (.int .i64 c) ∧ Below w.heap.size w w' := by
  rw [← h]; exact check_any hv
theorem stands_any {v : Value} {l : List Run} {w : World} (hv : Runs w v l) :
    Calls Tryz.prog 47 #[v] w fun e w' => e = .returned (.bool (anyB l)) ∧ Below w.heap.size w w' := by
  obtain ⟨ao, cap, rfl⟩ := hv.shape
  obtain ⟨n, hn⟩ : ∃ n, n = l.length := ⟨_, rfl⟩
  obtain ⟨mb, hmb⟩ : ∃ mb, mayB l = mb := ⟨_, rfl⟩
  have M : Hid (Calls Tryz.prog 24 #[.slice ao l.length cap] w fun e w' => e = .returned (.int .i64 (if mb = true then 0 else 8)) ∧ Below w.heap.size w w') := check_is hv (by unfold chk; rw [hmb])
  have HA : Hid (anyB l = (decide (n = 0) || mb)) := by show _ = _; unfold anyB; rw [hmb, hn]
  rw [← hn] at M ⊢
  rw [HA.out]
  clear hv hmb hn HA
  by_cases h0 : n = 0
  · subst h0
    go_enter Tryz.func47, Tryz.ntmps47
    go_wp2
    go_ret
    exact ⟨rfl, Below.refl _ _⟩
  · rw [decide_eq_false h0, Bool.false_or]
    have t1 : ((n : Int) == 0) = false := by simp; omega
    cases mb
    all_goals
      simp only [Bool.false_eq_true, if_false, if_true] at M
      go_enter Tryz.func47, Tryz.ntmps47
      go_wp2_with fail
      refine M.out.mono ?_
      rintro e w1 ⟨rfl, b1⟩
      go_wp2
      go_ret
      exact ⟨rfl, b1⟩
theorem stands_is {v : Value} {l : List Run} {w : World} (hv : Runs w v l) {b : Bool} (h : anyB l = b) :
    Calls Tryz.prog 47 #[v] w fun e w' => e = .returned (.bool b) ∧ Below w.heap.size w w' := by
  rw [← h]; exact stands_any hv
end Go.Proofs.YtmiepnnpccpicaaGreat.Place

namespace Go.Proofs.YtmiepnnpccpicaaGreat.Place
open Go.RowKit Stamp
attribute [local go_sem ↓] Go.wp_at_zero Go.wp_at_succ
/-- What is behind the first run. -/
theorem Runs.rest {w : World} {b off n cap : Nat} {x : Run} {q : List Run} (h : Runs w (.slice (some ⟨b, off, none⟩) n cap) (x :: q)) : Runs w (.slice (some (if cap = 1 then ⟨b, off, none⟩ else ⟨b, off + 3, none⟩)) (n - 1) (cap - 1)) q := by
  have hcap := Sees.cap h
  by_cases hc : cap = 1
  · rw [if_pos hc]
    have hq : q = [] := by
      cases q with
      | nil => rfl
      | cons y q => simp at hcap; omega
    subst hq
    refine ⟨rfl, some ⟨b, off, none⟩, cap - 1, by simp at hcap; simp [hcap.1], by simp, by omega, by simp, .inl rfl⟩
  · rw [if_neg hc]
    have := Go.Proofs.YtmiepnnpccpicaaGreat.Runs.tail h (k := 1) (by simp)
    simpa using this
end Go.Proofs.YtmiepnnpccpicaaGreat.Place

namespace Go.Proofs.YtmiepnnpccpicaaGreat.Place
open Go.RowKit Stamp
attribute [local go_sem ↓] Go.wp_at_zero Go.wp_at_succ
/-- How many stamps, as a natural number; and read out of the cells. -/
def nl : List Run → Nat
  | [] => 0
  | x :: p => x.m.toNat + nl p
def tot (w : World) (b off : Nat) : Nat → Nat
  | 0 => 0
  | k + 1 => tot w b off k + (match w.cell? ⟨b, off + k * 3 + 2, none⟩ with | some (.int _ m) => m.toNat | _ => 0)
def totV (w : World) : Value → Nat
  | .slice (some a) n _ => tot w a.block a.off n
  | _ => 0
theorem nl_append : ∀ p q : List Run, nl (p ++ q) = nl p + nl q
  | [], q => by simp [nl]
  | x :: p, q => by simp [nl, nl_append p q]; omega
theorem totV_runs {w : World} {v : Value} {l : List Run} (h : Runs w v l) : totV w v = nl l := by
  obtain ⟨ao, cap, rfl⟩ := h.shape
  cases ao with
  | none =>
    have hc := Sees.cap h
    have : l = [] := List.length_eq_zero_iff.1 (by have := hc.2.2.2 rfl; omega)
    subst this
    rfl
  | some a =>
    by_cases hl : l = []
    · subst hl; rfl
    · have hpos : 0 < l.length := by cases l with | nil => exact absurd rfl hl | cons x p => simp
      obtain ⟨b, off, he, _, _⟩ := h.at 0 hpos
      cases he
      have key : ∀ k, k ≤ l.length → tot w b off k = nl (l.take k) := by
        intro k
        induction k with
        | zero => intro _; rfl
        | succ k ih =>
          intro hk
          obtain ⟨b', off', he, _, _, _, h2⟩ := h.at k (by omega)
          cases he
          rw [tot, ih (by omega), h2, List.take_succ_eq_append_getElem (by omega), nl_append]
          simp [nl, List.getD, List.getElem?_eq_getElem (show k < l.length by omega)]
      show tot w b off l.length = nl l
      rw [key _ (Nat.le_refl _), List.take_length]
end Go.Proofs.YtmiepnnpccpicaaGreat.Place

namespace Go.Proofs.YtmiepnnpccpicaaGreat.Place
open Go.RowKit Stamp
attribute [local go_sem ↓] Go.wp_at_zero Go.wp_at_succ
def cmp (p q : List Run) : Int := if anyB p = true ∧ anyB q = true then hold (all p) (all q) else 0
end Go.Proofs.YtmiepnnpccpicaaGreat.Place

namespace Go.Proofs.YtmiepnnpccpicaaGreat.Place
open Go.RowKit Stamp
attribute [local go_sem ↓] Go.wp_at_zero Go.wp_at_succ
/-- The last stamp, or the zero one. -/
def lastV (l : List Run) : Int × Int := if mayB l = true then (((l.getD (l.length - 1) zrun).t : Int) + ((l.getD (l.length - 1) zrun).m - 1), ((l.getD (l.length - 1) zrun).r : Int)) else (0, 0)
theorem up_snoc (t r j : Nat) : up t r (j + 1) = up t r j ++ [mk (t + j) r] := by rw [up_add]; rfl
end Go.Proofs.YtmiepnnpccpicaaGreat.Place

namespace Go.Proofs.YtmiepnnpccpicaaGreat.Place
open Go.RowKit Stamp
attribute [local go_sem ↓] Go.wp_at_zero Go.wp_at_succ
set_option maxHeartbeats 1000000 in
theorem pcut_any (t r : Nat) (m : Int) (n : Nat) (ht : t + n ≤ 1073750000) (hm : 0 ≤ m ∧ m ≤ 4096) (hn : n ≤ 4096) (w : World) :
    Calls Tryz.prog 89 #[.agg #[.int .u32 (t : Int), .int .u8 (r : Int), .int .i64 m], .int .i64 (n : Int)] w fun e w' => e = .returned (.tuple #[.agg #[.int .u32 (t : Int), .int .u8 (r : Int), .int .i64 (n : Int)], .agg #[.int .u32 ((t : Int) + (n : Int)), .int .u8 (r : Int), .int .i64 (m - n)]]) ∧ Below w.heap.size w w' := by
  have e1 : IntKind.u32.wrap ((t : Int) + (n : Int)) = (t : Int) + (n : Int) := by rw [IntKind.wrap_u32]; omega
  have e2 : IntKind.i64.wrap (m - (n : Int)) = m - (n : Int) := IntWalk.i64_in _ (by omega)
  have e3 : IntKind.u32.wrap (n : Int) = (n : Int) := by rw [IntKind.wrap_u32]; omega
  have e4 : (n : Int) ≤ 4096 := by omega
  obtain ⟨o1, o2⟩ := hm
  have BW := Lib.hid (((Below.refl w.heap.size w).alloc (Nat.le_refl _) (.cells #[.int .u32 (t : Int), .int .u8 (r : Int), .int .i64 m] 40)).alloc (by simp) (.cells #[.int .u32 0, .int .u8 0, .int .i64 0] 40))
  go_enter Tryz.func89, Tryz.ntmps89
  go_wp2
  go_region
  go_wp2
  refine bodyPost_ret (v := .tuple #[.agg #[.int .u32 (t : Int), .int .u8 (r : Int), .int .i64 (n : Int)], .agg #[.int .u32 ((t : Int) + (n : Int)), .int .u8 (r : Int), .int .i64 (m - n)]]) (by simp [results, Tryz.results89, go_sem]) rfl ⟨rfl, ?_⟩
  exact ((((Below.refl _ _).alloc (Nat.le_refl _) _).alloc (by simp) _).alloc (by simp; omega) _).drew
/-- The run to go on with, and the runs behind. -/
def nx (x : Run) : List Run → Run × List Run
  | [] => (x, [])
  | y :: q => if 0 < x.m then (x, y :: q) else (y, q)
set_option maxHeartbeats 1000000 in
theorem orNext_any {v : Value} {x : Run} {p : List Run} {w : World} (hv : Runs w v p) :
    Calls Tryz.prog 88 #[.agg #[.int .u32 (x.t : Int), .int .u8 (x.r : Int), .int .i64 x.m], v] w fun e w' => ∃ v', e = .returned (.tuple #[.agg #[.int .u32 ((nx x p).1.t : Int), .int .u8 ((nx x p).1.r : Int), .int .i64 (nx x p).1.m], v']) ∧ (∀ W : World, Runs W v p → Runs W v' (nx x p).2) ∧ Below w.heap.size w w' := by
  obtain ⟨ao, cap, rfl⟩ := hv.shape
  have HV := Lib.hid hv
  have B2 := Lib.hid (((Below.refl w.heap.size w).alloc (Nat.le_refl _) (.cells #[.int .u32 (x.t : Int), .int .u8 (x.r : Int), .int .i64 x.m] 40)).alloc (by simp) (.cells #[.int .u32 (x.t : Int), .int .u8 (x.r : Int), .int .i64 x.m] 40))
  by_cases hm : 0 < x.m
  · have e : nx x p = (x, p) := by cases p with | nil => rfl | cons y q => simp [nx, hm]
    rw [e]
    have t1 : decide (0 < x.m) = true := decide_eq_true hm
    obtain ⟨t, r, m, ht, hr, hmm⟩ := x
    simp only at t1 B2 ⊢
    clear e hm hv
    go_enter Tryz.func88, Tryz.ntmps88
    go_wp2
    refine bodyPost_ret (v := .tuple #[.agg #[.int .u32 (t : Int), .int .u8 (r : Int), .int .i64 m], .slice ao p.length cap]) (by simp [results, Tryz.results88, go_sem]) rfl ⟨_, rfl, fun W hW => hW, B2.out⟩
  · have t1 : decide (0 < x.m) = false := decide_eq_false hm
    cases p with
    | nil =>
      have e : nx x [] = (x, []) := rfl
      rw [e]
      obtain ⟨t, r, m, ht, hr, hmm⟩ := x
      simp only [List.length_nil] at t1 B2 HV ⊢
      clear e hm hv
      go_enter Tryz.func88, Tryz.ntmps88
      go_wp2
      refine bodyPost_ret (v := .tuple #[.agg #[.int .u32 (t : Int), .int .u8 (r : Int), .int .i64 m], .slice ao 0 cap]) (by simp [results, Tryz.results88, go_sem]) rfl ⟨_, rfl, fun W hW => hW, B2.out⟩
    | cons y q =>
      have e : nx x (y :: q) = (y, q) := by simp [nx, hm]
      rw [e]
      obtain ⟨b, off, rfl, hb, hx0, hx1, hx2⟩ := hv.at 0 (by simp)
      have hcap := Sees.cap hv
      have RT : Hid (∀ W : World, Runs W (.slice (some ⟨b, off, none⟩) (y :: q).length cap) (y :: q) → Runs W (.slice (some (if cap = 1 then ⟨b, off, none⟩ else ⟨b, off + 3, none⟩)) ((y :: q).length - 1) (cap - 1)) q) := fun W hW => Runs.rest hW
      obtain ⟨n, hn⟩ : ∃ n, n = (y :: q).length := ⟨_, rfl⟩
      rw [← hn] at hcap RT HV ⊢
      have hx0 : w.cell? ⟨b, off, none⟩ = some (.int .u32 (y.t : Int)) := by simpa using hx0
      have hx1 : w.cell? ⟨b, off + 1, none⟩ = some (.int .u8 (y.r : Int)) := by simpa using hx1
      have hx2 : w.cell? ⟨b, off + 2, none⟩ = some (.int .i64 y.m) := by simpa using hx2
      obtain ⟨t, r, m, ht, hr, hmm⟩ := x
      obtain ⟨yt, yr, ym, hyt, hyr, hym⟩ := y
      simp only at hx0 hx1 hx2 t1 ⊢
      have hl1 : 1 ≤ n := by rw [hn]; simp
      have q0 : 0 < n := hl1
      have q1 : (0 : Int) < (n : Int) := by omega
      have q2 : (1 : Int) ≤ (n : Int) := by omega
      have q3 : ((n : Int) == 0) = false := by simp; omega
      have q4 : ¬ n = 0 := by omega
      have hlc : n ≤ cap := hcap.2.1
      have hcm : cap ≤ 9223372036854775807 := hcap.2.2.1
      have hb1 : ¬ b = w.heap.size := by omega
      have hb2 : ¬ b = w.heap.size + 1 := by omega
      have BW := Lib.hid ((((Below.refl w.heap.size w).alloc (Nat.le_refl _) (.cells #[.int .u32 (t : Int), .int .u8 (r : Int), .int .i64 m] 40)).alloc (by simp) (.cells #[.int .u32 (yt : Int), .int .u8 (yr : Int), .int .i64 ym] 40)).drew)
      clear e hm hv hn hcap B2
      by_cases hc : cap = 1
      · subst hc
        obtain rfl : n = 1 := by omega
        go_enter Tryz.func88, Tryz.ntmps88
        go_wp2
        go_region
        go_wp2
        refine bodyPost_ret (v := .tuple #[.agg #[.int .u32 (yt : Int), .int .u8 (yr : Int), .int .i64 ym], .slice (some ⟨b, off, none⟩) 0 0]) (by simp [results, Tryz.results88, go_sem]) rfl ⟨_, rfl, fun W hW => ?_, BW.out⟩
        have h := RT.out W hW
        simp only [if_true] at h
        exact h
      · have hc' : (1 : Int) < (cap : Int) := by omega
        have RT2 : Hid (∀ W : World, Runs W (.slice (some ⟨b, off, none⟩) n cap) (⟨yt, yr, ym, hyt, hyr, hym⟩ :: q) → Runs W (.slice (some ⟨b, off + 3, none⟩) (n - 1) (cap - 1)) q) := fun W hW => by
          have := RT.out W hW
          rwa [if_neg hc] at this
        clear RT
        go_enter Tryz.func88, Tryz.ntmps88
        go_wp2
        go_region
        go_wp2
        refine bodyPost_ret (v := .tuple #[.agg #[.int .u32 (yt : Int), .int .u8 (yr : Int), .int .i64 ym], .slice (some ⟨b, off + 3, none⟩) (n - 1) (cap - 1)]) (by simp [results, Tryz.results88, go_sem]) rfl ⟨_, rfl, RT2.out, BW.out⟩
end Go.Proofs.YtmiepnnpccpicaaGreat.Place
