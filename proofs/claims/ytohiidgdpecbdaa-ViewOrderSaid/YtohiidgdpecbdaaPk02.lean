/- octavo/stamp: underWay, above, told, Check, Less: what each answers. Conditions: the numbers fit their kinds. -/
import Derived.WalkKit
import Derived.WalkSpells
import Derived.WalkLawsBesides
import Derived.RegionTactic
import Derived.Deep.RegionHeld3
import Derived.IntWalk
import Derived.Test.YtohiidgdpecbdaaPk01

namespace Go.Proofs.Ytohiidgdpecbdaa.Stamp
open Go.RowKit Flo

theorem underWay_any (t r : Nat) (w : World) :
    Calls Try.prog 54 #[.agg #[.int .u32 (t : Int), .int .u8 (r : Int)]] w fun e w' => e = .returned (.complex .f64 (fl t) (fl r)) ∧ Below w.heap.size w w' := by
  have f1 : floatOfInt .f64 (t : Int) = fl t := ofInt_fl t
  have f2 : floatOfInt .f64 (r : Int) = fl r := ofInt_fl r
  go_enter Try.func54, Try.ntmps54
  go_wp2
  go_ret
  exact ⟨rfl, (Below.refl _ _).alloc (Nat.le_refl _) _⟩



theorem check_any (t r : Nat) (w : World) :
    Calls Try.prog 57 #[.agg #[.int .u32 (t : Int), .int .u8 (r : Int)]] w fun e w' => e = .returned (.int .i64 (chk t r)) ∧ Below w.heap.size w w' := by
  have q : (decide ((t : Int) < 1) = true ∧ chk t r = 8) ∨ (decide ((t : Int) < 1) = false ∧ decide ((1073741824 : Int) < (t : Int)) = true ∧ chk t r = 8) ∨
      (decide ((t : Int) < 1) = false ∧ decide ((1073741824 : Int) < (t : Int)) = false ∧ decide ((8 : Int) ≤ (r : Int)) = true ∧ chk t r = 8) ∨
      (decide ((t : Int) < 1) = false ∧ decide ((1073741824 : Int) < (t : Int)) = false ∧ decide ((8 : Int) ≤ (r : Int)) = false ∧ chk t r = 0) := by
    unfold chk
    by_cases h1 : t < 1
    · exact .inl ⟨decide_eq_true (by omega), if_neg (by rw [may_iff]; omega)⟩
    · by_cases h2 : 1073741824 < t
      · exact .inr (.inl ⟨decide_eq_false (by omega), decide_eq_true (by omega), if_neg (by rw [may_iff]; omega)⟩)
      · by_cases h3 : 8 ≤ r
        · exact .inr (.inr (.inl ⟨decide_eq_false (by omega), decide_eq_false (by omega), decide_eq_true (by omega), if_neg (by rw [may_iff]; omega)⟩))
        · exact .inr (.inr (.inr ⟨decide_eq_false (by omega), decide_eq_false (by omega), decide_eq_false (by omega), if_pos (by rw [may_iff]; omega)⟩))
  rcases q with ⟨q1, h⟩ | ⟨q1, q2, h⟩ | ⟨q1, q2, q3, h⟩ | ⟨q1, q2, q3, h⟩
  all_goals
    rw [h]
    clear h
    go_enter Try.func57, Try.ntmps57
    go_wp2
    go_ret
    exact ⟨rfl, (Below.refl _ _).alloc (Nat.le_refl _) _⟩

theorem check_yes (t r : Nat) (h : may t r = true) (w : World) : Calls Try.prog 57 #[.agg #[.int .u32 (t : Int), .int .u8 (r : Int)]] w fun e w' => e = .returned (.int .i64 0) ∧ Below w.heap.size w w' := by
  have := check_any t r w
  rwa [chk, if_pos h] at this
theorem check_no (t r : Nat) (h : may t r = false) (w : World) : Calls Try.prog 57 #[.agg #[.int .u32 (t : Int), .int .u8 (r : Int)]] w fun e w' => e = .returned (.int .i64 8) ∧ Below w.heap.size w w' := by
  have := check_any t r w
  rwa [chk, if_neg (by rw [h]; simp)] at this

theorem keepS {H : Nat} {w w1 w2 : World} {c0 c1 c2 c3 : Value} (h : Below w1.heap.size w1 w2) (hb : Below H w w1) (hs : H + 2 ≤ w1.heap.size) (h0 : w1.cell? ⟨H, 0, none⟩ = some c0) (h1 : w1.cell? ⟨H, 1, none⟩ = some c1)
    (h2 : w1.cell? ⟨H + 1, 0, none⟩ = some c2) (h3 : w1.cell? ⟨H + 1, 1, none⟩ = some c3) :
    Below H w w2 ∧ H + 2 ≤ w2.heap.size ∧ w2.cell? ⟨H, 0, none⟩ = some c0 ∧ w2.cell? ⟨H, 1, none⟩ = some c1 ∧ w2.cell? ⟨H + 1, 0, none⟩ = some c2 ∧ w2.cell? ⟨H + 1, 1, none⟩ = some c3 :=
  ⟨hb.trans (h.mono (by omega)), Nat.le_trans hs h.size, (h.cell (p := ⟨H, 0, none⟩) (by show H < _; omega)).trans h0, (h.cell (p := ⟨H, 1, none⟩) (by show H < _; omega)).trans h1, (h.cell (p := ⟨H + 1, 0, none⟩) (by show H + 1 < _; omega)).trans h2, (h.cell (p := ⟨H + 1, 1, none⟩) (by show H + 1 < _; omega)).trans h3⟩
theorem keepSd {H : Nat} {w w1 : World} {c0 c1 c2 c3 : Value} (hb : Below H w w1) (hs : H + 2 ≤ w1.heap.size) (h0 : w1.cell? ⟨H, 0, none⟩ = some c0) (h1 : w1.cell? ⟨H, 1, none⟩ = some c1)
    (h2 : w1.cell? ⟨H + 1, 0, none⟩ = some c2) (h3 : w1.cell? ⟨H + 1, 1, none⟩ = some c3) :
    Below H w w1.drew ∧ H + 2 ≤ w1.drew.heap.size ∧ w1.drew.cell? ⟨H, 0, none⟩ = some c0 ∧ w1.drew.cell? ⟨H, 1, none⟩ = some c1 ∧ w1.drew.cell? ⟨H + 1, 0, none⟩ = some c2 ∧ w1.drew.cell? ⟨H + 1, 1, none⟩ = some c3 :=
  ⟨hb.drew, hs, h0, h1, h2, h3⟩
theorem keepS0 (w : World) (c0 c1 c2 c3 : Value) (e : TypeId) :
    Below w.heap.size w ((w.alloc (.cells #[c0, c1] e)).alloc (.cells #[c2, c3] e)) ∧ w.heap.size + 2 ≤ ((w.alloc (.cells #[c0, c1] e)).alloc (.cells #[c2, c3] e)).heap.size ∧ ((w.alloc (.cells #[c0, c1] e)).alloc (.cells #[c2, c3] e)).cell? ⟨w.heap.size, 0, none⟩ = some c0 ∧ ((w.alloc (.cells #[c0, c1] e)).alloc (.cells #[c2, c3] e)).cell? ⟨w.heap.size, 1, none⟩ = some c1 ∧ ((w.alloc (.cells #[c0, c1] e)).alloc (.cells #[c2, c3] e)).cell? ⟨w.heap.size + 1, 0, none⟩ = some c2 ∧ ((w.alloc (.cells #[c0, c1] e)).alloc (.cells #[c2, c3] e)).cell? ⟨w.heap.size + 1, 1, none⟩ = some c3 := by
  have hb : Below (w.alloc (.cells #[c0, c1] e)).heap.size (w.alloc (.cells #[c0, c1] e)) ((w.alloc (.cells #[c0, c1] e)).alloc (.cells #[c2, c3] e)) := (Below.refl _ _).alloc (Nat.le_refl _) _
  refine ⟨((Below.refl _ _).alloc (Nat.le_refl _) _).alloc (by simp) _, by simp, ?_, ?_, ?_, ?_⟩
  · exact (hb.cell (p := ⟨w.heap.size, 0, none⟩) (by simp)).trans (cell_of_row _ w.heap.size 0 #[c0, c1] e _ (heap_alloc_new w _))
  · exact (hb.cell (p := ⟨w.heap.size, 1, none⟩) (by simp)).trans (cell_of_row _ w.heap.size 1 #[c0, c1] e _ (heap_alloc_new w _))
  · simp
  · simp

set_option maxHeartbeats 1000000 in
theorem less_any (t r u s : Nat) (ht : t < 4294967296) (hr : r < 256) (hu : u < 4294967296) (hs : s < 256) (w : World) :
    Calls Try.prog 32 #[.agg #[.int .u32 (t : Int), .int .u8 (r : Int)], .agg #[.int .u32 (u : Int), .int .u8 (s : Int)]] w fun e w' => e = .returned (.bool (less t r u s)) ∧ Below w.heap.size w w' := by
  have g1 := eq_fl t u (by omega) (by omega)
  have g2 := lt_fl r s (by omega) (by omega)
  have g3 := lt_fl t u (by omega) (by omega)
  obtain ⟨q, hq⟩ : ∃ q, q = less t r u s := ⟨_, rfl⟩
  have hl : (decide (t = u) = true ∧ decide (r < s) = q) ∨ (decide (t = u) = false ∧ decide (t < u) = q) := by
    rw [hq]
    by_cases h : t = u
    · left; refine ⟨decide_eq_true h, ?_⟩; unfold less; congr 1; simp; omega
    · right; refine ⟨decide_eq_false h, ?_⟩; unfold less; congr 1; simp; omega
  rw [← hq]
  clear hq
  have S0 := keepS0 w (.int .u32 (t : Int)) (.int .u8 (r : Int)) (.int .u32 (u : Int)) (.int .u8 (s : Int)) 29
  have HS0 := Lib.hid S0
  clear S0
  rcases hl with ⟨k1, k2⟩ | ⟨k1, k2⟩
  · rw [k1] at g1
    rw [k2] at g2
    clear k1 k2 g3 ht hr hu hs
    have G1 := Lib.hid g1
    have G2 := Lib.hid g2
    clear g1 g2
    go_enter Try.func32, Try.ntmps32
    go_wp2
    go_region_held3 (fun w' => Below w.heap.size w w' ∧ w.heap.size + 2 ≤ w'.heap.size ∧ w'.cell? ⟨w.heap.size, 0, none⟩ = some (.int .u32 (t : Int)) ∧ w'.cell? ⟨w.heap.size, 1, none⟩ = some (.int .u8 (r : Int)) ∧ w'.cell? ⟨w.heap.size + 1, 0, none⟩ = some (.int .u32 (u : Int)) ∧ w'.cell? ⟨w.heap.size + 1, 1, none⟩ = some (.int .u8 (s : Int)))
      (first | exact keepSd HS0.out.1 HS0.out.2.1 HS0.out.2.2.1 HS0.out.2.2.2.1 HS0.out.2.2.2.2.1 HS0.out.2.2.2.2.2 | (go_split_ands; refine keepSd ?_ ?_ ?_ ?_ ?_ ?_ <;> assumption) | (go_split_ands; exact keepS (by assumption) (by assumption) (by assumption) (by assumption) (by assumption) (by assumption) (by assumption)))
      ((first | (go_at_call 54; refine (underWay_any _ _ _).mono ?_; rintro e w2 ⟨rfl, b2⟩)))
    have g1 := G1.out
    have g2 := G2.out
    go_wp2
    go_ret
    go_split_ands
    exact ⟨rfl, by assumption⟩
  · rw [k1] at g1
    rw [k2] at g3
    clear k1 k2 g2 ht hr hu hs
    have G1 := Lib.hid g1
    have G2 := Lib.hid g3
    clear g1 g3
    go_enter Try.func32, Try.ntmps32
    go_wp2
    go_region_held3 (fun w' => Below w.heap.size w w' ∧ w.heap.size + 2 ≤ w'.heap.size ∧ w'.cell? ⟨w.heap.size, 0, none⟩ = some (.int .u32 (t : Int)) ∧ w'.cell? ⟨w.heap.size, 1, none⟩ = some (.int .u8 (r : Int)) ∧ w'.cell? ⟨w.heap.size + 1, 0, none⟩ = some (.int .u32 (u : Int)) ∧ w'.cell? ⟨w.heap.size + 1, 1, none⟩ = some (.int .u8 (s : Int)))
      (first | exact keepSd HS0.out.1 HS0.out.2.1 HS0.out.2.2.1 HS0.out.2.2.2.1 HS0.out.2.2.2.2.1 HS0.out.2.2.2.2.2 | (go_split_ands; refine keepSd ?_ ?_ ?_ ?_ ?_ ?_ <;> assumption) | (go_split_ands; exact keepS (by assumption) (by assumption) (by assumption) (by assumption) (by assumption) (by assumption) (by assumption)))
      ((first | (go_at_call 54; refine (underWay_any _ _ _).mono ?_; rintro e w2 ⟨rfl, b2⟩)))
    have g1 := G1.out
    have g2 := G2.out
    go_wp2
    go_ret
    go_split_ands
    exact ⟨rfl, by assumption⟩
end Go.Proofs.Ytohiidgdpecbdaa.Stamp

/- octavo/stamp.Next: what it answers. Conditions: the slice's cells are stamps. -/
namespace Go.Proofs.Ytohiidgdpecbdaa.Stamp
open Go.RowKit Flo

/-- A block of two cells, behind calls that write nothing that was there. -/
theorem two_cells {w w2 : World} {c0 c1 : Value} {e : TypeId} (h : Below (w.alloc (.cells #[c0, c1] e)).heap.size (w.alloc (.cells #[c0, c1] e)) w2) :
    w2.cell? ⟨w.heap.size, 0, none⟩ = some c0 ∧ w2.cell? ⟨w.heap.size, 1, none⟩ = some c1 ∧ w2.frozen? ⟨w.heap.size, 0, none⟩ = false ∧ w2.frozen? ⟨w.heap.size, 1, none⟩ = false := by
  have hh : w2.heap[w.heap.size]? = some (.cells #[c0, c1] e (0, 0)) := (h.block w.heap.size (by simp)).trans (heap_alloc_new w _)
  refine ⟨cell_of_row _ w.heap.size 0 #[c0, c1] e _ hh, cell_of_row _ w.heap.size 1 #[c0, c1] e _ hh, ?_, ?_⟩
  · simp [World.frozen?, hh]
  · simp [World.frozen?, hh]

theorem below_of3 {w w3 : World} {o : Obj} (h : Below (w.alloc o).heap.size (w.alloc o) w3) : Below w.heap.size w w3 :=
  ((Below.refl _ _).alloc (Nat.le_refl _) o).trans (h.mono (by simp))

theorem set2 {w w3 : World} {o : Obj} {c0 c1 : Value} (h : Below (w.alloc o).heap.size (w.alloc o) w3) : Below w.heap.size w ((w3.setCell ⟨w.heap.size, 0, none⟩ c0).setCell ⟨w.heap.size, 1, none⟩ c1) :=
  ((below_of3 h).setCell (p := ⟨w.heap.size, 0, none⟩) (Nat.le_refl _) _).setCell (p := ⟨w.heap.size, 1, none⟩) (Nat.le_refl _) _

end Go.Proofs.Ytohiidgdpecbdaa.Stamp

/- octavo/place: firstOf, lastOf, goesOn, follows, runMayBe, Twin, Same: what each answers. Conditions: the slices' cells are runs; the numbers fit. -/
namespace Go.Proofs.Ytohiidgdpecbdaa.Place
open Go.RowKit Stamp
attribute [local go_sem ↓] Go.wp_at_zero Go.wp_at_succ

theorem firstOf_any (t r : Nat) (m : Int) (w : World) :
    Calls Try.prog 33 #[.agg #[.int .u32 (t : Int), .int .u8 (r : Int), .int .i64 m]] w fun e w' => e = .returned (.agg #[.int .u32 (t : Int), .int .u8 (r : Int)]) ∧ Below w.heap.size w w' := by
  go_enter Try.func33, Try.ntmps33
  go_wp2
  refine bodyPost_ret (v := .agg #[.int .u32 (t : Int), .int .u8 (r : Int)]) (by simp [results, Try.results33, go_sem]) rfl ⟨rfl, ?_⟩
  exact ((Below.refl _ _).alloc (Nat.le_refl _) _).alloc (by simp) _

theorem lastOf_any (t r : Nat) (m : Int) (z : Nat) (hz : (z : Int) = (t : Int) + (m - 1)) (hm : 1 ≤ m ∧ m ≤ 4096) (hb : t ≤ 1073741824) (w : World) :
    Calls Try.prog 34 #[.agg #[.int .u32 (t : Int), .int .u8 (r : Int), .int .i64 m]] w fun e w' => e = .returned (.agg #[.int .u32 (z : Int), .int .u8 (r : Int)]) ∧ Below w.heap.size w w' := by
  obtain ⟨o1, o2⟩ := hm
  have e3 : IntKind.u32.wrap (m - 1) = m - 1 := by rw [IntKind.wrap_u32]; omega
  have e4 : IntKind.u32.wrap ((t : Int) + (m - 1)) = (t : Int) + (m - 1) := by rw [IntKind.wrap_u32]; omega
  have e5 : IntKind.i64.wrap (m - 1) = m - 1 := IntWalk.i64_in _ (by omega)
  rw [hz]
  clear hz
  go_enter Try.func34, Try.ntmps34
  go_wp2
  refine bodyPost_ret (v := .agg #[.int .u32 ((t : Int) + (m - 1)), .int .u8 (r : Int)]) (by simp [results, Try.results34, go_sem]) rfl ⟨rfl, ?_⟩
  exact ((Below.refl _ _).alloc (Nat.le_refl _) _).alloc (by simp) _

/-- Does a stamp go on a run of last time z? -/
def goes (z r u s : Nat) : Bool := decide (u = z + 1 ∧ s = r)
set_option maxHeartbeats 1000000 in
theorem goesOn_any (t r : Nat) (m : Int) (z u s : Nat) (hz : (z : Int) = (t : Int) + (m - 1)) (hm : 1 ≤ m ∧ m ≤ 4096) (hb : t ≤ 1073741824) (w : World) :
    Calls Try.prog 58 #[.agg #[.int .u32 (t : Int), .int .u8 (r : Int), .int .i64 m], .agg #[.int .u32 (u : Int), .int .u8 (s : Int)]] w fun e w' => e = .returned (.bool (goes z r u s)) ∧ Below w.heap.size w w' := by
  have L := Lib.hid (fun W => lastOf_any t r m z hz hm hb W)
  have hz2 : (z : Int) + 1 ≤ 1073745920 := by omega
  have hw : IntKind.u32.wrap ((z : Int) + 1) = (z : Int) + 1 := by rw [IntKind.wrap_u32]; omega
  obtain ⟨q, hq⟩ : ∃ q, goes z r u s = q := ⟨_, rfl⟩
  have hc : ((u : Int) = (z : Int) + 1 ∧ s = r ∧ q = true) ∨ (¬ (u : Int) = (z : Int) + 1 ∧ q = false) ∨ ((u : Int) = (z : Int) + 1 ∧ ¬ s = r ∧ q = false) := by
    unfold goes at hq
    by_cases h1 : u = z + 1
    · by_cases h2 : s = r
      · exact .inl ⟨by omega, h2, by rw [← hq]; exact decide_eq_true ⟨h1, h2⟩⟩
      · exact .inr (.inr ⟨by omega, h2, by rw [← hq]; exact decide_eq_false (by omega)⟩)
    · exact .inr (.inl ⟨by omega, by rw [← hq]; exact decide_eq_false (by omega)⟩)
  have P1 : Hid (Pair ((w.alloc (.cells #[.int .u32 (t : Int), .int .u8 (r : Int), .int .i64 m] 31)).alloc (.cells #[.int .u32 (u : Int), .int .u8 (s : Int)] 29)) (w.heap.size + 1) (.int .u32 (u : Int)) (.int .u8 (s : Int))) := by
    have := pair_new (w.alloc (.cells #[.int .u32 (t : Int), .int .u8 (r : Int), .int .i64 m] 31)) (.int .u32 (u : Int)) (.int .u8 (s : Int)) 29
    unfold Hid
    simpa using this
  have B0 : Hid (Below w.heap.size w ((w.alloc (.cells #[.int .u32 (t : Int), .int .u8 (r : Int), .int .i64 m] 31)).alloc (.cells #[.int .u32 (u : Int), .int .u8 (s : Int)] 29))) := ((Below.refl _ _).alloc (Nat.le_refl _) _).alloc (by simp) _
  rw [hq]
  clear hq hz hm hb
  go_enter Try.func58, Try.ntmps58
  go_wp2_with fail
  refine (L.out _).mono ?_
  rintro e w1 ⟨rfl, b1⟩
  have PP := Lib.hid (P1.out.keeps b1)
  have B1 := Lib.hid (bt B0.out b1)
  clear b1 B0 P1
  obtain ⟨g0, g1, g2⟩ := PP.out
  have hne : ¬ w.heap.size + 1 = w1.heap.size := by omega
  rcases hc with ⟨h1, rfl, rfl⟩ | ⟨h1, rfl⟩ | ⟨h1, h2, rfl⟩
  · rw [h1] at g1
    go_wp2
    go_ret
    exact ⟨rfl, B1.out.alloc B1.out.size _⟩
  · go_wp2
    go_ret
    exact ⟨rfl, B1.out.alloc B1.out.size _⟩
  · rw [h1] at g1
    go_wp2
    go_ret
    exact ⟨rfl, B1.out.alloc B1.out.size _⟩

theorem keepT2 {wl w1 w2 : World} {h1 h2 : Nat} {c0 c1 c2 d0 d1 d2 : Value} (p1 : Tri wl h1 c0 c1 c2) (p2 : Tri wl h2 d0 d1 d2) (h : Below w1.heap.size w1 w2) (hb : Below wl.heap.size wl w1) :
    Below wl.heap.size wl w2 ∧ w2.cell? ⟨h1, 0, none⟩ = some c0 ∧ w2.cell? ⟨h1, 1, none⟩ = some c1 ∧ w2.cell? ⟨h1, 2, none⟩ = some c2 ∧ w2.cell? ⟨h2, 0, none⟩ = some d0 ∧ w2.cell? ⟨h2, 1, none⟩ = some d1 ∧ w2.cell? ⟨h2, 2, none⟩ = some d2 :=
  have b := bt hb h
  ⟨b, (p1.keeps b).2.1, (p1.keeps b).2.2.1, (p1.keeps b).2.2.2, (p2.keeps b).2.1, (p2.keeps b).2.2.1, (p2.keeps b).2.2.2⟩

theorem field_t (a b : Value) (W : World) : (Instr.field 29 (.agg #[a, b]) 0).run Try.prog W = .ok a W := by kernel_rfl
/-- May a run of time t by r stand behind one whose last time is z, by r0? -/
def nextB (z r0 t r : Nat) : Bool := decide (z < t ∧ (r = r0 → z + 1 < t))
set_option maxRecDepth 100000 in
set_option maxHeartbeats 1000000 in
theorem follows_any (t r : Nat) (m : Int) (t0 r0 : Nat) (m0 : Int) (z : Nat) (hz : (z : Int) = (t0 : Int) + (m0 - 1)) (hm : 1 ≤ m0 ∧ m0 ≤ 4096) (hb : t0 ≤ 1073741824) (w : World) :
    Calls Try.prog 40 #[.agg #[.int .u32 (t : Int), .int .u8 (r : Int), .int .i64 m], .agg #[.int .u32 (t0 : Int), .int .u8 (r0 : Int), .int .i64 m0]] w fun e w' => e = .returned (.bool (nextB z r0 t r)) ∧ Below w.heap.size w w' := by
  have LO := Lib.hid (fun W => lastOf_any t0 r0 m0 z hz hm hb W)
  have FO := Lib.hid (fun W => firstOf_any t r m W)
  have GO := Lib.hid (fun W => goesOn_any t0 r0 m0 z t r hz hm hb W)
  obtain ⟨g, hg⟩ : ∃ g, goes z r0 t r = g := ⟨_, rfl⟩
  rw [hg] at GO
  obtain ⟨q, hq⟩ : ∃ q, nextB z r0 t r = q := ⟨_, rfl⟩
  have hc : (z < t ∧ q = !g) ∨ (¬ z < t ∧ q = false) := by
    unfold goes at hg
    unfold nextB at hq
    by_cases h1 : z < t
    · refine .inl ⟨h1, ?_⟩
      by_cases h2 : t = z + 1 ∧ r = r0
      · rw [decide_eq_true h2] at hg
        rw [decide_eq_false (by omega)] at hq
        rw [← hg, ← hq]; rfl
      · rw [decide_eq_false h2] at hg
        rw [decide_eq_true (by omega)] at hq
        rw [← hg, ← hq]; rfl
    · exact .inr ⟨h1, by rw [← hq]; exact decide_eq_false (by omega)⟩
  have hf0 : ∀ W : World, (Instr.field 29 (.agg #[.int .u32 (z : Int), .int .u8 (r0 : Int)]) 0).run Try.prog W = .ok (.int .u32 (z : Int)) W := fun W => field_t _ _ W
  obtain ⟨wl, hwl⟩ : ∃ wl, wl = (w.alloc (.cells #[.int .u32 (t : Int), .int .u8 (r : Int), .int .i64 m] 31)).alloc (.cells #[.int .u32 (t0 : Int), .int .u8 (r0 : Int), .int .i64 m0] 31) := ⟨_, rfl⟩
  have PA : Hid (Tri wl w.heap.size (.int .u32 (t : Int)) (.int .u8 (r : Int)) (.int .i64 m)) := by
    rw [hwl]
    exact (tri_new w (.int .u32 (t : Int)) (.int .u8 (r : Int)) (.int .i64 m) 31).keeps ((Below.refl _ _).alloc (Nat.le_refl _) _)
  have PB : Hid (Tri wl (w.heap.size + 1) (.int .u32 (t0 : Int)) (.int .u8 (r0 : Int)) (.int .i64 m0)) := by
    have := tri_new (w.alloc (.cells #[.int .u32 (t : Int), .int .u8 (r : Int), .int .i64 m] 31)) (.int .u32 (t0 : Int)) (.int .u8 (r0 : Int)) (.int .i64 m0) 31
    rw [hwl]
    unfold Hid
    simpa using this
  have B0 : Hid (Below w.heap.size w wl) := by rw [hwl]; exact ((Below.refl _ _).alloc (Nat.le_refl _) _).alloc (by simp) _
  rw [hq]
  clear hg hq hz hm hb
  rcases hc with ⟨h1, rfl⟩ | ⟨h1, rfl⟩
  · have t1 : decide ((z : Int) < (t : Int)) = true := decide_eq_true (by omega)
    have t2 : decide (z < t) = true := decide_eq_true h1
    go_enter Try.func40, Try.ntmps40
    go_wp2
    rw [← hwl]
    clear hwl
    go_region_held3 (fun w' => Below wl.heap.size wl w' ∧ w'.cell? ⟨w.heap.size, 0, none⟩ = some (.int .u32 (t : Int)) ∧ w'.cell? ⟨w.heap.size, 1, none⟩ = some (.int .u8 (r : Int)) ∧ w'.cell? ⟨w.heap.size, 2, none⟩ = some (.int .i64 m) ∧ w'.cell? ⟨w.heap.size + 1, 0, none⟩ = some (.int .u32 (t0 : Int)) ∧ w'.cell? ⟨w.heap.size + 1, 1, none⟩ = some (.int .u8 (r0 : Int)) ∧ w'.cell? ⟨w.heap.size + 1, 2, none⟩ = some (.int .i64 m0))
      (first | exact keepT2 PA.out PB.out (drew1 _) (Below.refl _ _) | (go_split_ands; exact keepT2 PA.out PB.out (drew1 _) (by assumption)) | (go_split_ands; exact keepT2 PA.out PB.out (by assumption) (by assumption)))
      ((first | (go_at_call 34; (with_reducible refine (LO.out _).mono ?_); rintro e w4 ⟨rfl, b4⟩) | (go_at_call 33; (with_reducible refine (FO.out _).mono ?_); rintro e w5 ⟨rfl, b5⟩) | (go_at_call 58; (with_reducible refine (GO.out _).mono ?_); rintro e w6 ⟨rfl, b6⟩)))
    all_goals
      go_wp2
      go_ret
      go_split_ands
      exact ⟨rfl, B0.out.trans (Below.mono (by assumption) B0.out.size)⟩
  · have t1 : decide ((z : Int) < (t : Int)) = false := decide_eq_false (by omega)
    have t2 : decide (z < t) = false := decide_eq_false h1
    go_enter Try.func40, Try.ntmps40
    go_wp2
    rw [← hwl]
    clear hwl
    refine wp_region_held_drew (S := fun w' => Below wl.heap.size wl w' ∧ w'.cell? ⟨w.heap.size, 0, none⟩ = some (.int .u32 (t : Int)) ∧ w'.cell? ⟨w.heap.size, 1, none⟩ = some (.int .u8 (r : Int)) ∧ w'.cell? ⟨w.heap.size, 2, none⟩ = some (.int .i64 m) ∧ w'.cell? ⟨w.heap.size + 1, 0, none⟩ = some (.int .u32 (t0 : Int)) ∧ w'.cell? ⟨w.heap.size + 1, 1, none⟩ = some (.int .u8 (r0 : Int)) ∧ w'.cell? ⟨w.heap.size + 1, 2, none⟩ = some (.int .i64 m0)) (by kernel_rfl) (keepT2 PA.out PB.out (drew1 _) (Below.refl _ _)) (fun hHeld => ?_)
    refine wpAnyH_take (i := 0) (v := ?va0) rfl (by kernel_rfl) (by kernel_rfl) (by kernel_rfl) (fun _ _ _ h => h) (Or.inl ⟨by rfl, ?ya0⟩) (by assumption) ?_
    case ya0 => intro w hSw; (try dsimp only at hSw); go_simp <;> with_reducible rfl
    try simp only [List.getElem_toArray, List.getElem_cons_zero, Act.put, List.setIfInBounds_toArray, List.set_cons_zero, List.set_cons_succ]
    refine wpAnyH_take (i := 1) (v := ?va1) rfl (by kernel_rfl) (by kernel_rfl) (by kernel_rfl) (fun _ _ _ h => h) (Or.inl ⟨by rfl, ?ya1⟩) (by assumption) ?_
    case ya1 => intro w hSw; (try dsimp only at hSw); go_simp <;> with_reducible rfl
    try simp only [List.getElem_toArray, List.getElem_cons_succ, List.getElem_cons_zero, Act.put, List.setIfInBounds_toArray, List.set_cons_zero, List.set_cons_succ]
    refine wpAnyH_take (i := 2) (v := ?va2) rfl (by kernel_rfl) (by kernel_rfl) (by kernel_rfl) (fun _ _ _ h => h) (Or.inl ⟨by rfl, ?ya2⟩) (by assumption) ?_
    case ya2 => intro w hSw; (try dsimp only at hSw); go_simp <;> with_reducible rfl
    try simp only [List.getElem_toArray, List.getElem_cons_succ, List.getElem_cons_zero, Act.put, List.setIfInBounds_toArray, List.set_cons_zero, List.set_cons_succ]
    refine wpAnyH_ready (rs := [3]) (by kernel_rfl) (by simp) ?_
    refine AllReadyH.cons rfl (fun K hK => ?_) ?za3
    case za3 => exact AllReadyH.nil
    go_simp
    refine (LO.out _).mono ?_
    rintro e w9 ⟨rfl, b9⟩
    refine hK.out _ _ (keepT2 PA.out PB.out b9 hHeld.1) (fun hNew => ?_)
    clear hHeld b9
    have hHeld := hNew
    clear hNew hK K
    try simp only [List.getElem_toArray, List.getElem_cons_succ, List.getElem_cons_zero, Act.put, List.setIfInBounds_toArray, List.set_cons_zero, List.set_cons_succ]
    refine wpAnyH_take (i := 4) (v := ?va4) rfl (by kernel_rfl) (by kernel_rfl) (by kernel_rfl) (fun _ _ _ h => h) (Or.inl ⟨by rfl, ?ya4⟩) (by assumption) ?_
    case ya4 => intro w hSw; (try dsimp only at hSw); go_simp <;> with_reducible rfl
    try simp only [List.getElem_toArray, List.getElem_cons_succ, List.getElem_cons_zero, Act.put, List.setIfInBounds_toArray, List.set_cons_zero, List.set_cons_succ]
    refine wpAnyH_take (i := 5) (v := ?va5) rfl (by kernel_rfl) (by kernel_rfl) (by kernel_rfl) (fun _ _ _ h => h) (Or.inl ⟨by rfl, ?ya5⟩) (by assumption) ?_
    case ya5 => intro w hSw; (try dsimp only at hSw); go_simp <;> with_reducible rfl
    try simp only [List.getElem_toArray, List.getElem_cons_succ, List.getElem_cons_zero, Act.put, List.setIfInBounds_toArray, List.set_cons_zero, List.set_cons_succ]
    refine wpAnyH_take (i := 6) (v := ?va6) rfl (by kernel_rfl) (by kernel_rfl) (by kernel_rfl) (fun _ _ _ h => h) (Or.inl ⟨by rfl, ?ya6⟩) (by assumption) ?_
    case ya6 => intro w hSw; (try dsimp only at hSw); go_simp <;> with_reducible rfl
    try simp only [List.getElem_toArray, List.getElem_cons_succ, List.getElem_cons_zero, Act.put, List.setIfInBounds_toArray, List.set_cons_zero, List.set_cons_succ]
    refine wpAnyH_take (i := 7) (v := undef) rfl (by kernel_rfl) (by kernel_rfl) (by kernel_rfl) (fun _ _ _ h => h) (Or.inr ⟨by rfl, rfl⟩) (by assumption) ?_
    try simp only [List.getElem_toArray, List.getElem_cons_succ, List.getElem_cons_zero, Act.put, List.setIfInBounds_toArray, List.set_cons_zero, List.set_cons_succ]
    refine wpAnyH_take (i := 8) (v := undef) rfl (by kernel_rfl) (by kernel_rfl) (by kernel_rfl) (fun _ _ _ h => h) (Or.inr ⟨by rfl, rfl⟩) (by assumption) ?_
    try simp only [List.getElem_toArray, List.getElem_cons_succ, List.getElem_cons_zero, Act.put, List.setIfInBounds_toArray, List.set_cons_zero, List.set_cons_succ]
    refine wpAnyH_take (i := 9) (v := undef) rfl (by kernel_rfl) (by kernel_rfl) (by kernel_rfl) (fun _ _ _ h => h) (Or.inr ⟨by rfl, rfl⟩) (by assumption) ?_
    try simp only [List.getElem_toArray, List.getElem_cons_succ, List.getElem_cons_zero, Act.put, List.setIfInBounds_toArray, List.set_cons_zero, List.set_cons_succ]
    refine wpAnyH_take (i := 10) (v := undef) rfl (by kernel_rfl) (by kernel_rfl) (by kernel_rfl) (fun _ _ _ h => h) (Or.inr ⟨by rfl, rfl⟩) (by assumption) ?_
    try simp only [List.getElem_toArray, List.getElem_cons_succ, List.getElem_cons_zero, Act.put, List.setIfInBounds_toArray, List.set_cons_zero, List.set_cons_succ]
    refine wpAnyH_take (i := 11) (v := undef) rfl (by kernel_rfl) (by kernel_rfl) (by kernel_rfl) (fun _ _ _ h => h) (Or.inr ⟨by rfl, rfl⟩) (by assumption) ?_
    try simp only [List.getElem_toArray, List.getElem_cons_succ, List.getElem_cons_zero, Act.put, List.setIfInBounds_toArray, List.set_cons_zero, List.set_cons_succ]
    refine wpAnyH_take (i := 12) (v := ?va12) rfl (by kernel_rfl) (by kernel_rfl) (by kernel_rfl) (fun _ _ _ h => h) (Or.inl ⟨by rfl, ?ya12⟩) (by assumption) ?_
    case ya12 => intro w hSw; (try dsimp only at hSw); go_simp <;> with_reducible rfl
    try simp only [List.getElem_toArray, List.getElem_cons_succ, List.getElem_cons_zero, Act.put, List.setIfInBounds_toArray, List.set_cons_zero, List.set_cons_succ]
    refine wpAnyH_take (i := 13) (v := ?va13) rfl (by kernel_rfl) (by kernel_rfl) (by kernel_rfl) (fun _ _ _ h => h) (Or.inl ⟨by rfl, ?ya13⟩) (by assumption) ?_
    case ya13 => intro w hSw; (try dsimp only at hSw); go_simp <;> with_reducible rfl
    try simp only [List.getElem_toArray, List.getElem_cons_succ, List.getElem_cons_zero, Act.put, List.setIfInBounds_toArray, List.set_cons_zero, List.set_cons_succ]
    refine wpAnyH_done (by kernel_rfl) ?_ _
    go_wp2
    go_ret
    exact ⟨rfl, B0.out.trans (hHeld.1.mono B0.out.size)⟩
end Go.Proofs.Ytohiidgdpecbdaa.Place

/- octavo/place: runMayBe, Twin, slices.Equal, Same: what each answers. Conditions: the slices' cells are runs. -/
namespace Go.Proofs.Ytohiidgdpecbdaa.Place
open Go.RowKit Stamp
attribute [local go_sem ↓] Go.wp_at_zero Go.wp_at_succ

set_option maxHeartbeats 1000000 in
theorem runMayBe_any (t r : Nat) (m : Int) (w : World) :
    Calls Try.prog 39 #[.agg #[.int .u32 (t : Int), .int .u8 (r : Int), .int .i64 m]] w fun e w' => e = .returned (.bool (oneB t r m)) ∧ Below w.heap.size w w' := by
  have q : (decide (m < 1) = true ∧ oneB t r m = false) ∨ (decide (m < 1) = false ∧ decide (4096 < m) = true ∧ oneB t r m = false) ∨
      (decide (m < 1) = false ∧ decide (4096 < m) = false ∧ may t r = false ∧ oneB t r m = false) ∨
      (decide (m < 1) = false ∧ decide (4096 < m) = false ∧ may t r = true ∧ (1 ≤ m ∧ m ≤ 4096) ∧ t ≤ 1073741824 ∧ ∃ z : Nat, (z : Int) = (t : Int) + (m - 1) ∧ oneB t r m = may z r) := by
    unfold oneB
    by_cases h1 : m < 1
    · exact .inl ⟨decide_eq_true h1, decide_eq_false (by omega)⟩
    by_cases h2 : 4096 < m
    · exact .inr (.inl ⟨decide_eq_false h1, decide_eq_true h2, decide_eq_false (by omega)⟩)
    cases h3 : may t r
    · have := may_no.1 h3
      exact .inr (.inr (.inl ⟨decide_eq_false h1, decide_eq_false h2, rfl, decide_eq_false (by omega)⟩))
    · have := may_iff.1 h3
      refine .inr (.inr (.inr ⟨decide_eq_false h1, decide_eq_false h2, rfl, ⟨by omega, by omega⟩, by omega, ((t : Int) + (m - 1)).toNat, by omega, ?_⟩))
      unfold may
      rw [decide_eq_decide]
      omega
  have FO := Lib.hid (fun W => firstOf_any t r m W)
  have P0 := Lib.hid (tri_new w (.int .u32 (t : Int)) (.int .u8 (r : Int)) (.int .i64 m) 31)
  have B0 := Lib.hid ((Below.refl w.heap.size w).alloc (Nat.le_refl _) (.cells #[.int .u32 (t : Int), .int .u8 (r : Int), .int .i64 m] 31))
  rcases q with ⟨q1, h⟩ | ⟨q1, q2, h⟩ | ⟨q1, q2, q3, h⟩ | ⟨q1, q2, q3, q4, q5, z, hz, h⟩
  · rw [h]
    clear h
    go_enter Try.func39, Try.ntmps39
    go_wp2
    go_ret
    exact ⟨rfl, (Below.refl _ _).alloc (Nat.le_refl _) _⟩
  · rw [h]
    clear h
    go_enter Try.func39, Try.ntmps39
    go_wp2
    go_ret
    exact ⟨rfl, (Below.refl _ _).alloc (Nat.le_refl _) _⟩
  · have CK := Lib.hid (fun W => check_no t r q3 W)
    rw [h]
    clear h q3
    go_enter Try.func39, Try.ntmps39
    go_wp2_with fail
    refine (FO.out _).mono ?_
    rintro e w1 ⟨rfl, b1⟩
    have B1 := Lib.hid (bt B0.out b1)
    clear b1
    go_wp2_with fail
    refine (CK.out _).mono ?_
    rintro e w2 ⟨rfl, b2⟩
    have B2 := Lib.hid (bt B1.out b2)
    clear b2
    go_wp2
    go_ret
    exact ⟨rfl, B2.out⟩
  · have CK := Lib.hid (fun W => check_yes t r q3 W)
    have LO := Lib.hid (fun W => lastOf_any t r m z hz q4 q5 W)
    obtain ⟨q, hq⟩ : ∃ q, may z r = q := ⟨_, rfl⟩
    rw [h, hq]
    have C2 : Hid (∀ W : World, Calls Try.prog 57 #[.agg #[.int .u32 (z : Int), .int .u8 (r : Int)]] W fun e w' => e = .returned (.int .i64 (if q = true then 0 else 8)) ∧ Below W.heap.size W w') := fun W => by
      have := check_any z r W
      unfold Stamp.chk at this
      rwa [hq] at this
    clear h q3 hz q4 q5 hq
    cases q
    all_goals
      simp only [Bool.false_eq_true, if_false, if_true] at C2
      go_enter Try.func39, Try.ntmps39
      go_wp2_with fail
      refine (FO.out _).mono ?_
      rintro e w1 ⟨rfl, b1⟩
      have B1 := Lib.hid (bt B0.out b1)
      have P1 := Lib.hid (P0.out.keeps b1)
      clear b1
      go_wp2_with fail
      refine (CK.out _).mono ?_
      rintro e w2 ⟨rfl, b2⟩
      have B2 := Lib.hid (bt B1.out b2)
      have P2 := Lib.hid (P1.out.keeps b2)
      clear b2
      obtain ⟨g0, g1, g2, g3⟩ := P2.out
      go_wp2_with fail
      refine (LO.out _).mono ?_
      rintro e w3 ⟨rfl, b3⟩
      have B3 := Lib.hid (bt B2.out b3)
      clear b3 g0 g1 g2 g3
      go_wp2_with fail
      refine (C2.out _).mono ?_
      rintro e w4 ⟨rfl, b4⟩
      have B4 := Lib.hid (bt B3.out b4)
      clear b4
      go_wp2
      go_ret
      exact ⟨rfl, B4.out⟩

theorem ptwin_any {v : Value} {l : List Run} {w : World} (hv : Runs w v l) (hl : l.length ≤ 8796093022208) :
    Calls Try.prog 61 #[v] w fun e w' => ∃ v', e = .returned v' ∧ w'.ownsRow w.heap.size 31 3 v' l.length (runs l) ∧ Below w.heap.size w w' := by
  obtain ⟨ao, cap, rfl⟩ := hv.shape
  have HV : Hid (Sees w (.slice ao l.length cap) 3 l.length (runs l)) := hv
  have O0 : Hid (w.ownsRow w.heap.size 31 3 (.slice none 0 0) 0 []) := World.ownsRow_nil _ _ _ _
  clear hv
  go_enter Try.func61, Try.ntmps61
  go_wp2_with (at_builtin; refine wpList_append_sees rfl (.const (.slice none 0 0)) (.tmp 3) 32 31 rfl Try.underlying32 run_info rfl (by decide) w.heap.size _ 0 [] rfl O0.out _ l.length _ rfl HV.out (runs_oneCell l) ?k1 ?k2 ?k3 ?_)
  case k1 => omega
  case k2 => omega
  case k3 => simp
  rintro v1 w1 o1 g1 b1
  have HO : Hid (w1.ownsRow w.heap.size 31 3 v1 l.length (runs l)) := by
    have := o1
    unfold Hid
    simpa using this
  have HB := Lib.hid b1
  clear o1 g1 b1
  go_wp2
  go_ret
  exact ⟨_, rfl, HO.out, HB.out⟩

set_option maxHeartbeats 1000000 in
theorem slEq_yes {a b : Value} {l : List Run} {w : World} (ha : Runs w a l) (hb : Runs w b l) :
    Calls Try.prog 78 #[a, b] w fun e w' => e = .returned (.bool true) ∧ Below w.heap.size w w' := by
  obtain ⟨ao, ca, rfl⟩ := ha.shape
  obtain ⟨bo, cb, rfl⟩ := hb.shape
  obtain ⟨n, hn⟩ : ∃ n, n = l.length := ⟨_, rfl⟩
  have hm : n ≤ 9223372036854775807 := by rw [hn]; exact Sees.max ha
  have HA := Lib.hid ha
  have HB := Lib.hid hb
  have HN := Lib.hid hn
  rw [← hn]
  clear ha hb hn
  have t1 : ((n : Int) != (n : Int)) = false := by simp
  go_enter Try.func78, Try.ntmps78
  go_wp2
  go_loopw [13] (fun i wr => ∃ k : Nat, k ≤ n ∧ i = .int .i64 (k : Int) ∧ ∃ q, wr = w.drewN q) (fun i _ => n - (intOf i).toNat)
  case atStart => exact ⟨0, by omega, rfl, 0, rfl⟩
  case round =>
    obtain ⟨k, hk, rfl, q, rfl⟩ := hrel
    by_cases hkn : k < n
    · have q1 : decide (k < n) = true := by simpa using hkn
      obtain ⟨b1, o1, rfl, hb1, ha0, ha1, ha2⟩ := HA.out.at k (by rw [← HN.out]; exact hkn)
      obtain ⟨b2, o2, rfl, hb2, hb0, hb1', hb2'⟩ := HB.out.at k (by rw [← HN.out]; exact hkn)
      obtain ⟨x, hx⟩ : ∃ x, x = l.getD k zrun := ⟨_, rfl⟩
      rw [← hx] at ha0 ha1 ha2 hb0 hb1' hb2'
      obtain ⟨xt, xr, xm, _, _, _⟩ := x
      simp only at ha0 ha1 ha2 hb0 hb1' hb2'
      have q2 : (0 : Int) ≤ (k : Int) := by omega
      have q3 : (k : Int) < (n : Int) := by omega
      clear hx
      go_wp2
      go_quiet (fail)
      go_wp2
      go_roundw
      case rel => exact ⟨k + 1, by omega, by go_num, _, rfl⟩
      case measure => simp [intOf]; omega
    · have q1 : decide (k < n) = false := by simpa using hkn
      go_wp2
      go_ret
      exact ⟨rfl, below_draw (Below.refl _ _) _⟩

set_option maxHeartbeats 1000000 in
theorem slEq_no {a b : Value} {l m : List Run} {w : World} (ha : Runs w a l) (hb : Runs w b m) (hlm : l ≠ m) :
    Calls Try.prog 78 #[a, b] w fun e w' => e = .returned (.bool false) ∧ Below w.heap.size w w' := by
  obtain ⟨ao, ca, rfl⟩ := ha.shape
  obtain ⟨bo, cb, rfl⟩ := hb.shape
  obtain ⟨n, hn⟩ : ∃ n, n = l.length := ⟨_, rfl⟩
  obtain ⟨n2, hn2⟩ : ∃ n, n = m.length := ⟨_, rfl⟩
  have hm : n ≤ 9223372036854775807 := by rw [hn]; exact Sees.max ha
  have HA := Lib.hid ha
  have HB := Lib.hid hb
  have HN := Lib.hid hn
  have HN2 := Lib.hid hn2
  have HL := Lib.hid hlm
  rw [← hn, ← hn2]
  clear ha hb hn hn2 hlm
  by_cases hlen : n = n2
  · subst hlen
    have t1 : ((n : Int) != (n : Int)) = false := by simp
    go_enter Try.func78, Try.ntmps78
    go_wp2
    go_loopw [13] (fun i wr => ∃ k : Nat, k ≤ n ∧ i = .int .i64 (k : Int) ∧ Hid (∀ j, j < k → l.getD j zrun = m.getD j zrun) ∧ ∃ q, wr = w.drewN q) (fun i _ => n - (intOf i).toNat)
    case atStart => exact ⟨0, by omega, rfl, Lib.hid (by omega), 0, rfl⟩
    case round =>
      obtain ⟨k, hk, rfl, hal, q, rfl⟩ := hrel
      by_cases hkn : k < n
      · have q1 : decide (k < n) = true := by simpa using hkn
        obtain ⟨b1, o1, rfl, hb1, ha0, ha1, ha2⟩ := HA.out.at k (by rw [← HN.out]; exact hkn)
        obtain ⟨b2, o2, rfl, hb2, hb0, hb1', hb2'⟩ := HB.out.at k (by rw [← HN2.out]; exact hkn)
        obtain ⟨x, hx⟩ : ∃ x, x = l.getD k zrun := ⟨_, rfl⟩
        obtain ⟨y, hy⟩ : ∃ y, y = m.getD k zrun := ⟨_, rfl⟩
        rw [← hx] at ha0 ha1 ha2
        rw [← hy] at hb0 hb1' hb2'
        have q2 : (0 : Int) ≤ (k : Int) := by omega
        have q3 : (k : Int) < (n : Int) := by omega
        by_cases hxy : x = y
        · have HX := Lib.hid (show l.getD k zrun = m.getD k zrun by rw [← hx, ← hy, hxy])
          subst hxy
          obtain ⟨xt, xr, xm, _, _, _⟩ := x
          simp only at ha0 ha1 ha2 hb0 hb1' hb2'
          clear hx hy
          go_wp2
          go_quiet (fail)
          go_wp2
          go_roundw
          case rel =>
            refine ⟨k + 1, by omega, by go_num, Lib.hid (fun j hj => ?_), _, rfl⟩
            by_cases e : j = k
            · rw [e]; exact HX.out
            · exact hal.out j (by omega)
          case measure => simp [intOf]; omega
        · have hparts : ¬ x.t = y.t ∨ (x.t = y.t ∧ ¬ x.r = y.r) ∨ (x.t = y.t ∧ x.r = y.r ∧ ¬ x.m = y.m) := by
            by_cases h1 : x.t = y.t
            · by_cases h2 : x.r = y.r
              · exact .inr (.inr ⟨h1, h2, fun h3 => hxy (Run.ext' h1 h2 h3)⟩)
              · exact .inr (.inl ⟨h1, h2⟩)
            · exact .inl h1
          obtain ⟨xt, xr, xm, _, _, _⟩ := x
          obtain ⟨yt, yr, ym, _, _, _⟩ := y
          simp only at ha0 ha1 ha2 hb0 hb1' hb2' hparts
          clear hx hy hxy
          rcases hparts with h1 | ⟨rfl, h2⟩ | ⟨rfl, rfl, h3⟩
          · go_wp2
            go_quiet (fail)
            go_wp2
            go_ret
            exact ⟨rfl, below_draw (below_draw (Below.refl _ _) _) _⟩
          · have h4 : ((xr : Int) == (yr : Int)) = false := by simp; omega
            have h5 : decide (xr = yr) = false := decide_eq_false h2
            go_wp2
            go_quiet (fail)
            go_wp2
            go_ret
            exact ⟨rfl, below_draw (below_draw (Below.refl _ _) _) _⟩
          · go_wp2
            go_quiet (fail)
            go_wp2
            go_ret
            exact ⟨rfl, below_draw (below_draw (Below.refl _ _) _) _⟩
      · exfalso
        obtain ⟨j, h1, h2⟩ := runs_ne (by rw [← HN.out, ← HN2.out]) HL.out
        exact h2 (hal.out j (by have := HN.out; omega))
  · have t1 : ((n : Int) != (n2 : Int)) = true := by simp; omega
    have t2 : ¬ n = n2 := hlen
    go_enter Try.func78, Try.ntmps78
    go_wp2
    go_ret
    exact ⟨rfl, Below.refl _ _⟩

theorem psame_any {a b : Value} {l m : List Run} {w : World} (ha : Runs w a l) (hb : Runs w b m) :
    Calls Try.prog 55 #[a, b] w fun e w' => e = .returned (.bool (decide (l = m))) ∧ Below w.heap.size w w' := by
  by_cases h : l = m
  · subst h
    rw [decide_eq_true rfl]
    have E := Lib.hid (slEq_yes ha hb)
    clear ha hb
    go_enter Try.func55, Try.ntmps55
    go_wp2_with fail
    refine E.out.mono ?_
    rintro e w1 ⟨rfl, b1⟩
    go_wp2
    go_ret
    exact ⟨rfl, b1⟩
  · rw [decide_eq_false h]
    have E := Lib.hid (slEq_no ha hb h)
    clear ha hb h
    go_enter Try.func55, Try.ntmps55
    go_wp2_with fail
    refine E.out.mono ?_
    rintro e w1 ⟨rfl, b1⟩
    go_wp2
    go_ret
    exact ⟨rfl, b1⟩
end Go.Proofs.Ytohiidgdpecbdaa.Place

/- octavoref06.May, Any, Check: what each answers. Conditions: the slice's cells are runs. -/
namespace Go.Proofs.Ytohiidgdpecbdaa.Place
open Go.RowKit Stamp
attribute [local go_sem ↓] Go.wp_at_zero Go.wp_at_succ
attribute [local go_sem] yielded_undef

def chainB : List Run → Bool
  | [] => true
  | [x] => decide (One x)
  | x :: y :: p => decide (One x) && (decide (Next x y) && chainB (y :: p))
theorem chainB_iff : ∀ p : List Run, chainB p = true ↔ Chain p
  | [] => by simp [chainB, Chain]
  | [x] => by simp [chainB, Chain]
  | x :: y :: p => by simp [chainB, Chain, chainB_iff (y :: p)]
def mayB (p : List Run) : Bool := decide (1 ≤ p.length) && (decide (p.length ≤ 64) && (chainB p && decide (long p ≤ 4096)))
theorem mayB_iff (p : List Run) : mayB p = true ↔ May p := by simp [mayB, May, chainB_iff]
theorem mayB_no {p : List Run} (h : ¬ May p) : mayB p = false := by
  cases hb : mayB p
  · rfl
  · exact absurd ((mayB_iff p).1 hb) h
theorem chain_one : ∀ {l : List Run} {k : Nat}, Chain l → k < l.length → One (l.getD k zrun)
  | [], k, _, h => by simp at h
  | x :: p, 0, h, _ => by simpa using h.head
  | x :: p, k + 1, h, hk => by simpa using chain_one (k := k) h.tail (by simpa using hk)
theorem chain_next : ∀ {l : List Run} {k : Nat}, Chain l → k + 1 < l.length → Next (l.getD k zrun) (l.getD (k + 1) zrun)
  | [], k, _, h => by simp at h
  | [x], k, _, h => by simp at h
  | x :: y :: p, 0, h, _ => by simpa using h.2.1
  | x :: y :: p, k + 1, h, hk => by simpa using chain_next (k := k) h.2.2 (by simpa using hk)
theorem take_last (l : List Run) (k : Nat) (h : k + 1 ≤ l.length) : (l.take (k + 1)).getLast? = some (l.getD k zrun) := by
  rw [List.take_succ_eq_append_getElem (by omega), List.getLast?_concat]
  simp [List.getD, List.getElem?_eq_getElem (show k < l.length by omega)]
theorem chain_take_one (l : List Run) (h : 0 < l.length) (h1 : One (l.getD 0 zrun)) : Chain (l.take (0 + 1)) := by
  cases l with
  | nil => simp at h
  | cons x p => show One x; simpa using h1
theorem chain_take_succ (l : List Run) (j : Nat) (h : j + 1 < l.length) (hc : Chain (l.take (j + 1))) (h1 : One (l.getD (j + 1) zrun)) (h2 : Next (l.getD j zrun) (l.getD (j + 1) zrun)) : Chain (l.take (j + 1 + 1)) := by
  rw [List.take_succ_eq_append_getElem h]
  have e : l[j + 1] = l.getD (j + 1) zrun := by simp [List.getD, List.getElem?_eq_getElem h]
  rw [e]
  refine chain_append hc h1 ?_
  intro x y hx hy
  rw [take_last l j (by omega)] at hx
  simp only [Option.some.injEq, List.head?_cons] at hx hy
  subst hx hy
  exact h2

def anyB (l : List Run) : Bool := decide (l.length = 0) || mayB l
theorem anyB_iff (l : List Run) : anyB l = true ↔ Any l := by simp [anyB, Any, mayB_iff]
def chk (l : List Run) : Int := if mayB l = true then 0 else 8
end Go.Proofs.Ytohiidgdpecbdaa.Place
