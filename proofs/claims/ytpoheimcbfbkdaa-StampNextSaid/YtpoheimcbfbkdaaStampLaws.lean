/- octavolaw05.by and alive: what they answer. Conditions: none. -/
import Derived.Test.YtpoheimcbfbkdaaStampNextF
import Derived.Deep.DrawnRows
namespace Go.Proofs.Ytpoheimcbfbkdaa.Stamp
open Go.RowKit Flo
attribute [local go_sem ↓] Go.wp_at_zero Go.wp_at_succ

theorem by_any (t r : Int) (w : World) : Calls Try.prog 8 #[.int .u32 t, .int .u8 r] w fun e w' => e = .returned (.agg #[.int .u32 t, .int .u8 r]) ∧ Below w.heap.size w w' := by
  go_enter Try.func8, Try.ntmps8
  go_wp2
  refine bodyPost_ret (v := .agg #[.int .u32 t, .int .u8 r]) (by simp [results, Try.results8, go_sem]) rfl ⟨rfl, ?_⟩
  exact (Below.refl _ _).alloc (Nat.le_refl _) _

theorem keepA {H B : Nat} {w w1 w2 : World} {c0 c1 : Value} (h : Below w1.heap.size w1 w2) (hb : Below B w w1) (hB : B ≤ H) (hs : H < w1.heap.size) (h0 : w1.cell? ⟨H, 0, none⟩ = some c0) (h1 : w1.cell? ⟨H, 1, none⟩ = some c1) :
    Below B w w2 ∧ B ≤ H ∧ H < w2.heap.size ∧ w2.cell? ⟨H, 0, none⟩ = some c0 ∧ w2.cell? ⟨H, 1, none⟩ = some c1 :=
  ⟨hb.trans (h.mono (by omega)), hB, Nat.lt_of_lt_of_le hs h.size, (h.cell (p := ⟨H, 0, none⟩) hs).trans h0, (h.cell (p := ⟨H, 1, none⟩) hs).trans h1⟩
theorem keepAd {H B : Nat} {w w1 : World} {c0 c1 : Value} (hb : Below B w w1) (hB : B ≤ H) (hs : H < w1.heap.size) (h0 : w1.cell? ⟨H, 0, none⟩ = some c0) (h1 : w1.cell? ⟨H, 1, none⟩ = some c1) :
    Below B w w1.drew ∧ B ≤ H ∧ H < w1.drew.heap.size ∧ w1.drew.cell? ⟨H, 0, none⟩ = some c0 ∧ w1.drew.cell? ⟨H, 1, none⟩ = some c1 :=
  ⟨hb.drew, hB, hs, h0, h1⟩
theorem keepA0 {w w3 : World} (h : Below w.heap.size w w3) (c0 c1 : Value) (e : TypeId) :
    Below w.heap.size w (w3.alloc (.cells #[c0, c1] e)) ∧ w.heap.size ≤ w3.heap.size ∧ w3.heap.size < (w3.alloc (.cells #[c0, c1] e)).heap.size ∧ (w3.alloc (.cells #[c0, c1] e)).cell? ⟨w3.heap.size, 0, none⟩ = some c0 ∧ (w3.alloc (.cells #[c0, c1] e)).cell? ⟨w3.heap.size, 1, none⟩ = some c1 :=
  ⟨h.alloc h.size _, h.size, by simp, cell_of_row _ w3.heap.size 0 #[c0, c1] e _ (heap_alloc_new w3 _), cell_of_row _ w3.heap.size 1 #[c0, c1] e _ (heap_alloc_new w3 _)⟩

theorem less_lit (t r u s : Nat) (b : Bool) (h : less t r u s = b) (ht : t < 4294967296) (hr : r < 256) (hu : u < 4294967296) (hs : s < 256) (w : World) :
    Calls Try.prog 13 #[.agg #[.int .u32 (t : Int), .int .u8 (r : Int)], .agg #[.int .u32 (u : Int), .int .u8 (s : Int)]] w fun e w' => e = .returned (.bool b) ∧ Below w.heap.size w w' := by
  have := less_any t r u s ht hr hu hs w
  rwa [h] at this

set_option maxHeartbeats 2000000 in
theorem alive_any (w : World) : Calls Try.prog 9 #[] w fun e w' => e = .returned (.bool true) ∧ Below w.heap.size w w' := by
  have L1 : Hid (∀ W : World, Calls Try.prog 13 #[.agg #[.int .u32 3, .int .u8 1], .agg #[.int .u32 4, .int .u8 0]] W fun e w' => e = .returned (.bool true) ∧ Below W.heap.size W w') := fun W =>
    less_lit 3 1 4 0 true (by decide) (by decide) (by decide) (by decide) (by decide) W
  have L2 : Hid (∀ W : World, Calls Try.prog 13 #[.agg #[.int .u32 3, .int .u8 1], .agg #[.int .u32 3, .int .u8 2]] W fun e w' => e = .returned (.bool true) ∧ Below W.heap.size W w') := fun W =>
    less_lit 3 1 3 2 true (by decide) (by decide) (by decide) (by decide) (by decide) W
  have L3 : Hid (∀ W : World, Calls Try.prog 13 #[.agg #[.int .u32 3, .int .u8 1], .agg #[.int .u32 3, .int .u8 1]] W fun e w' => e = .returned (.bool false) ∧ Below W.heap.size W w') := fun W =>
    less_lit 3 1 3 1 false (by decide) (by decide) (by decide) (by decide) (by decide) W
  have N1 : Hid (∀ (W : World), Calls Try.prog 7 #[.int .u8 2, .slice (some ⟨W.heap.size, 0, none⟩) 2 2] (W.alloc (.cells #[.int .u32 3, .int .u8 1, .int .u32 5, .int .u8 0] 24)) fun e w' =>
      e = .returned (.tuple #[.agg #[.int .u32 6, .int .u8 2], .int .i64 0]) ∧ Below (W.alloc (.cells #[.int .u32 3, .int .u8 1, .int .u32 5, .int .u8 0] 24)).heap.size (W.alloc (.cells #[.int .u32 3, .int .u8 1, .int .u32 5, .int .u8 0] 24)) w') := fun W => by
    have h := next_any (r := 2) (by decide) (ids_new W [⟨3, 1, by decide, by decide⟩, ⟨5, 0, by decide, by decide⟩] 2 rfl (by decide) 24 (0, 0))
    have e : nextv 2 [⟨3, 1, by decide, by decide⟩, ⟨5, 0, by decide, by decide⟩] = .tuple #[.agg #[.int .u32 6, .int .u8 2], .int .i64 0] := by
      unfold nextv
      rw [show next 2 [⟨3, 1, by decide, by decide⟩, ⟨5, 0, by decide, by decide⟩] = (6, 2, 0) by decide]
      rfl
    rw [e] at h
    exact h
  go_enter Try.func9, Try.ntmps9
  go_wp2_with fail
  refine (by_any _ _ _).mono ?_
  rintro e w1 ⟨rfl, b1⟩
  go_wp2_with fail
  refine (by_any _ _ _).mono ?_
  rintro e w2 ⟨rfl, b2⟩
  have hb2 := Lib.hid (bt b1 b2)
  clear b1 b2
  go_wp2_with fail
  refine (N1.out _).mono ?_
  rintro e w3 ⟨rfl, b3⟩
  have hb3 : Below w.heap.size w w3 := (hb2.out.alloc hb2.out.size _).trans (b3.mono (by have := hb2.out.size; simp; omega))
  have K0 := Lib.hid (keepA0 hb3 (.int .u32 6) (.int .u8 2) 24)
  clear hb2 b3 hb3
  go_wp2
  go_region_held3 (fun w' => Below w.heap.size w w' ∧ w.heap.size ≤ w3.heap.size ∧ w3.heap.size < w'.heap.size ∧ w'.cell? ⟨w3.heap.size, 0, none⟩ = some (.int .u32 6) ∧ w'.cell? ⟨w3.heap.size, 1, none⟩ = some (.int .u8 2))
    (first | exact keepAd K0.out.1 K0.out.2.1 K0.out.2.2.1 K0.out.2.2.2.1 K0.out.2.2.2.2 | (go_split_ands; refine keepAd ?_ ?_ ?_ ?_ ?_ <;> assumption) | (go_split_ands; exact keepA (by assumption) (by assumption) (by assumption) (by assumption) (by assumption) (by assumption)))
    ((first | (go_at_call 8; refine (by_any _ _ _).mono ?_; rintro e w4 ⟨rfl, b4⟩) | (go_at_call 13; first | ((with_reducible refine (L1.out _).mono ?_); rintro e w4 ⟨rfl, b4⟩) | ((with_reducible refine (L2.out _).mono ?_); rintro e w4 ⟨rfl, b4⟩) | ((with_reducible refine (L3.out _).mono ?_); rintro e w4 ⟨rfl, b4⟩))))
  go_wp2
  go_ret
  go_split_ands
  exact ⟨rfl, by assumption⟩
end Go.Proofs.Ytpoheimcbfbkdaa.Stamp
