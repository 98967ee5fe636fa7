/- slices.Sort over 32-bit numbers, of at most twelve of them, and of none: it puts in order. Conditions: the row is the call's own. -/
import Derived.Test.YtinglfhndlklaaaSrtIns
import Derived.Test.YtinglfhndlklaaaSrtLen
namespace Go.Proofs.Ytinglfhndlklaaa.Srt
open Go.RowKit
attribute [local go_sem ↓] Go.wp_at_zero Go.wp_at_succ

/-- What a call that puts in order does, of at most K numbers. -/
def SortC (K : Nat) : Prop := ∀ (B g n cap : Nat) (xs : List Nat) (w : World), Row w B g n cap xs → n ≤ K →
  Calls Try.prog 70 #[.slice (some ⟨g, 0, none⟩) n cap] w fun e w' => e = .returned (.tuple #[]) ∧ ∃ ys, Row w' B g n cap ys ∧ w.grownBy w' (some g) ∧ Sw 0 n xs ys ∧ Inc 0 n ys

set_option maxRecDepth 100000 in
set_option maxHeartbeats 2000000 in
theorem pdq_small {B g n cap a b : Nat} {xs : List Nat} {w : World} (hr : Row w B g n cap xs) (hab : a ≤ b) (hb : b ≤ n) (hn : n ≤ 1000000) (h12 : b ≤ a + 12) (l : Int) :
    Calls Try.prog 84 #[.slice (some ⟨g, 0, none⟩) n cap, .int .i64 (a : Int), .int .i64 (b : Int), .int .i64 l] w fun e w' => e = .returned (.tuple #[]) ∧
      ∃ ys, Row w' B g n cap ys ∧ w.grownBy w' (some g) ∧ Sw a b xs ys ∧ Inc a b ys := by
  have C := Lib.hid (insertion_any hr hab hb hn)
  obtain ⟨d, hd⟩ : ∃ d, d = b - a := ⟨_, rfl⟩
  have e1 : (b : Int) - (a : Int) = (d : Int) := by omega
  have e2 : IntKind.i64.wrap (d : Int) = (d : Int) := IntWalk.i64_in _ (by omega)
  have e3 : decide ((d : Int) ≤ 12) = true := decide_eq_true (by omega)
  have e4 : decide (d ≤ 12) = true := decide_eq_true (by omega)
  clear hr hd
  go_enter Try.func84, Try.ntmps84
  go_wp2
  go_loopw [1, 2] (fun i j wr => wr = w ∧ i = .int .i64 (a : Int) ∧ j = .int .i64 (b : Int)) (fun _ _ _ => 0)
  case atStart => exact ⟨rfl, rfl, rfl⟩
  case round =>
    obtain ⟨rfl, rfl, rfl⟩ := hrel
    go_wp2_with fail
    refine C.out.mono ?_
    rintro e w1 ⟨rfl, h⟩
    have H := Lib.hid h
    clear h
    go_wp2
    (try simp only [Exit.inBlock, Exit.then])
    refine bodyPost_ret (results_none rfl _ _ _) rfl ?_
    exact ⟨rfl, H.out⟩
set_option maxRecDepth 100000 in
theorem sort_small : SortC 12 := fun B g n cap xs w hr hn => by
  have L := Lib.hid (len_any n (by omega))
  have P : Hid (∀ l : Int, Calls Try.prog 84 #[.slice (some ⟨g, 0, none⟩) n cap, .int .i64 0, .int .i64 (n : Int), .int .i64 l] w fun e w' => e = .returned (.tuple #[]) ∧
      ∃ ys, Row w' B g n cap ys ∧ w.grownBy w' (some g) ∧ Sw 0 n xs ys ∧ Inc 0 n ys) := fun l => pdq_small (a := 0) hr (by omega) (Nat.le_refl _) (by omega) (by omega) l
  have e1 : IntKind.u64.wrap (n : Int) = (n : Int) := by rw [IntKind.wrap_u64]; omega
  clear hr
  go_enter Try.func70, Try.ntmps70
  go_wp2_with fail
  refine (L.out _).mono ?_
  rintro e w1 ⟨⟨k, rfl, hk⟩, rfl⟩
  go_wp2_with fail
  refine (P.out _).mono ?_
  rintro e w2 ⟨rfl, h⟩
  have H := Lib.hid h
  clear h
  go_wp2
  go_end0
  exact ⟨rfl, H.out⟩
set_option maxRecDepth 100000 in
set_option maxHeartbeats 2000000 in
theorem insertion_nil (w : World) : Calls Try.prog 92 #[.slice none 0 0, .int .i64 0, .int .i64 0] w fun e w' => e = .returned (.tuple #[]) ∧ w' = w := by
  go_enter Try.func92, Try.ntmps92
  go_wp2
  go_loopw [6] (fun i wr => wr = w ∧ i = .int .i64 1) (fun _ _ => 0)
  case atStart => exact ⟨rfl, rfl⟩
  case round =>
    obtain ⟨rfl, rfl⟩ := hrel
    go_wp2
    go_end0
    exact ⟨rfl, rfl⟩
set_option maxRecDepth 100000 in
set_option maxHeartbeats 2000000 in
theorem pdq_nil (l : Int) (w : World) : Calls Try.prog 84 #[.slice none 0 0, .int .i64 0, .int .i64 0, .int .i64 l] w fun e w' => e = .returned (.tuple #[]) ∧ w' = w := by
  have C := Lib.hid (insertion_nil w)
  go_enter Try.func84, Try.ntmps84
  go_wp2
  go_loopw [1, 2] (fun i j wr => wr = w ∧ i = .int .i64 0 ∧ j = .int .i64 0) (fun _ _ _ => 0)
  case atStart => exact ⟨rfl, rfl, rfl⟩
  case round =>
    obtain ⟨rfl, rfl, rfl⟩ := hrel
    go_wp2_with fail
    refine C.out.mono ?_
    rintro e w1 ⟨rfl, rfl⟩
    go_wp2
    (try simp only [Exit.inBlock, Exit.then])
    refine bodyPost_ret (results_none rfl _ _ _) rfl ?_
    exact ⟨rfl, rfl⟩
set_option maxRecDepth 100000 in
theorem sort_nil (w : World) : Calls Try.prog 70 #[.slice none 0 0] w fun e w' => e = .returned (.tuple #[]) ∧ w' = w := by
  have L := Lib.hid (len_any 0 (by omega))
  have P := Lib.hid (fun l => pdq_nil l w)
  go_enter Try.func70, Try.ntmps70
  go_wp2_with fail
  refine (L.out _).mono ?_
  rintro e w1 ⟨⟨k, rfl, hk⟩, rfl⟩
  go_wp2_with fail
  refine (P.out _).mono ?_
  rintro e w2 ⟨rfl, rfl⟩
  go_wp2
  go_end0
  exact ⟨rfl, rfl⟩
end Go.Proofs.Ytinglfhndlklaaa.Srt
