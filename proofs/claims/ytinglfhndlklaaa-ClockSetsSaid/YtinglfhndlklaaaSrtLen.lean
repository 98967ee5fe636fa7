/- math/bits.Len of numbers up to 1024: how many digits they have. Conditions: as said. -/
import Derived.Test.YtinglfhndlklaaaSrtRow
namespace Go.Proofs.Ytinglfhndlklaaa.Srt
open Go.RowKit
attribute [local go_sem ↓] Go.wp_at_zero Go.wp_at_succ

/-- k is how many binary digits x has. -/
def Dig (x k : Nat) : Prop := k ≤ 11 ∧ x < 2 ^ k ∧ (1 ≤ x → 2 ^ k ≤ 2 * x)
instance (x k : Nat) : Decidable (Dig x k) := inferInstanceAs (Decidable (_ ∧ _ ∧ _))
set_option maxRecDepth 100000 in
def t8 : ByteArray := ⟨#[0, 1, 2, 2, 3, 3, 3, 3, 4, 4, 4, 4, 4, 4, 4, 4, 5, 5, 5, 5, 5, 5, 5, 5, 5, 5, 5, 5, 5, 5, 5, 5, 6, 6, 6, 6, 6, 6, 6, 6, 6, 6, 6, 6, 6, 6, 6, 6, 6, 6, 6, 6, 6, 6, 6, 6, 6, 6, 6, 6, 6, 6, 6, 6, 7, 7, 7, 7, 7, 7, 7, 7, 7, 7, 7, 7, 7, 7, 7, 7, 7, 7, 7, 7, 7, 7, 7, 7, 7, 7, 7, 7, 7, 7, 7, 7, 7, 7, 7, 7, 7, 7, 7, 7, 7, 7, 7, 7, 7, 7, 7, 7, 7, 7, 7, 7, 7, 7, 7, 7, 7, 7, 7, 7, 7, 7, 7, 7, 8, 8, 8, 8, 8, 8, 8, 8, 8, 8, 8, 8, 8, 8, 8, 8, 8, 8, 8, 8, 8, 8, 8, 8, 8, 8, 8, 8, 8, 8, 8, 8, 8, 8, 8, 8, 8, 8, 8, 8, 8, 8, 8, 8, 8, 8, 8, 8, 8, 8, 8, 8, 8, 8, 8, 8, 8, 8, 8, 8, 8, 8, 8, 8, 8, 8, 8, 8, 8, 8, 8, 8, 8, 8, 8, 8, 8, 8, 8, 8, 8, 8, 8, 8, 8, 8, 8, 8, 8, 8, 8, 8, 8, 8, 8, 8, 8, 8, 8, 8, 8, 8, 8, 8, 8, 8, 8, 8, 8, 8, 8, 8, 8, 8, 8, 8, 8, 8, 8, 8, 8, 8, 8, 8, 8, 8, 8, 8]⟩
set_option maxRecDepth 100000 in
theorem t8_size : t8.size = 256 := by decide +kernel
set_option maxRecDepth 100000 in
theorem t8_low (x : Nat) (h : x < t8.size) : Dig x (t8[x]'h).toNat := by
  have all : ∀ x : Fin 256, Dig x (t8[x]'(by rw [t8_size]; exact x.2)).toNat := by decide +kernel
  exact all ⟨x, h⟩
set_option maxRecDepth 100000 in
theorem t8_high (x : Nat) (hx : x ≤ 1024) (h0 : 256 ≤ x) (h : x / 256 < t8.size) : Dig x (8 + (t8[x / 256]'h).toNat) := by
  have all : ∀ x : Fin 1025, 256 ≤ x.val → ∀ h : x.val / 256 < t8.size, Dig x (8 + (t8[x.val / 256]'h).toNat) := by
    clear h h0 hx x
    decide +kernel
  exact all ⟨x, by omega⟩ h0 h
theorem w64 (k : Nat) (h : k ≤ 11) : wrap64 (wrap64 (k : Int)) = (k : Int) := by
  unfold wrap64
  omega
theorem w64h (k : Nat) (h : 8 + k ≤ 11) : wrap64 (8 + wrap64 (k : Int)) = ((8 + k : Nat) : Int) := by
  unfold wrap64
  omega

set_option maxRecDepth 100000 in
theorem len64_any (x : Nat) (hx : x ≤ 1024) (w : World) : Calls Try.prog 102 #[.int .u64 (x : Int)] w fun e w' => (∃ k : Nat, e = .returned (.int .i64 (k : Int)) ∧ Dig x k) ∧ w' = w := by
  have t1 : decide ((4294967296 : Int) ≤ (x : Int)) = false := decide_eq_false (by omega)
  have t1' : decide (4294967296 ≤ x) = false := decide_eq_false (by omega)
  have t2 : decide ((65536 : Int) ≤ (x : Int)) = false := decide_eq_false (by omega)
  have t2' : decide (65536 ≤ x) = false := decide_eq_false (by omega)
  by_cases h : 256 ≤ x
  · have t3 : decide ((256 : Int) ≤ (x : Int)) = true := decide_eq_true (by omega)
    have t3' : decide (256 ≤ x) = true := decide_eq_true h
    have hd := t8_high x hx h (by rw [t8_size]; omega)
    go_enter Try.func102, Try.ntmps102
    go_wp2
    go_ret
    exact ⟨⟨_, congrArg (fun v => Ending.returned (.int .i64 v)) (w64h _ hd.1), hd⟩, rfl⟩
  · have t3 : decide ((256 : Int) ≤ (x : Int)) = false := decide_eq_false (by omega)
    have t3' : decide (256 ≤ x) = false := decide_eq_false (by omega)
    have hd := t8_low x (by rw [t8_size]; omega)
    go_enter Try.func102, Try.ntmps102
    go_wp2
    go_ret
    exact ⟨⟨_, congrArg (fun v => Ending.returned (.int .i64 v)) (w64 _ hd.1), hd⟩, rfl⟩
theorem len_any (x : Nat) (hx : x ≤ 1024) (w : World) : Calls Try.prog 85 #[.int .u64 (x : Int)] w fun e w' => (∃ k : Nat, e = .returned (.int .i64 (k : Int)) ∧ Dig x k) ∧ w' = w := by
  have L := Lib.hid (len64_any x hx)
  go_enter Try.func85, Try.ntmps85
  go_wp2_with fail
  refine (L.out _).mono ?_
  rintro e w1 ⟨⟨k, rfl, hk⟩, rfl⟩
  go_wp2
  go_ret
  exact ⟨⟨k, rfl, hk⟩, rfl⟩
end Go.Proofs.Ytinglfhndlklaaa.Srt
