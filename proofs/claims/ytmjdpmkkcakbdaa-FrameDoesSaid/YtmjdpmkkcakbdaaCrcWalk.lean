/- The table's entries, and the tables, as Crc.entry says. Conditions: none. -/
import Derived.Test.YtmjdpmkkcakbdaaBytes
import Derived.Test.YtmjdpmkkcakbdaaCrcMath
import Derived.Laws.BitsAllLaws
import Derived.Deep.WholeRow
import Derived.Deep.LoopGhost
namespace Go.Proofs.Ytmjdpmkkcakbdaa.Crc
open Go.RowKit

theorem rem2 (m : Nat) : (m % 2 = 1 ∧ (((m : Int) % 2) == 1) = true) ∨ (m % 2 ≠ 1 ∧ (((m : Int) % 2) == 1) = false) := by
  rcases Nat.mod_two_eq_zero_or_one m with h | h
  · right; exact ⟨by omega, by rw [beq_eq_false_iff_ne]; omega⟩
  · left; exact ⟨h, by rw [beq_iff_eq]; omega⟩
theorem xstep (m : Nat) (h : m < 4294967296) : bits .xor .u32 ((m : Int) / 2) 3988292384 = (((m / 2) ^^^ 3988292384 : Nat) : Int) := by
  have := u32_xor_nat (m / 2) 3988292384 (by omega) (by decide)
  simpa using this
theorem step_odd {m : Nat} (h : m % 2 = 1) : step m = (m / 2) ^^^ 3988292384 := by unfold step; rw [if_pos h]
theorem step_even {m : Nat} (h : m % 2 ≠ 1) : step m = m / 2 := by unfold step; rw [if_neg h]

set_option maxHeartbeats 400000 in
theorem halved_any (n : Nat) (h : n < 4294967296) (w : World) :
    Calls Try.prog 22 #[.int .u32 (n : Int)] w fun e w' => e = .returned (.int .u32 (entry n : Int)) ∧ w = w' := by
  have HN := Lib.hid h
  clear h
  go_enter Try.func22, Try.ntmps22
  go_wp2
  go_loop [0, 4] (fun v i => ∃ k m : Nat, k ≤ 8 ∧ i = .int .i64 (k : Int) ∧ v = .int .u32 (m : Int) ∧ Hid (m = steps k n) ∧ m < 4294967296) (fun _ i => 8 - (intOf i).toNat)
  case atStart => exact ⟨0, n, by omega, rfl, rfl, Lib.hid rfl, HN.out⟩
  case round =>
    obtain ⟨k, m, hk, rfl, rfl, hm, hlt⟩ := hrel
    by_cases hk8 : k < 8
    · have t1 : decide ((k : Int) < 8) = true := by simp; omega
      rcases rem2 m with ⟨ho, t2⟩ | ⟨he, t2⟩
      · have hx := xstep m hlt
        have HO := Lib.hid ho
        clear ho
        go_wp2
        go_round
        case rel => exact ⟨k + 1, m / 2 ^^^ 3988292384, by omega, by go_num, rfl, Lib.hid (by rw [hm.out] at HO ⊢; exact (step_odd HO.out).symm), x32 (by omega) (by decide)⟩
        case measure => simp [intOf]; omega
      · have HE := Lib.hid he
        clear he
        go_wp2
        go_round
        case rel => exact ⟨k + 1, m / 2, by omega, by go_num, by go_num, Lib.hid (by rw [hm.out] at HE ⊢; exact (step_even HE.out).symm), by omega⟩
        case measure => simp [intOf]; omega
    · have t1 : decide ((k : Int) < 8) = false := by simp; omega
      go_wp2
      go_ret
      have : k = 8 := by omega
      subst this
      exact ⟨by rw [hm.out]; rfl, rfl⟩

set_option maxHeartbeats 400000 in
theorem refEntry_any (n : Nat) (h : n < 4294967296) (w : World) :
    Calls Try.prog 27 #[.int .u32 (n : Int)] w fun e w' => e = .returned (.int .u32 (entry n : Int)) ∧ w = w' := by
  have HN := Lib.hid h
  clear h
  go_enter Try.func27, Try.ntmps27
  go_wp2
  go_loop [0, 3] (fun v i => ∃ k m : Nat, k ≤ 8 ∧ i = .int .i64 (k : Int) ∧ v = .int .u32 (m : Int) ∧ Hid (m = steps k n) ∧ m < 4294967296) (fun _ i => 8 - (intOf i).toNat)
  case atStart => exact ⟨0, n, by omega, rfl, rfl, Lib.hid rfl, HN.out⟩
  case round =>
    obtain ⟨k, m, hk, rfl, rfl, hm, hlt⟩ := hrel
    by_cases hk8 : k < 8
    · have t1 : decide ((k : Int) < 8) = true := by simp; omega
      rcases rem2 m with ⟨ho, t2⟩ | ⟨he, t2⟩
      · have hx := xstep m hlt
        have HO := Lib.hid ho
        clear ho
        go_wp2
        go_round
        case rel => exact ⟨k + 1, m / 2 ^^^ 3988292384, by omega, by go_num, rfl, Lib.hid (by rw [hm.out] at HO ⊢; exact (step_odd HO.out).symm), x32 (by omega) (by decide)⟩
        case measure => simp [intOf]; omega
      · have HE := Lib.hid he
        clear he
        go_wp2
        go_round
        case rel => exact ⟨k + 1, m / 2, by omega, by go_num, by go_num, Lib.hid (by rw [hm.out] at HE ⊢; exact (step_even HE.out).symm), by omega⟩
        case measure => simp [intOf]; omega
    · have t1 : decide ((k : Int) < 8) = false := by simp; omega
      go_wp2
      go_ret
      have : k = 8 := by omega
      subst this
      exact ⟨by rw [hm.out]; rfl, rfl⟩

end Go.Proofs.Ytmjdpmkkcakbdaa.Crc
