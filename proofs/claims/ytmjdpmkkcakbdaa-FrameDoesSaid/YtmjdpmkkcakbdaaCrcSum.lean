/- The sums of bytes as Crc.sumT says. Conditions: none. -/
import Derived.Test.YtmjdpmkkcakbdaaCrcTab
namespace Go.Proofs.Ytmjdpmkkcakbdaa.Crc
open Go.RowKit

theorem xindex (x n : Nat) (hx : x < 256) : bits .xor .u8 (x : Int) ((n : Int) % 256) = (((n % 256) ^^^ x : Nat) : Int) := by
  have := u8_xor_nat x (n % 256) hx (Nat.mod_lt _ (by decide))
  rw [Nat.xor_comm]
  simpa using this
theorem xnext (t n : Nat) (ht : t < 4294967296) (hn : n < 4294967296) : bits .xor .u32 (t : Int) ((n : Int) / 256) = ((t ^^^ (n / 256) : Nat) : Int) := by
  have := u32_xor_nat t (n / 256) ht (by omega)
  simpa using this
theorem xfin (n : Nat) (hn : n < 4294967296) : bits .xor .u32 IntKind.u32.max (n : Int) = (fin n : Int) := by
  rw [show IntKind.u32.max = 4294967295 by rfl]
  have := u32_xor_nat 4294967295 n (by decide) hn
  simpa [fin] using this
theorem ret_u32 {a b : Int} (h : a = b) : Ending.returned (.int .u32 a) = .returned (.int .u32 b) := by rw [h]
theorem fold_take {T : Nat → Nat} {m : Nat} {xs : List UInt8} {k : Nat} (hk : k < xs.length) : fold T m (xs.take (k + 1)) = upd T (fold T m (xs.take k)) (xs.getD k 0).toNat := by
  rw [List.take_succ_eq_append_getElem hk, fold_snoc]
  simp [List.getD, List.getElem?_eq_getElem hk]

set_option maxHeartbeats 1000000 in
theorem sum_any (T : Nat → Nat) (hT : ∀ i, i < 256 → T i < 4294967296) {w : World} {ao : Option Addr} {cap : Nat} {xs : List UInt8} (hr : Reads w (.slice ao xs.length cap) xs) :
    Calls Try.prog 21 #[.agg (row T), .slice ao xs.length cap] w fun e w' => e = .returned (.int .u32 (sumT T xs : Int)) ∧ Below w.heap.size w w' := by
  obtain ⟨h1, ao, cap, he, h2, h3, h4, h5⟩ := hr
  obtain ⟨rfl, -, rfl⟩ := Value.slice.inj he
  obtain ⟨R, hR⟩ : ∃ R, R = row T := ⟨_, rfl⟩
  rw [← hR]
  have HR := Lib.hid hR
  have HT := Lib.hid hT
  have H5 := Lib.hid h5
  clear hR hT h5
  go_enter Try.func21, Try.ntmps21
  go_wp2
  go_loop [5, 10] (fun v i => ∃ k n : Nat, k ≤ xs.length ∧ i = .int .i64 (k : Int) ∧ v = .int .u32 (n : Int) ∧ Hid (n = fold T 4294967295 (xs.take k)) ∧ n < 4294967296) (fun _ i => xs.length - (intOf i).toNat)
  case atStart => exact ⟨0, 4294967295, by omega, rfl, rfl, Lib.hid rfl, by decide⟩
  case round =>
    obtain ⟨k, n, hk, rfl, rfl, hn, hlt⟩ := hrel
    by_cases hk8 : k < xs.length
    · have t1 : decide (k < xs.length) = true := by simpa using hk8
      rcases H5.out with hx | ⟨b, off, rfl, hb, hc⟩
      · simp [hx] at hk8
      have hc' := hc k hk8
      have hx := UInt8.toNat_lt (xs.getD k 0)
      obtain ⟨x, hxx⟩ : ∃ x, x = (xs.getD k 0).toNat := ⟨_, rfl⟩
      rw [← hxx] at hc' hx
      have HX := Lib.hid hxx
      clear hc hxx
      have x1 := xindex x n hx
      have hxl : (n % 256) ^^^ x < 256 := x8 (Nat.mod_lt _ (by decide)) hx
      have hg : R[(n % 256) ^^^ x]? = some (.int .u32 (T ((n % 256) ^^^ x) : Int)) := by rw [HR.out]; exact row_get T _ hxl
      have x2 := xnext (T ((n % 256) ^^^ x)) n (HT.out _ hxl) hlt
      obtain ⟨j, hj⟩ : ∃ j, j = (n % 256) ^^^ x := ⟨_, rfl⟩
      rw [← hj] at x1 x2 hxl hg
      have HJ := Lib.hid hj
      clear hj
      go_wp2
      go_round
      case rel => exact ⟨k + 1, T j ^^^ (n / 256), by omega, by go_num, rfl, Lib.hid (by rw [fold_take hk8, ← hn.out, ← HX.out, HJ.out]; rfl), x32 (HT.out _ hxl) (by omega)⟩
      case measure => simp [intOf]; omega
    · have t1 : decide (k < xs.length) = false := by simpa using hk8
      have x3 := xfin n hlt
      have hsg : IntKind.u32.signed = false := rfl
      go_wp2
      go_ret
      refine ⟨?_, (Below.refl _ _).alloc (Nat.le_refl _) _⟩
      rw [hn.out, List.take_of_length_le (by omega)]
      rfl

theorem xindex2 (x n : Nat) (hx : x < 256) : bits .xor .u32 ((n : Int) % 256) (x : Int) = (((n % 256) ^^^ x : Nat) : Int) := by
  have := u32_xor_nat (n % 256) x (by omega) (by omega)
  simpa using this


set_option maxHeartbeats 1000000 in
theorem plain_any {w : World} {ao : Option Addr} {cap : Nat} {xs : List UInt8} (hr : Reads w (.slice ao xs.length cap) xs) :
    Calls Try.prog 25 #[.slice ao xs.length cap] w fun e w' => e = .returned (.int .u32 (sumT entry xs : Int)) ∧ w = w' := by
  obtain ⟨h1, ao, cap, he, h2, h3, h4, h5⟩ := hr
  obtain ⟨rfl, -, rfl⟩ := Value.slice.inj he
  have H5 := Lib.hid h5
  clear h5
  go_enter Try.func25, Try.ntmps25
  go_wp2
  go_loop [3, 4] (fun v i => ∃ k n : Nat, k ≤ xs.length ∧ i = .int .i64 (k : Int) ∧ v = .int .u32 (n : Int) ∧ Hid (n = fold entry 4294967295 (xs.take k)) ∧ n < 4294967296) (fun _ i => xs.length - (intOf i).toNat)
  case atStart => exact ⟨0, 4294967295, by omega, rfl, rfl, Lib.hid rfl, by decide⟩
  case round =>
    obtain ⟨k, n, hk, rfl, rfl, hn, hlt⟩ := hrel
    by_cases hk8 : k < xs.length
    · have t1 : decide (k < xs.length) = true := by simpa using hk8
      rcases H5.out with hx | ⟨b, off, rfl, hb, hc⟩
      · simp [hx] at hk8
      have hc' := hc k hk8
      have hx := UInt8.toNat_lt (xs.getD k 0)
      obtain ⟨x, hxx⟩ : ∃ x, x = (xs.getD k 0).toNat := ⟨_, rfl⟩
      rw [← hxx] at hc' hx
      have HX := Lib.hid hxx
      clear hc hxx
      have x1 := xindex2 x n hx
      have hxl : (n % 256) ^^^ x < 256 := x8 (Nat.mod_lt _ (by decide)) hx
      have hel := tab_lt _ hxl
      have x2 := xnext (entry ((n % 256) ^^^ x)) n hel hlt
      obtain ⟨j, hj⟩ : ∃ j, j = (n % 256) ^^^ x := ⟨_, rfl⟩
      rw [← hj] at x1 x2 hxl hel
      have HJ := Lib.hid hj
      clear hj
      go_wp2_with fail
      refine (refEntry_any j (by omega) _).mono ?_
      rintro e w1 ⟨rfl, rfl⟩
      go_wp2
      go_round
      case rel => exact ⟨k + 1, entry j ^^^ (n / 256), by omega, by go_num, rfl, Lib.hid (by rw [fold_take hk8, ← hn.out, ← HX.out, HJ.out]; rfl), x32 hel (by omega)⟩
      case measure => simp [intOf]; omega
    · have t1 : decide (k < xs.length) = false := by simpa using hk8
      go_wp2
      go_ret
      refine ⟨ret_u32 ?_, rfl⟩
      have e1 := fin_sub hlt
      have e2 : fin n = sumT entry xs := by rw [hn.out, List.take_of_length_le (by omega)]; rfl
      rw [← e2]
      omega

end Go.Proofs.Ytmjdpmkkcakbdaa.Crc
