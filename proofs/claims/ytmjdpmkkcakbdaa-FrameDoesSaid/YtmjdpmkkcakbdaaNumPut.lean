/- num.Put, and the document's own Put and Bytes, answer a number's bytes as Num.enc says, in memory of their own. Conditions: none; outside of 0 to 2^40 they refuse. -/
import Derived.Test.YtmjdpmkkcakbdaaBytes
import Derived.Test.YtmjdpmkkcakbdaaNumMath
import Derived.Deep.LoopGhost
namespace Go.Proofs.Ytmjdpmkkcakbdaa.Num
open Go.RowKit

theorem info_u8 : (Try.prog.info? 5).map (fun i => (i.zero, i.size, i.bytes)) = some (some (.int .u8 0), 1, 1) := by kernel_rfl

/-- The rest of the bytes, as the loop stands. -/
theorem step_lt (m f : Nat) (hm : m < 128 ^ (f + 1)) (h : 128 ≤ m) : ∃ g, f = g + 1 ∧ m / 128 < 128 ^ (g + 1) := by
  cases f with
  | zero => simp at hm; omega
  | succ g => exact ⟨g, rfl, by rw [Nat.pow_succ] at hm; omega⟩

theorem put_no (n : Int) (h : n < 0 ∨ 1099511627776 < n) (w : World) :
    Calls Try.prog 13 #[.int .i64 n] w fun e w' => e = .returned (.tuple #[.slice none 0 0, .int .i64 2]) ∧ w = w' := by
  rcases h with h | h
  · have t1 : decide (n < 0) = true := by simpa using h
    go_enter Try.func13, Try.ntmps13
    go_wp2
    go_ret2
    exact ⟨rfl, rfl⟩
  · have t1 : decide (n < 0) = false := by simp; omega
    have t2 : decide (1099511627776 < n) = true := by simpa using h
    go_enter Try.func13, Try.ntmps13
    go_wp2
    go_ret2
    exact ⟨rfl, rfl⟩

set_option maxHeartbeats 400000 in
theorem put_yes (n : Nat) (h : n ≤ most) (w : World) :
    Calls Try.prog 13 #[.int .i64 (n : Int)] w fun e w' => ∃ v, e = .returned (.tuple #[v, .int .i64 0]) ∧ w'.ownsRow w.heap.size 5 1 v (enc n).length (bs (enc n)) ∧ Below w.heap.size w w' := by
  have hn : (n : Int) ≤ 1099511627776 := by unfold most at h; omega
  have t1 : decide ((n : Int) < 0) = false := by simp
  have t2 : decide (1099511627776 < (n : Int)) = false := by simp; omega
  have h0 := Nat.lt_of_le_of_lt h most_lt
  obtain ⟨i0, hi, hz0, hz1, hz2⟩ := info_parts info_u8
  obtain ⟨B, hB⟩ : ∃ B, B = w.heap.size := ⟨_, rfl⟩
  rw [← hB]
  have HB := Lib.hid hB
  clear hB h
  go_enter Try.func13, Try.ntmps13
  go_wp2
  go_loopw [0, 4] (fun m v wr => ∃ (f k : Nat) (acc : List UInt8), m = .int .i64 (k : Int) ∧ k ≤ 1099511627776 ∧ k < 128 ^ (f + 1) ∧ f ≤ 5 ∧ acc.length + f ≤ 5 ∧ acc ++ encF f k = enc n ∧ wr.ownsRow B 5 1 v acc.length (bs acc) ∧ Below B w wr) (fun m _ _ => (intOf m).toNat)
  case atStart => exact ⟨5, n, [], rfl, by omega, h0, by omega, by simp, rfl, World.ownsRow_nil _ _ _ _, Below.refl _ _⟩
  case round =>
    obtain ⟨f, k, acc, rfl, hk, hkf, hf5, hacc, henc, hown, hbel⟩ := hrel
    have HE := Lib.hid henc
    clear henc
    by_cases hbig : 128 ≤ k
    · have t3 : decide ((128 : Int) ≤ (k : Int)) = true := by simp; omega
      go_wp2_with (at_builtin; refine wpList_append_own _ rfl _ _ 23 rfl B 5 i0 (.int .u8 0) 1 1 Try.underlying23 hi hz0 hz1 hz2 rfl (by decide) _ _ _ rfl (hown.alloc _) ⟨wr.heap.size, 0, none⟩ 1 1 [.int .u8 ((k : Int) % 128 + 128)] rfl rfl ?c1 ?c2 ?c3 ?c4 ?c5 ?_)
      case c1 =>
        intro j u hj
        match j, hj with
        | 0, hj => simp at hj; subst hj; simp [Addr.add]
      case c2 => intro u hu; simp at hu; subst hu; rfl
      case c3 => unfold maxLen; omega
      case c4 => omega
      case c5 => have := hbel.size; have := HB.out; simp; omega
      intro v' w1 hown' hgrow _
      obtain ⟨g, rfl, hk2⟩ := step_lt k f hkf hbig
      have e1 : acc ++ [UInt8.ofNat (k % 128 + 128)] ++ encF g (k / 128) = enc n := by
        rw [← HE.out, encF_big g k (by omega), List.append_assoc]; rfl
      have e2 : bs (acc ++ [UInt8.ofNat (k % 128 + 128)]) = bs acc ++ [.int .u8 ((k : Int) % 128 + 128)] := by
        rw [bs_append, bs_one _ (by omega)]
        rfl
      have e3 : Below B w w1 := (hbel.alloc (by have := hbel.size; have := HB.out; omega) _).grown hgrow (by have := hbel.size; have := HB.out; simp; omega) (fun j hj => (hown.lt j hj).1)
      have E1 := Lib.hid e1
      have E2 := Lib.hid e2
      clear e1 e2 hown hgrow hbel HE
      go_wp2
      go_roundw
      case rel => exact ⟨g, k / 128, acc ++ [UInt8.ofNat (k % 128 + 128)], by go_num, by omega, hk2, by omega, by simp; omega, E1.out, by rw [E2.out]; simpa using hown', e3⟩
      case measure => simp [intOf]; omega
    · have t3 : decide ((128 : Int) ≤ (k : Int)) = false := by simp; omega
      go_wp2_with (at_builtin; refine wpList_append_own _ rfl _ _ 23 rfl B 5 i0 (.int .u8 0) 1 1 Try.underlying23 hi hz0 hz1 hz2 rfl (by decide) _ _ _ rfl (hown.alloc _) ⟨wr.heap.size, 0, none⟩ 1 1 [.int .u8 (k : Int)] rfl rfl ?d1 ?d2 ?d3 ?d4 ?d5 ?_)
      case d1 =>
        intro j u hj
        match j, hj with
        | 0, hj => simp at hj; subst hj; simp [Addr.add]
      case d2 => intro u hu; simp at hu; subst hu; rfl
      case d3 => unfold maxLen; omega
      case d4 => omega
      case d5 => have := hbel.size; have := HB.out; simp; omega
      intro v' w1 hown' hgrow _
      have e1 : enc n = acc ++ [UInt8.ofNat k] := by
        rw [← HE.out, encF_small f k (by omega)]
      have e2 : bs (acc ++ [UInt8.ofNat k]) = bs acc ++ [.int .u8 (k : Int)] := by
        rw [bs_append, bs_one _ (by omega)]
      have e3 : Below B w w1 := (hbel.alloc (by have := hbel.size; have := HB.out; omega) _).grown hgrow (by have := hbel.size; have := HB.out; simp; omega) (fun j hj => (hown.lt j hj).1)
      have E1 := Lib.hid e1
      have E2 := Lib.hid e2
      clear e1 e2 hown hgrow hbel HE
      go_wp2
      go_ret2
      exact ⟨_, rfl, by rw [E1.out, E2.out]; simpa using hown', e3⟩
end Go.Proofs.Ytmjdpmkkcakbdaa.Num
