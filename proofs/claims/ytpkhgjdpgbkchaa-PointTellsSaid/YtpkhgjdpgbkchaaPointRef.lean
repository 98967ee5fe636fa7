/- octavoref04's small functions: what they answer. Conditions: as each says. -/
import Derived.Test.YtpkhgjdpgbkchaaPoint
import Derived.Test.YtpkhgjdpgbkchaaApp
import Derived.IntWalk
namespace Go.Proofs.Ytpkhgjdpgbkchaa.Point
open Go.RowKit Go.WideShapes

theorem refIs_yes (n : Int) (h : IsPt n) (w : World) : Calls Try.prog 22 #[.int .i64 n] w fun e w' => e = .returned (.bool true) ∧ w = w' := by
  obtain ⟨h1, h2, h3⟩ := h
  have q1 : decide (0 ≤ n) = true := by simpa using h1
  have q2 : decide (n ≤ 1114111) = true := by simpa using h2
  by_cases h4 : n < 55296
  · have q3 : decide (n < 55296) = true := by simpa using h4
    go_enter Try.func22, Try.ntmps22
    go_wp2
    go_ret
    exact ⟨rfl, rfl⟩
  · have q3 : decide (n < 55296) = false := by simpa using h4
    have q4 : decide (57343 < n) = true := by simp; omega
    go_enter Try.func22, Try.ntmps22
    go_wp2
    go_ret
    exact ⟨rfl, rfl⟩
theorem refIs_no (n : Int) (h : ¬ IsPt n) (w : World) : Calls Try.prog 22 #[.int .i64 n] w fun e w' => e = .returned (.bool false) ∧ w = w' := by
  rw [isPt_iff] at h
  by_cases h1 : 0 ≤ n
  · have q1 : decide (0 ≤ n) = true := by simpa using h1
    by_cases h2 : n ≤ 1114111
    · have q2 : decide (n ≤ 1114111) = true := by simpa using h2
      have q3 : decide (n < 55296) = false := by simp; omega
      have q4 : decide (57343 < n) = false := by simp; omega
      clear h
      go_enter Try.func22, Try.ntmps22
      go_wp2
      go_ret
      exact ⟨rfl, rfl⟩
    · have q2 : decide (n ≤ 1114111) = false := by simpa using h2
      clear h
      go_enter Try.func22, Try.ntmps22
      go_wp2
      go_ret
      exact ⟨rfl, rfl⟩
  · have q1 : decide (0 ≤ n) = false := by simpa using h1
    clear h
    go_enter Try.func22, Try.ntmps22
    go_wp2
    go_ret
    exact ⟨rfl, rfl⟩

theorem refCheck_any (n : Int) (w : World) : Calls Try.prog 17 #[.int .i64 n] w fun e w' => e = .returned (.int .i64 (ck n)) ∧ w = w' := by
  by_cases h : IsPt n
  · rw [show ck n = 0 from if_pos h]
    go_enter Try.func17, Try.ntmps17
    go_wp2_with fail
    refine (refIs_yes n h _).mono ?_
    rintro e w' ⟨rfl, rfl⟩
    go_wp2
    go_ret
    exact ⟨rfl, rfl⟩
  · rw [show ck n = 40 from if_neg h]
    go_enter Try.func17, Try.ntmps17
    go_wp2_with fail
    refine (refIs_no n h _).mono ?_
    rintro e w' ⟨rfl, rfl⟩
    go_wp2
    go_ret
    exact ⟨rfl, rfl⟩

/-- A number without its lowest digits to the base of 64. -/
def cut64 : Nat → Nat → Nat
  | 0, n => n
  | j + 1, n => cut64 j n / 64
theorem cut64_le (j n : Nat) : cut64 j n ≤ n := by
  induction j with
  | zero => exact Nat.le_refl _
  | succ j ih => have : cut64 (j + 1) n = cut64 j n / 64 := rfl; omega

theorem six_any (n k : Nat) (hn : n ≤ 1114111) (hk : k ≤ 3) (w : World) :
    Calls Try.prog 27 #[.int .i64 (n : Int), .int .i64 (k : Int)] w fun e w' => e = .returned (.int .u8 ((128 + cut64 k n % 64 : Nat) : Int)) ∧ w = w' := by
  go_enter Try.func27, Try.ntmps27
  go_wp2
  go_loop [0, 5] (fun x i => ∃ (j m : Nat), j ≤ k ∧ i = .int .i64 (j : Int) ∧ m ≤ 1114111 ∧ x = .int .i64 (m : Int) ∧ Hid (m = cut64 j n)) (fun _ i => k - (intOf i).toNat)
  case atStart => exact ⟨0, n, by omega, rfl, hn, rfl, Lib.hid rfl⟩
  case round =>
    obtain ⟨j, m, hj, rfl, hm, rfl, hx⟩ := hrel
    by_cases hjk : j < k
    · have q1 : decide (j < k) = true := by simpa using hjk
      have q2 : (0 : Int) ≤ (m : Int) := by omega
      go_wp2
      go_round
      case rel =>
        refine ⟨j + 1, m / 64, by omega, by go_num, by omega, by go_num, Lib.hid ?_⟩
        show m / 64 = cut64 j n / 64
        rw [hx.out]
      case measure => simp [intOf]; omega
    · obtain rfl : j = k := by omega
      have q1 : decide (j < j) = false := by simp
      have q2 : (0 : Int) ≤ (m : Int) := by omega
      go_wp2
      go_ret
      refine ⟨?_, rfl⟩
      rw [← hx.out]
      rfl

theorem bs_one' (n : Nat) (h : n < 256) : bs [n.toUInt8] = [.int .u8 (n : Int)] := bs_one n h
theorem toU8 {z : Int} {n : Nat} (h : z = (n : Int)) : z.toNat.toUInt8 = n.toUInt8 := by rw [h]; rfl
/-- A code point's bytes as cells. -/
def encCells (n : Nat) : List Value :=
  if n < 128 then [.int .u8 (n : Int)]
  else if n < 2048 then [.int .u8 ((192 + n / 64 : Nat) : Int), .int .u8 ((128 + n % 64 : Nat) : Int)]
  else if n < 65536 then [.int .u8 ((224 + n / 4096 : Nat) : Int), .int .u8 ((128 + n / 64 % 64 : Nat) : Int), .int .u8 ((128 + n % 64 : Nat) : Int)]
  else [.int .u8 ((240 + n / 262144 : Nat) : Int), .int .u8 ((128 + n / 4096 % 64 : Nat) : Int), .int .u8 ((128 + n / 64 % 64 : Nat) : Int), .int .u8 ((128 + n % 64 : Nat) : Int)]
theorem bs_enc (n : Nat) (h : IsPt (n : Int)) : bs (enc (n : Int)) = encCells n := by
  have h' := h
  obtain ⟨h0, h1, h2⟩ := h
  have hr : bs (enc (n : Int)) = Lib.runeCells (n : Int) := Lib.byteCells_encodeRune (n : Int)
  rw [hr]
  unfold encCells Lib.runeCells
  by_cases c1 : n < 128
  · rw [if_pos c1, Lib.encodeRuneZ_one (by omega) (by omega)]; rfl
  · rw [if_neg c1]
    by_cases c2 : n < 2048
    · rw [if_pos c2, Lib.encodeRuneZ_two (by omega) (by omega)]
      simp
    · rw [if_neg c2]
      by_cases c3 : n < 65536
      · rw [if_pos c3, Lib.encodeRuneZ_three (by omega)]
        simp
      · rw [if_neg c3, Lib.encodeRuneZ_four (by omega) (by omega)]
        simp
theorem cut_two (n : Nat) : cut64 2 n = n / 4096 := by show n / 64 / 64 = _; omega
theorem cut_one (n : Nat) : cut64 1 n = n / 64 := rfl
theorem cut_zero (n : Nat) : cut64 0 n = n := rfl

set_option maxHeartbeats 1000000 in
theorem bytes_any (n : Nat) (h : IsPt (n : Int)) (w : World) :
    Calls Try.prog 23 #[.int .i64 (n : Int)] w fun e w' => ∃ v, e = .returned v ∧ Reads w' v (enc (n : Int)) ∧ Below w.heap.size w w' := by
  have hb := bs_enc n h
  have hl := enc_len (n : Int)
  have hn : n ≤ 1114111 := by have := h.2.1; omega
  have fin : ∀ m : Nat, encCells n = (bs (enc (n : Int))) → (enc (n : Int)).length = m → Reads (w.alloc (.cells (encCells n).toArray 5)) (.slice (some ⟨w.heap.size, 0, none⟩) m m) (enc (n : Int)) := by
    rintro m h1 rfl
    rw [h1]
    exact reads_new w _ (by omega) _
  have hel : (enc (n : Int)).length = (encCells n).length := by rw [← hb, bs_len]
  have q0 : (0 : Int) ≤ (n : Int) := by omega
  by_cases c1 : n < 128
  · have e : encCells n = [.int .u8 (n : Int)] := if_pos c1
    have F := Lib.hid (fin 1 hb.symm (by rw [hel, e]; rfl))
    rw [e] at F
    have t1 : decide ((n : Int) < 128) = true := by simp; omega
    have t2 : decide (n < 128) = true := by simpa using c1
    have t3 : (n : Int) < 128 := by omega
    clear hb hl fin hel e h
    go_enter Try.func23, Try.ntmps23
    go_wp2
    go_ret
    exact ⟨_, rfl, F.out, (Below.refl _ _).alloc (Nat.le_refl _) _⟩
  · have t1 : decide ((n : Int) < 128) = false := by simp; omega
    have t2 : decide (n < 128) = false := by simpa using c1
    by_cases c2 : n < 2048
    · have e : encCells n = [.int .u8 ((192 + n / 64 : Nat) : Int), .int .u8 ((128 + n % 64 : Nat) : Int)] := by unfold encCells; rw [if_neg c1, if_pos c2]
      have F := Lib.hid (fin 2 hb.symm (by rw [hel, e]; rfl))
      rw [e] at F
      have t3 : decide ((n : Int) < 2048) = true := by simp; omega
      have t4 : decide (n < 2048) = true := by simpa using c2
      have t5 : (n : Int) < 2048 := by omega
      clear hb hl fin hel e h
      go_enter Try.func23, Try.ntmps23
      go_wp2_with fail
      refine (six_any n 0 hn (by omega) _).mono ?_
      rintro e w' ⟨rfl, rfl⟩
      go_wp2
      go_ret
      exact ⟨_, rfl, by simpa [cut_zero] using F.out, (Below.refl _ _).alloc (Nat.le_refl _) _⟩
    · have t3 : decide ((n : Int) < 2048) = false := by simp; omega
      have t4 : decide (n < 2048) = false := by simpa using c2
      by_cases c3 : n < 65536
      · have e : encCells n = [.int .u8 ((224 + n / 4096 : Nat) : Int), .int .u8 ((128 + n / 64 % 64 : Nat) : Int), .int .u8 ((128 + n % 64 : Nat) : Int)] := by unfold encCells; rw [if_neg c1, if_neg c2, if_pos c3]
        have F := Lib.hid (fin 3 hb.symm (by rw [hel, e]; rfl))
        rw [e] at F
        have t5 : decide ((n : Int) < 65536) = true := by simp; omega
        have t6 : decide (n < 65536) = true := by simpa using c3
        have t7 : (n : Int) < 65536 := by omega
        clear hb hl fin hel e h
        go_enter Try.func23, Try.ntmps23
        go_wp2_with fail
        refine (six_any n 1 hn (by omega) _).mono ?_
        rintro e w' ⟨rfl, rfl⟩
        go_wp2_with fail
        refine (six_any n 0 hn (by omega) _).mono ?_
        rintro e w' ⟨rfl, rfl⟩
        go_wp2
        go_ret
        exact ⟨_, rfl, by simpa [cut_one, cut_zero] using F.out, (Below.refl _ _).alloc (Nat.le_refl _) _⟩
      · have e : encCells n = [.int .u8 ((240 + n / 262144 : Nat) : Int), .int .u8 ((128 + n / 4096 % 64 : Nat) : Int), .int .u8 ((128 + n / 64 % 64 : Nat) : Int), .int .u8 ((128 + n % 64 : Nat) : Int)] := by unfold encCells; rw [if_neg c1, if_neg c2, if_neg c3]
        have F := Lib.hid (fin 4 hb.symm (by rw [hel, e]; rfl))
        rw [e] at F
        have t5 : decide ((n : Int) < 65536) = false := by simp; omega
        have t6 : decide (n < 65536) = false := by simpa using c3
        have t7 : (n : Int) ≤ 1114111 := by omega
        clear hb hl fin hel e h
        go_enter Try.func23, Try.ntmps23
        go_wp2_with fail
        refine (six_any n 2 hn (by omega) _).mono ?_
        rintro e w' ⟨rfl, rfl⟩
        go_wp2_with fail
        refine (six_any n 1 hn (by omega) _).mono ?_
        rintro e w' ⟨rfl, rfl⟩
        go_wp2_with fail
        refine (six_any n 0 hn (by omega) _).mono ?_
        rintro e w' ⟨rfl, rfl⟩
        go_wp2
        go_ret
        exact ⟨_, rfl, by simpa [cut_one, cut_two, cut_zero] using F.out, (Below.refl _ _).alloc (Nat.le_refl _) _⟩
end Go.Proofs.Ytpkhgjdpgbkchaa.Point
