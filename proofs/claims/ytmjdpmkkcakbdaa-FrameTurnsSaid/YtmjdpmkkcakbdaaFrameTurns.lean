/- FrameTurns answers true, and changes nothing that was there. Conditions: the slice's cells are bytes. -/
import Derived.Test.YtmjdpmkkcakbdaaFrameNames
import Derived.Test.YtmjdpmkkcakbdaaTurn
namespace Go.Proofs.Ytmjdpmkkcakbdaa.Frame
open Go.RowKit Num Crc Turn

theorem turned_not {xs : List UInt8} {n : Nat} {y0 y1 y2 y3 : UInt8} (h : n + 4 ≤ (framed xs).length) (hy : ([y0, y1, y2, y3] == [0, 0, 0, 0]) = false) : ¬ IsFrame (turn (framed xs) [y0, y1, y2, y3] n 4) := by
  rintro ⟨c, _, hc⟩
  have h1 := turns_ne (framed xs) n h y0 y1 y2 y3 hy
  rw [hc, sum_framed, sum_framed] at h1
  exact h1 rfl

set_option maxHeartbeats 1000000 in
theorem turns_out (ao : Option Addr) (cap : Nat) (xs : List UInt8) (at_ : Int) (y0 y1 y2 y3 : UInt8) (w : World) (hr : Reads w (.slice ao xs.length cap) xs)
    (hs : 10000 < xs.length ∨ at_ < 0 ∨ ((framed xs).length : Int) - 4 < at_ ∨ ([y0, y1, y2, y3] == [0, 0, 0, 0]) = true) :
    Calls Try.prog 6 #[.slice ao xs.length cap, .int .i64 at_, .agg #[.int .u8 (y0.toNat : Int), .int .u8 (y1.toNat : Int), .int .u8 (y2.toNat : Int), .int .u8 (y3.toNat : Int)]] w fun e w' => e = .returned (.bool true) ∧ Below w.heap.size w w' := by
  have HR := Lib.hid hr
  clear hr
  by_cases h1 : 10000 < xs.length
  · have t1 : decide ((10000 : Int) < (xs.length : Int)) = true := by simp; omega
    have t2 : decide (10000 < xs.length) = true := by simpa using h1
    clear hs
    go_enter Try.func6, Try.ntmps6
    go_wp2_with fail
    refine (alive_any _).mono ?_
    rintro e w1 ⟨rfl, b1⟩
    have hb := ((Below.refl _ _).alloc (Nat.le_refl _) _).trans (b1.mono (by simp))
    clear b1
    go_wp2
    go_ret
    exact ⟨rfl, hb⟩
  have t1 : decide ((10000 : Int) < (xs.length : Int)) = false := by simp; omega
  have t2 : decide (10000 < xs.length) = false := by simpa using h1
  have hxl : xs.length ≤ 16384 := by omega
  have HXl := Lib.hid hxl
  clear hxl
  obtain ⟨FR, hFR⟩ : ∃ l, l = framed xs := ⟨_, rfl⟩
  obtain ⟨n, hn⟩ : ∃ n, n = FR.length := ⟨_, rfl⟩
  have hn20 : n ≤ 20000 := by
    have e1 := framed_len xs
    have e2 := enc_len xs.length
    rw [hn, hFR]; omega
  rw [← hFR, ← hn] at hs
  have HW : Hid (∀ (W : World) (v : Value), Reads W v xs → Calls Try.prog 9 #[v] W fun e w' => ∃ ao cap, e = .returned (.tuple #[.slice ao n cap, .int .i64 0]) ∧ w'.ownsRow W.heap.size 5 1 (.slice ao n cap) n (bs FR) ∧ Below W.heap.size W w') := fun W v h => by
    rw [hn, hFR]; exact wrap_yes h HXl.out
  clear hFR hn
  by_cases h2 : at_ < 0
  · have t3 : decide (at_ < 0) = true := by simpa using h2
    clear hs
    go_enter Try.func6, Try.ntmps6
    go_wp2_with fail
    refine (alive_any _).mono ?_
    rintro e w1 ⟨rfl, b1⟩
    have hb := ((Below.refl _ _).alloc (Nat.le_refl _) _).trans (b1.mono (by simp))
    clear b1
    go_wp2_with fail
    refine (HW.out _ _ (HR.out.keeps hb)).mono ?_
    rintro e w2 ⟨ax, cx, rfl, own2, b2⟩
    have hb2 := bt hb b2
    clear own2 b2 hb
    go_wp2
    go_ret
    exact ⟨rfl, hb2⟩
  have t3 : decide (at_ < 0) = false := by simpa using h2
  by_cases h3 : (n : Int) - 4 < at_
  · have t4 : decide ((n : Int) - 4 < at_) = true := by simpa using h3
    clear hs
    go_enter Try.func6, Try.ntmps6
    go_wp2_with fail
    refine (alive_any _).mono ?_
    rintro e w1 ⟨rfl, b1⟩
    have hb := ((Below.refl _ _).alloc (Nat.le_refl _) _).trans (b1.mono (by simp))
    clear b1
    go_wp2_with fail
    refine (HW.out _ _ (HR.out.keeps hb)).mono ?_
    rintro e w2 ⟨ax, cx, rfl, own2, b2⟩
    have hb2 := bt hb b2
    clear own2 b2 hb
    go_wp2
    go_ret
    exact ⟨rfl, hb2⟩
  have t4 : decide ((n : Int) - 4 < at_) = false := by simpa using h3
  have h4 : ([y0, y1, y2, y3] == [0, 0, 0, 0]) = true := by
    rcases hs with h | h | h | h
    · omega
    · omega
    · omega
    · exact h
  have hq := eq4 y0 y1 y2 y3 true h4
  clear hs h4
  go_enter Try.func6, Try.ntmps6
  go_wp2_with fail
  refine (alive_any _).mono ?_
  rintro e w1 ⟨rfl, b1⟩
  have hb := ((Below.refl _ _).alloc (Nat.le_refl _) _).trans (b1.mono (by simp))
  have hwz : w.heap.size < w1.heap.size := Nat.lt_of_lt_of_le (by simp) b1.size
  obtain ⟨c0, c1, c2, c3⟩ := four_cells b1
  clear b1
  go_wp2_with fail
  refine (HW.out _ _ (HR.out.keeps hb)).mono ?_
  rintro e w2 ⟨ax, cx, rfl, own2, b2⟩
  have hb2 := bt hb b2
  have d0 := (b2.cell (p := ⟨w.heap.size, 0, none⟩) hwz).trans c0
  have d1 := (b2.cell (p := ⟨w.heap.size, 1, none⟩) hwz).trans c1
  have d2 := (b2.cell (p := ⟨w.heap.size, 2, none⟩) hwz).trans c2
  have d3 := (b2.cell (p := ⟨w.heap.size, 3, none⟩) hwz).trans c3
  clear own2 b2 hb c0 c1 c2 c3
  go_wp2
  go_ret
  exact ⟨rfl, hb2⟩

set_option maxHeartbeats 1000000 in
theorem turns_in (ao : Option Addr) (cap : Nat) (xs : List UInt8) (n : Nat) (y0 y1 y2 y3 : UInt8) (w : World) (hr : Reads w (.slice ao xs.length cap) xs)
    (h1 : ¬ 10000 < xs.length) (h3 : n + 4 ≤ (framed xs).length) (h4 : ([y0, y1, y2, y3] == [0, 0, 0, 0]) = false) :
    Calls Try.prog 6 #[.slice ao xs.length cap, .int .i64 (n : Int), .agg #[.int .u8 (y0.toNat : Int), .int .u8 (y1.toNat : Int), .int .u8 (y2.toNat : Int), .int .u8 (y3.toNat : Int)]] w fun e w' => e = .returned (.bool true) ∧ Below w.heap.size w w' := by
  have t1 : decide ((10000 : Int) < (xs.length : Int)) = false := by simp; omega
  have t2 : decide (10000 < xs.length) = false := by simpa using h1
  have t3 : decide ((n : Int) < 0) = false := by simp
  have hxl : xs.length ≤ 16384 := by omega
  have HXl := Lib.hid hxl
  clear hxl
  have hno := turned_not h3 h4
  obtain ⟨FR, hFR⟩ : ∃ l, l = framed xs := ⟨_, rfl⟩
  obtain ⟨N, hN⟩ : ∃ n, n = FR.length := ⟨_, rfl⟩
  have hn20 : N ≤ 20000 := by
    have e1 := framed_len xs
    have e2 := enc_len xs.length
    rw [hN, hFR]; omega
  rw [← hFR] at hno
  rw [← hFR, ← hN] at h3
  have t4 : decide ((N : Int) - 4 < (n : Int)) = false := by simp; omega
  have HW : Hid (∀ (W : World) (v : Value), Reads W v xs → Calls Try.prog 9 #[v] W fun e w' => ∃ ao cap, e = .returned (.tuple #[.slice ao N cap, .int .i64 0]) ∧ w'.ownsRow W.heap.size 5 1 (.slice ao N cap) N (bs FR) ∧ Below W.heap.size W w') := fun W v h => by
    rw [hN, hFR]; exact wrap_yes h HXl.out
  have HN := Lib.hid hN
  clear hFR hN
  have hq := eq4 y0 y1 y2 y3 false h4
  have HNo := Lib.hid hno
  have HR := Lib.hid hr
  clear hr h4 hno
  go_enter Try.func6, Try.ntmps6
  go_wp2_with fail
  refine (alive_any _).mono ?_
  rintro e w1 ⟨rfl, b1⟩
  have hb := ((Below.refl _ _).alloc (Nat.le_refl _) _).trans (b1.mono (by simp))
  obtain ⟨c0, c1, c2, c3⟩ := four_cells b1
  have hwz : w.heap.size < w1.heap.size := Nat.lt_of_lt_of_le (by simp) b1.size
  clear b1
  go_wp2_with fail
  refine (HW.out _ _ (HR.out.keeps hb)).mono ?_
  rintro e w2 ⟨ax, cx, rfl, own2, b2⟩
  obtain ⟨g, cap2, hv, hg1, hg2⟩ := own_some own2 (by omega)
  obtain ⟨rfl, -, rfl⟩ := Value.slice.inj hv
  have HY : Hid (∀ k, k < 4 → w1.cell? ⟨w.heap.size, k, none⟩ = some (.int .u8 (([y0, y1, y2, y3].getD k 0).toNat : Int))) := fun k hk => four_at c0 c1 c2 c3 hk
  have d0 := (b2.cell (p := ⟨w.heap.size, 0, none⟩) hwz).trans c0
  have d1 := (b2.cell (p := ⟨w.heap.size, 1, none⟩) hwz).trans c1
  have d2 := (b2.cell (p := ⟨w.heap.size, 2, none⟩) hwz).trans c2
  have d3 := (b2.cell (p := ⟨w.heap.size, 3, none⟩) hwz).trans c3
  have HO : Hid (w2.ownsRow w1.heap.size 5 1 (.slice (some ⟨g, 0, none⟩) N cx) N (bs FR)) := own2
  clear own2 c0 c1 c2 c3 hv
  go_wp2_with fail
  clear d0 d1 d2 d3
  go_loopw [10] (fun i wr => ∃ k : Nat, k ≤ 4 ∧ i = .int .i64 (k : Int) ∧ Hid (wr.ownsRow w1.heap.size 5 1 (.slice (some ⟨g, 0, none⟩) N cx) N (bs (turn FR [y0, y1, y2, y3] n k))) ∧ Hid (Below w1.heap.size w1 wr)) (fun i _ => 4 - (intOf i).toNat)
  case atStart => exact ⟨0, by omega, rfl, HO, Lib.hid b2⟩
  case round =>
    obtain ⟨k, hk, rfl, hown, hbel⟩ := hrel
    by_cases hk4 : k < 4
    · have q1 : decide ((k : Int) < 4) = true := by simp; omega
      obtain ⟨x, hx⟩ : ∃ x, x = (turn FR [y0, y1, y2, y3] n k).getD (n + k) 0 := ⟨_, rfl⟩
      obtain ⟨y, hy⟩ : ∃ y, y = [y0, y1, y2, y3].getD k 0 := ⟨_, rfl⟩
      have hcx : wr.cell? ⟨g, n + k, none⟩ = some (.int .u8 (x.toNat : Int)) := by
        rw [hown.out.cellAt (n + k) (by omega), bs_get _ _ (by rw [turn_len, ← HN.out]; omega), hx]
      have hfx : wr.frozen? ⟨g, n + k, none⟩ = false := hown.out.frozenAt (n + k)
      have hcy : wr.cell? ⟨w.heap.size, k, none⟩ = some (.int .u8 (y.toNat : Int)) := by
        rw [hbel.out.cell (p := ⟨w.heap.size, k, none⟩) hwz, HY.out k hk4, hy]
      have hxy := bs_xor x y
      have q2 : (0 : Int) ≤ (n : Int) + (k : Int) := by omega
      have q3 : (n : Int) + (k : Int) < (N : Int) := by omega
      have q4 : ((n : Int) + (k : Int)).toNat = n + k := by omega
      have q5 : IntKind.i64.wrap ((n : Int) + (k : Int)) = (n : Int) + (k : Int) := IntWalk.i64_in _ (by omega)
      have q6 : (k : Int) < 4 := by omega
      have HX := Lib.hid hx
      have HYy := Lib.hid hy
      clear hx hy
      go_wp2
      go_region
      go_wp2
      go_roundw
      case rel =>
        refine ⟨k + 1, by omega, by go_num, Lib.hid ?_, Lib.hid ?_⟩
        · have e : turn FR [y0, y1, y2, y3] n (k + 1) = (turn FR [y0, y1, y2, y3] n k).set (n + k) (x ^^^ y) := by rw [HX.out, HYy.out]; rfl
          rw [e, bs_set, UInt8.toNat_xor]
          exact (hown.out.stored (n + k) _).1.drew
        · exact (hbel.out.setCell (p := ⟨g, n + k, none⟩) hg1 _).drew
      case measure => simp [intOf]; omega
    · have q1 : decide ((k : Int) < 4) = false := by simp; omega
      obtain rfl : k = 4 := by omega
      have hsr : Hid (Reads wr (.slice (some ⟨g, 0, none⟩) N cx) (turn FR [y0, y1, y2, y3] n 4)) := by
        have h := hown.out
        have hl := turn_len FR [y0, y1, y2, y3] n 4
        rw [HN.out] at h ⊢
        exact Reads.own (by rw [hl]; exact h)
      have HB := Lib.hid (hb.trans (hbel.out.mono (by omega)))
      go_wp2_with fail
      refine (open_no hsr.out HNo.out).mono ?_
      rintro e w4 ⟨rfl, b4⟩
      have hbz := bt HB.out b4
      clear b4
      go_wp2
      go_ret
      exact ⟨rfl, hbz⟩

theorem turns_walk (ao : Option Addr) (cap : Nat) (xs : List UInt8) (a : Int) (y0 y1 y2 y3 : UInt8) (w : World) (hr : Reads w (.slice ao xs.length cap) xs) :
    Calls Try.prog 6 #[.slice ao xs.length cap, .int .i64 a, .agg #[.int .u8 (y0.toNat : Int), .int .u8 (y1.toNat : Int), .int .u8 (y2.toNat : Int), .int .u8 (y3.toNat : Int)]] w fun e w' => e = .returned (.bool true) ∧ Below w.heap.size w w' := by
  by_cases hs : 10000 < xs.length ∨ a < 0 ∨ ((framed xs).length : Int) - 4 < a ∨ ([y0, y1, y2, y3] == [0, 0, 0, 0]) = true
  · exact turns_out ao cap xs a y0 y1 y2 y3 w hr hs
  · have h1 : ¬ 10000 < xs.length := fun h => hs (.inl h)
    have h2 : ¬ a < 0 := fun h => hs (.inr (.inl h))
    have h3 : ¬ ((framed xs).length : Int) - 4 < a := fun h => hs (.inr (.inr (.inl h)))
    have h4 : ([y0, y1, y2, y3] == [0, 0, 0, 0]) = false := by
      cases h : ([y0, y1, y2, y3] == [0, 0, 0, 0]) with
      | true => exact absurd (.inr (.inr (.inr h))) hs
      | false => rfl
    obtain ⟨n, rfl⟩ := Int.eq_ofNat_of_zero_le (by omega : 0 ≤ a)
    exact turns_in ao cap xs n y0 y1 y2 y3 w hr h1 (by omega) h4
end Go.Proofs.Ytmjdpmkkcakbdaa.Frame
