/- CrcTurns answers true, and changes nothing that was there. Conditions: the slice's cells are bytes. -/
import Derived.Test.YtmhjepdnagmkpaaCrcLaws
import Derived.RegionTactic
import Derived.ChangeAlike
namespace Go.Proofs.Ytmhjepdnagmkpaa.Crc
open Go.RowKit

/-- The bytes, with the first k of four turned. -/
def turn (xs ys : List UInt8) (n : Nat) : Nat → List UInt8
  | 0 => xs
  | k + 1 => (turn xs ys n k).set (n + k) ((turn xs ys n k).getD (n + k) 0 ^^^ ys.getD k 0)
theorem turn_len (xs ys : List UInt8) (n k : Nat) : (turn xs ys n k).length = xs.length := by
  induction k with
  | zero => rfl
  | succ k ih => simp [turn, ih]
theorem parts4 (xs : List UInt8) (n : Nat) (h : n + 4 ≤ xs.length) : ∃ (p s : List UInt8) (a b c d : UInt8), xs = p ++ [a, b, c, d] ++ s ∧ p.length = n := by
  have h1 : (xs.drop n).length = xs.length - n := by simp
  match hd : xs.drop n, h1 with
  | a :: b :: c :: d :: s, _ =>
    refine ⟨xs.take n, s, a, b, c, d, ?_, by simp; omega⟩
    have := List.take_append_drop n xs
    rw [hd] at this
    simpa using this.symm
  | [], h1 => simp at h1; omega
  | [_], h1 => simp at h1; omega
  | [_, _], h1 => simp at h1; omega
  | [_, _, _], h1 => simp at h1; omega
theorem turn4 (p s : List UInt8) (a b c d y0 y1 y2 y3 : UInt8) :
    turn (p ++ [a, b, c, d] ++ s) [y0, y1, y2, y3] p.length 4 = p ++ [a ^^^ y0, b ^^^ y1, c ^^^ y2, d ^^^ y3] ++ s := by
  simp [turn, List.getD]
theorem xor_self_eq {a y : UInt8} (h : a ^^^ y = a) : y = 0 := by
  have : a ^^^ (a ^^^ y) = a ^^^ a := by rw [h]
  rwa [← UInt8.xor_assoc, UInt8.xor_self, UInt8.zero_xor] at this
theorem turns_ne (xs : List UInt8) (n : Nat) (h : n + 4 ≤ xs.length) (y0 y1 y2 y3 : UInt8) (hy : ([y0, y1, y2, y3] == [0, 0, 0, 0]) = false) :
    sumT entry (turn xs [y0, y1, y2, y3] n 4) ≠ sumT entry xs := by
  obtain ⟨p, s, a, b, c, d, rfl, rfl⟩ := parts4 xs n h
  rw [turn4]
  apply turns
  rintro ⟨h0, h1, h2, h3⟩
  rw [xor_self_eq h0, xor_self_eq h1, xor_self_eq h2, xor_self_eq h3] at hy
  exact absurd hy (by decide)
theorem bs_set (xs : List UInt8) (j : Nat) (y : UInt8) : bs (xs.set j y) = (bs xs).set j (.int .u8 (y.toNat : Int)) := by simp [bs, List.map_set]
theorem bs_xor (x y : UInt8) : bits .xor .u8 (x.toNat : Int) (y.toNat : Int) = ((x ^^^ y).toNat : Int) := by
  rw [u8_xor_nat _ _ (UInt8.toNat_lt x) (UInt8.toNat_lt y), UInt8.toNat_xor]

theorem four_one : ∀ w, (sizeOf 5).run Try.prog w = .ok 1 w := fun _ => by kernel_rfl

theorem eq4 (y0 y1 y2 y3 : UInt8) (q : Bool) (hq : ([y0, y1, y2, y3] == [0, 0, 0, 0]) = q) (w : World) :
    (binOp .eql 30 (.agg #[.int .u8 (y0.toNat : Int), .int .u8 (y1.toNat : Int), .int .u8 (y2.toNat : Int), .int .u8 (y3.toNat : Int)]) (.agg #[.int .u8 0, .int .u8 0, .int .u8 0, .int .u8 0])).run Try.prog w = .ok (.bool q) w := by
  rw [← hq]
  exact run_eql_bytes w 30 5 4 Try.underlying30 Try.underlying5 four_one [y0, y1, y2, y3] [0, 0, 0, 0] rfl rfl

/-- Behind the first call the four bytes still lie in their block. -/
theorem four_cells {w w1 : World} {x0 x1 x2 x3 : Value} {t : TypeId} (b1 : Below (w.alloc (.cells #[x0, x1, x2, x3] t)).heap.size (w.alloc (.cells #[x0, x1, x2, x3] t)) w1) :
    w1.cell? ⟨w.heap.size, 0, none⟩ = some x0 ∧ w1.cell? ⟨w.heap.size, 1, none⟩ = some x1 ∧ w1.cell? ⟨w.heap.size, 2, none⟩ = some x2 ∧ w1.cell? ⟨w.heap.size, 3, none⟩ = some x3 := by
  have h (j : Nat) : w1.cell? ⟨w.heap.size, j, none⟩ = #[x0, x1, x2, x3][j]? := by
    rw [b1.cell (p := ⟨w.heap.size, j, none⟩) (by simp), cell_of_row _ _ _ _ _ _ (heap_alloc_new w _)]
  exact ⟨h 0, h 1, h 2, h 3⟩

theorem four_at {w1 : World} {B k : Nat} {y0 y1 y2 y3 : UInt8} (c0 : w1.cell? ⟨B, 0, none⟩ = some (.int .u8 (y0.toNat : Int))) (c1 : w1.cell? ⟨B, 1, none⟩ = some (.int .u8 (y1.toNat : Int)))
    (c2 : w1.cell? ⟨B, 2, none⟩ = some (.int .u8 (y2.toNat : Int))) (c3 : w1.cell? ⟨B, 3, none⟩ = some (.int .u8 (y3.toNat : Int))) (hk : k < 4) :
    w1.cell? ⟨B, k, none⟩ = some (.int .u8 (([y0, y1, y2, y3].getD k 0).toNat : Int)) := by
  match k, hk with
  | 0, _ => exact c0
  | 1, _ => exact c1
  | 2, _ => exact c2
  | 3, _ => exact c3
theorem own_some {w : World} {base : Nat} {e : TypeId} {v : Value} {n : Nat} {xs : List Value} (h : w.ownsRow base e 1 v n xs) (hn : 0 < n) : ∃ g cap, v = .slice (some ⟨g, 0, none⟩) n cap ∧ base ≤ g ∧ g < w.heap.size := by
  have hl := h.lt
  obtain ⟨_, hcase⟩ := h
  rcases hcase with ⟨rfl, rfl⟩ | ⟨g, cap, cur, rfl, hb, _⟩
  · omega
  · exact ⟨g, cap, rfl, hb, (hl g rfl).2⟩

set_option maxHeartbeats 1000000 in
theorem turns_out (ao : Option Addr) (cap : Nat) (xs : List UInt8) (at_ : Int) (y0 y1 y2 y3 : UInt8) (w : World)
    (hs : 10000 < xs.length ∨ at_ < 0 ∨ (xs.length : Int) - 4 < at_ ∨ ([y0, y1, y2, y3] == [0, 0, 0, 0]) = true) (h63 : xs.length ≤ 9223372036854775807) :
    Calls Try.prog 5 #[.slice ao xs.length cap, .int .i64 at_, .agg #[.int .u8 (y0.toNat : Int), .int .u8 (y1.toNat : Int), .int .u8 (y2.toNat : Int), .int .u8 (y3.toNat : Int)]] w fun e w' => e = .returned (.bool true) ∧ Below w.heap.size w w' := by
  by_cases h1 : 10000 < xs.length
  · have t1 : decide ((10000 : Int) < (xs.length : Int)) = true := by simp; omega
    have t2 : decide (10000 < xs.length) = true := by simpa using h1
    clear hs
    go_enter Try.func5, Try.ntmps5
    go_wp2_with fail
    refine (alive_any _).mono ?_
    rintro e w1 ⟨rfl, b1⟩
    have hb := ((Below.refl _ _).alloc (Nat.le_refl _) _).trans (b1.mono (by simp))
    clear b1
    go_wp2
    go_ret
    exact ⟨rfl, hb⟩
  have t1 : decide ((10000 : Int) < (xs.length : Int)) = false := by simp; omega
  have t2 : decide (10000 < xs.length) = false := by simpa using h1
  by_cases h2 : at_ < 0
  · have t3 : decide (at_ < 0) = true := by simpa using h2
    clear hs
    go_enter Try.func5, Try.ntmps5
    go_wp2_with fail
    refine (alive_any _).mono ?_
    rintro e w1 ⟨rfl, b1⟩
    have hb := ((Below.refl _ _).alloc (Nat.le_refl _) _).trans (b1.mono (by simp))
    clear b1
    go_wp2
    go_ret
    exact ⟨rfl, hb⟩
  have t3 : decide (at_ < 0) = false := by simpa using h2
  by_cases h3 : (xs.length : Int) - 4 < at_
  · have t4 : decide ((xs.length : Int) - 4 < at_) = true := by simpa using h3
    clear hs
    go_enter Try.func5, Try.ntmps5
    go_wp2_with fail
    refine (alive_any _).mono ?_
    rintro e w1 ⟨rfl, b1⟩
    have hb := ((Below.refl _ _).alloc (Nat.le_refl _) _).trans (b1.mono (by simp))
    clear b1
    go_wp2
    go_ret
    exact ⟨rfl, hb⟩
  have t4 : decide ((xs.length : Int) - 4 < at_) = false := by simpa using h3
  have h4 : ([y0, y1, y2, y3] == [0, 0, 0, 0]) = true := by
    rcases hs with h | h | h | h
    · omega
    · omega
    · omega
    · exact h
  have hq := eq4 y0 y1 y2 y3 true h4
  clear hs h4
  go_enter Try.func5, Try.ntmps5
  go_wp2_with fail
  refine (alive_any _).mono ?_
  rintro e w1 ⟨rfl, b1⟩
  have hb := ((Below.refl _ _).alloc (Nat.le_refl _) _).trans (b1.mono (by simp))
  obtain ⟨c0, c1, c2, c3⟩ := four_cells b1
  clear b1
  go_wp2
  go_ret
  exact ⟨rfl, hb⟩

set_option maxHeartbeats 1000000 in
theorem turns_in (ao : Option Addr) (cap : Nat) (xs : List UInt8) (n : Nat) (y0 y1 y2 y3 : UInt8) (w : World) (hr : Reads w (.slice ao xs.length cap) xs)
    (h1 : ¬ 10000 < xs.length) (h3 : n + 4 ≤ xs.length) (h4 : ([y0, y1, y2, y3] == [0, 0, 0, 0]) = false) :
    Calls Try.prog 5 #[.slice ao xs.length cap, .int .i64 (n : Int), .agg #[.int .u8 (y0.toNat : Int), .int .u8 (y1.toNat : Int), .int .u8 (y2.toNat : Int), .int .u8 (y3.toNat : Int)]] w fun e w' => e = .returned (.bool true) ∧ Below w.heap.size w w' := by
  have t1 : decide ((10000 : Int) < (xs.length : Int)) = false := by simp; omega
  have t2 : decide (10000 < xs.length) = false := by simpa using h1
  have t3 : decide ((n : Int) < 0) = false := by simp
  have t4 : decide ((xs.length : Int) - 4 < (n : Int)) = false := by simp; omega
  have hq := eq4 y0 y1 y2 y3 false h4
  have HR := Lib.hid hr
  have H4 := Lib.hid h4
  clear hr h4
  go_enter Try.func5, Try.ntmps5
  go_wp2_with fail
  refine (alive_any _).mono ?_
  rintro e w1 ⟨rfl, b1⟩
  have hb := ((Below.refl _ _).alloc (Nat.le_refl _) _).trans (b1.mono (by simp))
  obtain ⟨c0, c1, c2, c3⟩ := four_cells b1
  have hwz : w.heap.size < w1.heap.size := Nat.lt_of_lt_of_le (by simp) b1.size
  have HR1 := Lib.hid (HR.out.below hb (fun h => HR.out.lies h))
  have HR2 := Lib.hid (HR1.out.below ((Below.refl _ _).alloc (Nat.le_refl _) (.cells #[] 5)) (fun h => HR1.out.lies h))
  have own0 := own_new w1 w1.heap.size (Nat.le_refl _)
  clear b1
  go_wp2_with (at_builtin; refine wpList_append_bytes rfl (.tmp 31) (.tmp 32) rfl w1.heap.size _ [] rfl own0 _ xs rfl HR2.out ?k1 ?k2 ?_)
  case k1 => simp; omega
  case k2 => simp
  intro v2 w2 own2 b2
  obtain ⟨g, cap2, rfl, hg1, hg2⟩ := own_some own2 (by omega)
  have hb2 : Below w1.heap.size w1 w2 := ((Below.refl _ _).alloc (Nat.le_refl _) _).trans b2
  have HY : Hid (∀ k, k < 4 → w1.cell? ⟨w.heap.size, k, none⟩ = some (.int .u8 (([y0, y1, y2, y3].getD k 0).toNat : Int))) := fun k hk => four_at c0 c1 c2 c3 hk
  have HO : Hid (w2.ownsRow w1.heap.size 5 1 (.slice (some ⟨g, 0, none⟩) xs.length cap2) xs.length (bs xs)) := own2
  clear own0 own2 b2 c0 c1 c2 c3
  go_wp2_with fail
  go_loopw [9] (fun i wr => ∃ k : Nat, k ≤ 4 ∧ i = .int .i64 (k : Int) ∧ Hid (wr.ownsRow w1.heap.size 5 1 (.slice (some ⟨g, 0, none⟩) xs.length cap2) xs.length (bs (turn xs [y0, y1, y2, y3] n k))) ∧ Hid (Below w1.heap.size w1 wr)) (fun i _ => 4 - (intOf i).toNat)
  case atStart => exact ⟨0, by omega, rfl, HO, Lib.hid hb2⟩
  case round =>
    obtain ⟨k, hk, rfl, hown, hbel⟩ := hrel
    by_cases hk4 : k < 4
    · have q1 : decide ((k : Int) < 4) = true := by simp; omega
      obtain ⟨x, hx⟩ : ∃ x, x = (turn xs [y0, y1, y2, y3] n k).getD (n + k) 0 := ⟨_, rfl⟩
      obtain ⟨y, hy⟩ : ∃ y, y = [y0, y1, y2, y3].getD k 0 := ⟨_, rfl⟩
      have hcx : wr.cell? ⟨g, n + k, none⟩ = some (.int .u8 (x.toNat : Int)) := by
        rw [hown.out.cellAt (n + k) (by omega), bs_get _ _ (by rw [turn_len]; omega), hx]
      have hfx : wr.frozen? ⟨g, n + k, none⟩ = false := hown.out.frozenAt (n + k)
      have hcy : wr.cell? ⟨w.heap.size, k, none⟩ = some (.int .u8 (y.toNat : Int)) := by
        rw [hbel.out.cell (p := ⟨w.heap.size, k, none⟩) hwz, HY.out k hk4, hy]
      have hxy := bs_xor x y
      have q2 : (0 : Int) ≤ (n : Int) + (k : Int) := by omega
      have q3 : (n : Int) + (k : Int) < (xs.length : Int) := by omega
      have q4 : ((n : Int) + (k : Int)).toNat = n + k := by omega
      have q5 : IntKind.i64.wrap ((n : Int) + (k : Int)) = (n : Int) + (k : Int) := IntWalk.i64_in _ (by omega)
      have q6 : (k : Int) < 4 := by omega
      have HX := Lib.hid hx
      have HYy := Lib.hid hy
      clear hx hy
      go_wp2
      go_region
      go_wp2
      go_roundw
      case rel =>
        refine ⟨k + 1, by omega, by go_num, Lib.hid ?_, Lib.hid ?_⟩
        · have e : turn xs [y0, y1, y2, y3] n (k + 1) = (turn xs [y0, y1, y2, y3] n k).set (n + k) (x ^^^ y) := by rw [HX.out, HYy.out]; rfl
          rw [e, bs_set, UInt8.toNat_xor]
          exact (hown.out.stored (n + k) _).1.drew
        · exact (hbel.out.setCell (p := ⟨g, n + k, none⟩) hg1 _).drew
      case measure => simp [intOf]; omega
    · have q1 : decide ((k : Int) < 4) = false := by simp; omega
      obtain rfl : k = 4 := by omega
      have hsr : Reads wr (.slice (some ⟨g, 0, none⟩) xs.length cap2) (turn xs [y0, y1, y2, y3] n 4) := by
        have h := hown.out
        have hl := turn_len xs [y0, y1, y2, y3] n 4
        exact Reads.own (by rw [hl]; exact h)
      have hne := turns_ne xs n h3 y0 y1 y2 y3 H4.out
      have hl := turn_len xs [y0, y1, y2, y3] n 4
      obtain ⟨zs, hz⟩ : ∃ zs, zs = turn xs [y0, y1, y2, y3] n 4 := ⟨_, rfl⟩
      rw [← hz] at hne hl hsr
      have hne2 : (((sumT entry zs : Nat) : Int) == ((sumT entry xs : Nat) : Int)) = false := by
        rw [beq_eq_false_iff_ne]; omega
      have hne3 : (((sumT entry zs : Nat) : Int) != ((sumT entry xs : Nat) : Int)) = true := by
        rw [bne_iff_ne]; omega
      have HS := Lib.hid hsr
      have HB := Lib.hid (hb.trans (hbel.out.mono (by omega)))
      have HR3 := Lib.hid (HR1.out.below hbel.out (fun h => HR1.out.lies h))
      clear hz hsr hl hne
      go_wp2_with fail
      refine (sum_reads HS.out).mono ?_
      rintro e w4 ⟨rfl, b4⟩
      have HR4 := Lib.hid (HR3.out.below b4 (fun h => HR3.out.lies h))
      go_wp2_with fail
      refine (sum_reads HR4.out).mono ?_
      rintro e w5 ⟨rfl, b5⟩
      have hbz := bt HB.out (bt b4 b5)
      clear b4 b5
      go_wp2
      go_ret
      exact ⟨rfl, hbz⟩

theorem turns_walk (ao : Option Addr) (cap : Nat) (xs : List UInt8) (a : Int) (y0 y1 y2 y3 : UInt8) (w : World) (hr : Reads w (.slice ao xs.length cap) xs) :
    Calls Try.prog 5 #[.slice ao xs.length cap, .int .i64 a, .agg #[.int .u8 (y0.toNat : Int), .int .u8 (y1.toNat : Int), .int .u8 (y2.toNat : Int), .int .u8 (y3.toNat : Int)]] w fun e w' => e = .returned (.bool true) ∧ Below w.heap.size w w' := by
  by_cases hs : 10000 < xs.length ∨ a < 0 ∨ (xs.length : Int) - 4 < a ∨ ([y0, y1, y2, y3] == [0, 0, 0, 0]) = true
  · exact turns_out ao cap xs a y0 y1 y2 y3 w hs hr.1
  · have h1 : ¬ 10000 < xs.length := fun h => hs (.inl h)
    have h2 : ¬ a < 0 := fun h => hs (.inr (.inl h))
    have h3 : ¬ (xs.length : Int) - 4 < a := fun h => hs (.inr (.inr (.inl h)))
    have h4 : ([y0, y1, y2, y3] == [0, 0, 0, 0]) = false := by
      cases h : ([y0, y1, y2, y3] == [0, 0, 0, 0]) with
      | true => exact absurd (.inr (.inr (.inr h))) hs
      | false => rfl
    obtain ⟨n, rfl⟩ := Int.eq_ofNat_of_zero_le (by omega : 0 ≤ a)
    exact turns_in ao cap xs n y0 y1 y2 y3 w hr h1 (by omega) h4
end Go.Proofs.Ytmhjepdnagmkpaa.Crc
