/- Four bytes that are turned: as lists, as cells, as an argument. Conditions: none. -/
import Derived.Test.YtmjdpmkkcakbdaaCrcSum
import Derived.Test.YtmjdpmkkcakbdaaApp
import Derived.Stop.BytesEq
import Derived.RegionTactic
import Derived.ChangeAlike
import Derived.Deep.QuietTactic
import Derived.BigQuiet
namespace Go.Proofs.Ytmjdpmkkcakbdaa.Turn
open Go.RowKit Crc

/-- The bytes, with the first k of four turned. -/
def turn (xs ys : List UInt8) (n : Nat) : Nat → List UInt8
  | 0 => xs
  | k + 1 => (turn xs ys n k).set (n + k) ((turn xs ys n k).getD (n + k) 0 ^^^ ys.getD k 0)
theorem turn_len (xs ys : List UInt8) (n k : Nat) : (turn xs ys n k).length = xs.length := by
  induction k with
  | zero => rfl
  | succ k ih => simp [turn, ih]
theorem parts4 (xs : List UInt8) (n : Nat) (h : n + 4 ≤ xs.length) : ∃ (p s : List UInt8) (a b c d : UInt8), xs = p ++ [a, b, c, d] ++ s ∧ p.length = n := by
  have h1 : (xs.drop n).length = xs.length - n := by simp
  match hd : xs.drop n, h1 with
  | a :: b :: c :: d :: s, _ =>
    refine ⟨xs.take n, s, a, b, c, d, ?_, by simp; omega⟩
    have := List.take_append_drop n xs
    rw [hd] at this
    simpa using this.symm
  | [], h1 => simp at h1; omega
  | [_], h1 => simp at h1; omega
  | [_, _], h1 => simp at h1; omega
  | [_, _, _], h1 => simp at h1; omega
theorem turn4 (p s : List UInt8) (a b c d y0 y1 y2 y3 : UInt8) :
    turn (p ++ [a, b, c, d] ++ s) [y0, y1, y2, y3] p.length 4 = p ++ [a ^^^ y0, b ^^^ y1, c ^^^ y2, d ^^^ y3] ++ s := by
  simp [turn, List.getD]
theorem xor_self_eq {a y : UInt8} (h : a ^^^ y = a) : y = 0 := by
  have : a ^^^ (a ^^^ y) = a ^^^ a := by rw [h]
  rwa [← UInt8.xor_assoc, UInt8.xor_self, UInt8.zero_xor] at this
theorem turns_ne (xs : List UInt8) (n : Nat) (h : n + 4 ≤ xs.length) (y0 y1 y2 y3 : UInt8) (hy : ([y0, y1, y2, y3] == [0, 0, 0, 0]) = false) :
    sumT entry (turn xs [y0, y1, y2, y3] n 4) ≠ sumT entry xs := by
  obtain ⟨p, s, a, b, c, d, rfl, rfl⟩ := parts4 xs n h
  rw [turn4]
  apply turns
  rintro ⟨h0, h1, h2, h3⟩
  rw [xor_self_eq h0, xor_self_eq h1, xor_self_eq h2, xor_self_eq h3] at hy
  exact absurd hy (by decide)
theorem bs_set (xs : List UInt8) (j : Nat) (y : UInt8) : bs (xs.set j y) = (bs xs).set j (.int .u8 (y.toNat : Int)) := by simp [bs, List.map_set]
theorem bs_xor (x y : UInt8) : bits .xor .u8 (x.toNat : Int) (y.toNat : Int) = ((x ^^^ y).toNat : Int) := by
  rw [u8_xor_nat _ _ (UInt8.toNat_lt x) (UInt8.toNat_lt y), UInt8.toNat_xor]

theorem four_one : ∀ w, (sizeOf 5).run Try.prog w = .ok 1 w := fun _ => by kernel_rfl

theorem eq4 (y0 y1 y2 y3 : UInt8) (q : Bool) (hq : ([y0, y1, y2, y3] == [0, 0, 0, 0]) = q) (w : World) :
    (binOp .eql 31 (.agg #[.int .u8 (y0.toNat : Int), .int .u8 (y1.toNat : Int), .int .u8 (y2.toNat : Int), .int .u8 (y3.toNat : Int)]) (.agg #[.int .u8 0, .int .u8 0, .int .u8 0, .int .u8 0])).run Try.prog w = .ok (.bool q) w := by
  rw [← hq]
  exact run_eql_bytes w 31 5 4 Try.underlying31 Try.underlying5 four_one [y0, y1, y2, y3] [0, 0, 0, 0] rfl rfl

/-- Behind the first call the four bytes still lie in their block. -/
theorem four_cells {w w1 : World} {x0 x1 x2 x3 : Value} {t : TypeId} (b1 : Below (w.alloc (.cells #[x0, x1, x2, x3] t)).heap.size (w.alloc (.cells #[x0, x1, x2, x3] t)) w1) :
    w1.cell? ⟨w.heap.size, 0, none⟩ = some x0 ∧ w1.cell? ⟨w.heap.size, 1, none⟩ = some x1 ∧ w1.cell? ⟨w.heap.size, 2, none⟩ = some x2 ∧ w1.cell? ⟨w.heap.size, 3, none⟩ = some x3 := by
  have h (j : Nat) : w1.cell? ⟨w.heap.size, j, none⟩ = #[x0, x1, x2, x3][j]? := by
    rw [b1.cell (p := ⟨w.heap.size, j, none⟩) (by simp), cell_of_row _ _ _ _ _ _ (heap_alloc_new w _)]
  exact ⟨h 0, h 1, h 2, h 3⟩

theorem four_at {w1 : World} {B k : Nat} {y0 y1 y2 y3 : UInt8} (c0 : w1.cell? ⟨B, 0, none⟩ = some (.int .u8 (y0.toNat : Int))) (c1 : w1.cell? ⟨B, 1, none⟩ = some (.int .u8 (y1.toNat : Int)))
    (c2 : w1.cell? ⟨B, 2, none⟩ = some (.int .u8 (y2.toNat : Int))) (c3 : w1.cell? ⟨B, 3, none⟩ = some (.int .u8 (y3.toNat : Int))) (hk : k < 4) :
    w1.cell? ⟨B, k, none⟩ = some (.int .u8 (([y0, y1, y2, y3].getD k 0).toNat : Int)) := by
  match k, hk with
  | 0, _ => exact c0
  | 1, _ => exact c1
  | 2, _ => exact c2
  | 3, _ => exact c3
theorem own_some {w : World} {base : Nat} {e : TypeId} {v : Value} {n : Nat} {xs : List Value} (h : w.ownsRow base e 1 v n xs) (hn : 0 < n) : ∃ g cap, v = .slice (some ⟨g, 0, none⟩) n cap ∧ base ≤ g ∧ g < w.heap.size := by
  have hl := h.lt
  obtain ⟨_, hcase⟩ := h
  rcases hcase with ⟨rfl, rfl⟩ | ⟨g, cap, cur, rfl, hb, _⟩
  · omega
  · exact ⟨g, cap, rfl, hb, (hl g rfl).2⟩

end Go.Proofs.Ytmjdpmkkcakbdaa.Turn
