/- Slices of bytes: what a slice value reads as, in a world; rows that a call has made. Conditions: none. -/
import Derived.Test.YtgeeaipdihlmhaaChecked
import Derived.WalkKit
import Derived.WalkSpells
import Derived.WalkLawsBesides
import Derived.Laws.BytesArg
import Derived.Lib.Hide
namespace Go.Proofs.Ytgeeaipdihlmhaa
open Go.RowKit

/-- Bytes as cells. -/
def bs (l : List UInt8) : List Value := l.map fun x => .int .u8 (x.toNat : Int)
theorem bs_len (l : List UInt8) : (bs l).length = l.length := by simp [bs]
theorem bs_append (l m : List UInt8) : bs (l ++ m) = bs l ++ bs m := by simp [bs]
theorem bs_one (n : Nat) (h : n < 256) : bs [UInt8.ofNat n] = [.int .u8 (n : Int)] := by simp [bs]; omega
theorem bs_oneCell (l : List UInt8) : ∀ u ∈ bs l, u.oneCell' = true := by
  intro u hu
  simp only [bs, List.mem_map] at hu
  obtain ⟨x, _, rfl⟩ := hu
  rfl
theorem bs_get (l : List UInt8) (j : Nat) (h : j < l.length) : (bs l)[j]? = some (.int .u8 ((l.getD j 0).toNat : Int)) := by
  simp [bs, List.getD, List.getElem?_eq_getElem h]

/-- In the world w the slice value v reads as the bytes xs. -/
def Reads (w : World) (v : Value) (xs : List UInt8) : Prop :=
  xs.length ≤ 9223372036854775807 ∧ ∃ ao cap, v = .slice ao xs.length cap ∧ xs.length ≤ cap ∧ cap ≤ 9223372036854775807 ∧ (ao = none → cap = 0) ∧
    (xs = [] ∨ ∃ b off, ao = some ⟨b, off, none⟩ ∧ b < w.heap.size ∧ ∀ j, j < xs.length → w.cell? ⟨b, off + j, none⟩ = some (.int .u8 ((xs.getD j 0).toNat : Int)))

theorem Reads.nil (w : World) : Reads w (.slice none 0 0) [] := ⟨by simp, none, 0, rfl, by simp, by simp, fun _ => rfl, .inl rfl⟩

/-- What lies below a number of blocks stays read, where these blocks stay. -/
def Lies (B : Nat) (v : Value) : Prop := ∀ b, v.ownBlock = some b → b < B

theorem Reads.lies {w : World} {v : Value} {xs : List UInt8} (h : Reads w v xs) (hne : xs ≠ []) : Lies w.heap.size v := by
  obtain ⟨_, ao, cap, rfl, _, _, _, h | ⟨b, off, rfl, hb, _⟩⟩ := h
  · exact absurd h hne
  · intro k hk; simp [Value.ownBlock] at hk; omega

theorem Reads.below {w w' : World} {v : Value} {xs : List UInt8} {B : Nat} (h : Reads w v xs) (hb : Below B w w') (hl : xs ≠ [] → Lies B v) : Reads w' v xs := by
  obtain ⟨h1, ao, cap, rfl, h2, h3, h4, h5⟩ := h
  refine ⟨h1, ao, cap, rfl, h2, h3, h4, ?_⟩
  rcases h5 with h5 | ⟨b, off, rfl, hlt, hc⟩
  · exact .inl h5
  · by_cases hx : xs = []
    · exact .inl hx
    · have hB : b < B := hl hx b rfl
      exact .inr ⟨b, off, rfl, Nat.lt_of_lt_of_le hlt hb.size, fun j hj => (hb.cell (p := ⟨b, off + j, none⟩) hB).trans (hc j hj)⟩

/-- A row of the call's own reads as its bytes. -/
theorem Reads.own {w : World} {base : Nat} {e : TypeId} {v : Value} {xs : List UInt8} (h : w.ownsRow base e 1 v xs.length (bs xs)) : Reads w v xs := by
  have hk := h
  obtain ⟨_, hcase⟩ := h
  rcases hcase with ⟨rfl, h0⟩ | ⟨g, cap, cur, rfl, hg, hh, hn, hcap, hsz, htake⟩
  · have : xs = [] := List.length_eq_zero_iff.1 h0
    subst this
    exact Reads.nil w
  · unfold maxLen at hcap
    refine ⟨by omega, some ⟨g, 0, none⟩, cap, rfl, hn, hcap, by simp, .inr ⟨g, 0, rfl, (Array.getElem?_eq_some_iff.1 hh).1, fun j hj => ?_⟩⟩
    rw [Nat.zero_add, hk.cellAt j (by rw [Nat.mul_one]; omega)]
    exact bs_get xs j hj

/-- A beginning of a row that the call owns. -/
theorem Reads.take {w : World} {ao : Option Addr} {cap k : Nat} {xs : List UInt8} (h : Reads w (.slice ao xs.length cap) xs) (hk : k ≤ xs.length) : Reads w (.slice ao k cap) (xs.take k) := by
  obtain ⟨h1, ao', cap', he, h2, h3, h4, h5⟩ := h
  simp only [Value.slice.injEq, true_and] at he
  obtain ⟨rfl, rfl⟩ := he
  have hl : (xs.take k).length = k := by simp; omega
  refine ⟨by omega, ao, cap, by rw [hl], by omega, h3, h4, ?_⟩
  rcases h5 with rfl | ⟨b, off, rfl, hlt, hc⟩
  · left; simp
  · right
    refine ⟨b, off, rfl, hlt, fun j hj => ?_⟩
    rw [hl] at hj
    rw [hc j (by omega)]
    simp [List.getD, hj]

theorem own_lies {w : World} {base : Nat} {e : TypeId} {v : Value} {n : Nat} {xs : List Value} (h : w.ownsRow base e 1 v n xs) : Lies w.heap.size v := fun k hk => (h.lt k hk).2

/-- The bytes as a string. -/
def str (xs : List UInt8) : ByteArray := ⟨xs.toArray⟩

theorem strOfNums_bytes (xs : List UInt8) : strOfNums (xs.map fun x => (x.toNat : Int)) = str xs := by
  have : xs.map ((fun n : Int => UInt8.ofNat n.toNat) ∘ fun x : UInt8 => (x.toNat : Int)) = xs := by
    conv => rhs; rw [← List.map_id xs]
    apply List.map_congr_left
    intro x _
    simp
  simp [strOfNums, str, this]


theorem bt {a b c : World} (h1 : Below a.heap.size a b) (h2 : Below b.heap.size b c) : Below a.heap.size a c := h1.trans (h2.mono h1.size)

theorem own_shape {w : World} {base : Nat} {e : TypeId} {v : Value} {n : Nat} {xs : List Value} (h : w.ownsRow base e 1 v n xs) : ∃ ao cap, v = .slice ao n cap := by
  obtain ⟨_, hcase⟩ := h
  rcases hcase with ⟨rfl, rfl⟩ | ⟨g, cap, cur, rfl, _⟩
  · exact ⟨_, _, rfl⟩
  · exact ⟨_, _, rfl⟩
end Go.Proofs.Ytgeeaipdihlmhaa
