/- The laws of layer 1 answer true, and change nothing that was there. Conditions: none. -/
import Derived.Test.YtmjdpmkkcakbdaaNumGet
import Derived.Test.YtmjdpmkkcakbdaaNumRef
namespace Go.Proofs.Ytmjdpmkkcakbdaa.Num
open Go.RowKit

theorem get_reads {w : World} {v : Value} {xs : List UInt8} (h : Reads w v xs) {a b c : Nat} (hg : get xs = (a, b, c)) :
    Calls Try.prog 23 #[v] w fun e w' => e = .returned (.tuple #[.int .i64 (a : Int), .int .i64 (b : Int), .int .i64 (c : Int)]) ∧ w = w' := by
  have e0 : ans (get xs) = .tuple #[.int .i64 (a : Int), .int .i64 (b : Int), .int .i64 (c : Int)] := by rw [hg]; rfl
  rw [← e0]
  obtain ⟨h1, ao, cap, rfl, h2, h3, h4, h5⟩ := h
  by_cases hx : xs = []
  · subst hx; exact get_nil ao cap w
  · rcases h5 with h5 | ⟨b, off, rfl, hlt, hc⟩
    · exact absurd h5 hx
    · exact get_some b off cap xs (List.length_pos_iff.2 hx) h1 w hc

theorem refGet_reads {w : World} {v : Value} {xs : List UInt8} (h : Reads w v xs) {a b c : Nat} (hg : get xs = (a, b, c)) :
    Calls Try.prog 20 #[v] w fun e w' => e = .returned (.tuple #[.int .i64 (a : Int), .int .i64 (b : Int), .int .i64 (c : Int)]) ∧ w = w' := by
  have e0 : ans (get xs) = .tuple #[.int .i64 (a : Int), .int .i64 (b : Int), .int .i64 (c : Int)] := by rw [hg]; rfl
  rw [← e0]
  obtain ⟨h1, ao, cap, rfl, h2, h3, h4, h5⟩ := h
  by_cases hx : xs = []
  · subst hx; exact refGet_nil ao cap w
  · rcases h5 with h5 | ⟨b, off, rfl, hlt, hc⟩
    · exact absurd h5 hx
    · exact refGet_some b off cap xs (List.length_pos_iff.2 hx) h1 w hc



/-- What Put answers: a number's bytes, or a refusal. -/
def Out (n : Int) (ao : Option Addr) (len cap : Nat) (c : Int) (base : Nat) (w : World) : Prop :=
  (0 ≤ n ∧ n ≤ 1099511627776 ∧ c = 0 ∧ len = (enc n.toNat).length ∧ w.ownsRow base 5 1 (.slice ao len cap) (enc n.toNat).length (bs (enc n.toNat))) ∨
  ((n < 0 ∨ 1099511627776 < n) ∧ c = 2 ∧ ao = none ∧ len = 0 ∧ cap = 0)

theorem out_of {n : Nat} {v : Value} {base : Nat} {w : World} (hn : n ≤ most) (h : w.ownsRow base 5 1 v (enc n).length (bs (enc n))) : ∃ ao len cap, v = .slice ao len cap ∧ Out n ao len cap 0 base w := by
  obtain ⟨ao, cap, rfl⟩ := own_shape h
  exact ⟨ao, _, cap, rfl, .inl ⟨by omega, by unfold most at hn; omega, rfl, by simp, by simpa using h⟩⟩

theorem put_any (n : Int) (w : World) : Calls Try.prog 13 #[.int .i64 n] w fun e w' => ∃ ao len cap c, e = .returned (.tuple #[.slice ao len cap, .int .i64 c]) ∧ Out n ao len cap c w.heap.size w' ∧ Below w.heap.size w w' := by
  by_cases h : 0 ≤ n ∧ n ≤ 1099511627776
  · obtain ⟨a, rfl⟩ := Int.eq_ofNat_of_zero_le h.1
    refine (put_yes a (by unfold most; omega) w).mono ?_
    rintro e w' ⟨v, rfl, h1, h2⟩
    obtain ⟨ao, len, cap, rfl, h3⟩ := out_of (by unfold most; omega) h1
    exact ⟨ao, len, cap, 0, rfl, h3, h2⟩
  · have h' : n < 0 ∨ 1099511627776 < n := by omega
    refine (put_no n h' w).mono ?_
    rintro e w' ⟨rfl, rfl⟩
    exact ⟨none, 0, 0, 2, rfl, .inr ⟨h', rfl, rfl, rfl, rfl⟩, Below.refl _ _⟩



end Go.Proofs.Ytmjdpmkkcakbdaa.Num
