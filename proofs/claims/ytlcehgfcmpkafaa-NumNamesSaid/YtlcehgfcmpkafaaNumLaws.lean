/- The laws of layer 1 answer true, and change nothing that was there. Conditions: none. -/
import Derived.Test.YtlcehgfcmpkafaaNumGet
import Derived.Test.YtlcehgfcmpkafaaNumRef
namespace Go.Proofs.Ytlcehgfcmpkafaa.Num
open Go.RowKit

theorem get_reads {w : World} {v : Value} {xs : List UInt8} (h : Reads w v xs) {a b c : Nat} (hg : get xs = (a, b, c)) :
    Calls Try.prog 8 #[v] w fun e w' => e = .returned (.tuple #[.int .i64 (a : Int), .int .i64 (b : Int), .int .i64 (c : Int)]) ∧ w = w' := by
  have e0 : ans (get xs) = .tuple #[.int .i64 (a : Int), .int .i64 (b : Int), .int .i64 (c : Int)] := by rw [hg]; rfl
  rw [← e0]
  obtain ⟨h1, ao, cap, rfl, h2, h3, h4, h5⟩ := h
  by_cases hx : xs = []
  · subst hx; exact get_nil ao cap w
  · rcases h5 with h5 | ⟨b, off, rfl, hlt, hc⟩
    · exact absurd h5 hx
    · exact get_some b off cap xs (List.length_pos_iff.2 hx) h1 w hc

theorem refGet_reads {w : World} {v : Value} {xs : List UInt8} (h : Reads w v xs) {a b c : Nat} (hg : get xs = (a, b, c)) :
    Calls Try.prog 13 #[v] w fun e w' => e = .returned (.tuple #[.int .i64 (a : Int), .int .i64 (b : Int), .int .i64 (c : Int)]) ∧ w = w' := by
  have e0 : ans (get xs) = .tuple #[.int .i64 (a : Int), .int .i64 (b : Int), .int .i64 (c : Int)] := by rw [hg]; rfl
  rw [← e0]
  obtain ⟨h1, ao, cap, rfl, h2, h3, h4, h5⟩ := h
  by_cases hx : xs = []
  · subst hx; exact refGet_nil ao cap w
  · rcases h5 with h5 | ⟨b, off, rfl, hlt, hc⟩
    · exact absurd h5 hx
    · exact refGet_some b off cap xs (List.length_pos_iff.2 hx) h1 w hc

theorem is_any (n : Nat) (h : n ≤ most) (s : ByteArray) (hs : ((str (enc n)).toList == s.toList) = true) (w : World) :
    Calls Try.prog 15 #[.int .i64 (n : Int), .string s] w fun e w' => e = .returned (.bool true) ∧ Below w.heap.size w w' := by
  go_enter Try.func15, Try.ntmps15
  go_wp2_with fail
  refine (put_yes n h w).mono ?_
  rintro e w1 ⟨v, rfl, hown, hbel⟩
  have hstr := run_string (Reads.own hown)
  go_wp2
  go_ret
  exact ⟨rfl, hbel⟩

theorem alive_any (w : World) : Calls Try.prog 10 #[] w fun e w' => e = .returned (.bool true) ∧ Below w.heap.size w w' := by
  have h0 : ((str (enc 0)).toList == (ByteArray.mk #[0]).toList) = true := by rw [ByteArray.toList_eq, ByteArray.toList_eq]; decide
  have h1 : ((str (enc 127)).toList == (ByteArray.mk #[127]).toList) = true := by rw [ByteArray.toList_eq, ByteArray.toList_eq]; decide
  have h2 : ((str (enc 128)).toList == (ByteArray.mk #[128, 1]).toList) = true := by rw [ByteArray.toList_eq, ByteArray.toList_eq]; decide
  have h3 : ((str (enc 300)).toList == (ByteArray.mk #[172, 2]).toList) = true := by rw [ByteArray.toList_eq, ByteArray.toList_eq]; decide
  have H0 := Lib.hid h0
  have H1 := Lib.hid h1
  have H2 := Lib.hid h2
  have H3 := Lib.hid h3
  clear h0 h1 h2 h3
  go_enter Try.func10, Try.ntmps10
  go_wp2_with fail
  refine (is_any 0 (by decide) _ H0.out w).mono ?_
  rintro e w1 ⟨rfl, b1⟩
  go_wp2_with fail
  refine (is_any 127 (by decide) _ H1.out w1).mono ?_
  rintro e w2 ⟨rfl, b2⟩
  go_wp2_with fail
  refine (is_any 128 (by decide) _ H2.out w2).mono ?_
  rintro e w3 ⟨rfl, b3⟩
  go_wp2_with fail
  refine (is_any 300 (by decide) _ H3.out w3).mono ?_
  rintro e w4 ⟨rfl, b4⟩
  go_wp2
  go_ret
  exact ⟨rfl, b1.trans ((b2.mono b1.size).trans ((b3.mono (Nat.le_trans b1.size b2.size)).trans (b4.mono (Nat.le_trans b1.size (Nat.le_trans b2.size b3.size)))))⟩

/-- What Put answers: a number's bytes, or a refusal. -/
def Out (n : Int) (ao : Option Addr) (len cap : Nat) (c : Int) (base : Nat) (w : World) : Prop :=
  (0 ≤ n ∧ n ≤ 1099511627776 ∧ c = 0 ∧ len = (enc n.toNat).length ∧ w.ownsRow base 5 1 (.slice ao len cap) (enc n.toNat).length (bs (enc n.toNat))) ∨
  ((n < 0 ∨ 1099511627776 < n) ∧ c = 2 ∧ ao = none ∧ len = 0 ∧ cap = 0)

theorem out_of {n : Nat} {v : Value} {base : Nat} {w : World} (hn : n ≤ most) (h : w.ownsRow base 5 1 v (enc n).length (bs (enc n))) : ∃ ao len cap, v = .slice ao len cap ∧ Out n ao len cap 0 base w := by
  obtain ⟨ao, cap, rfl⟩ := own_shape h
  exact ⟨ao, _, cap, rfl, .inl ⟨by omega, by unfold most at hn; omega, rfl, by simp, by simpa using h⟩⟩

theorem put_any (n : Int) (w : World) : Calls Try.prog 9 #[.int .i64 n] w fun e w' => ∃ ao len cap c, e = .returned (.tuple #[.slice ao len cap, .int .i64 c]) ∧ Out n ao len cap c w.heap.size w' ∧ Below w.heap.size w w' := by
  by_cases h : 0 ≤ n ∧ n ≤ 1099511627776
  · obtain ⟨a, rfl⟩ := Int.eq_ofNat_of_zero_le h.1
    refine (put_yes a (by unfold most; omega) w).mono ?_
    rintro e w' ⟨v, rfl, h1, h2⟩
    obtain ⟨ao, len, cap, rfl, h3⟩ := out_of (by unfold most; omega) h1
    exact ⟨ao, len, cap, 0, rfl, h3, h2⟩
  · have h' : n < 0 ∨ 1099511627776 < n := by omega
    refine (put_no n h' w).mono ?_
    rintro e w' ⟨rfl, rfl⟩
    exact ⟨none, 0, 0, 2, rfl, .inr ⟨h', rfl, rfl, rfl, rfl⟩, Below.refl _ _⟩

theorem refPut_any (n : Int) (w : World) : Calls Try.prog 12 #[.int .i64 n] w fun e w' => ∃ ao len cap c, e = .returned (.tuple #[.slice ao len cap, .int .i64 c]) ∧ Out n ao len cap c w.heap.size w' ∧ Below w.heap.size w w' := by
  by_cases h : 0 ≤ n ∧ n ≤ 1099511627776
  · obtain ⟨a, rfl⟩ := Int.eq_ofNat_of_zero_le h.1
    refine (refPut_yes a (by unfold most; omega) w).mono ?_
    rintro e w' ⟨v, rfl, h1, h2⟩
    obtain ⟨ao, len, cap, rfl, h3⟩ := out_of (by unfold most; omega) h1
    exact ⟨ao, len, cap, 0, rfl, h3, h2⟩
  · have h' : n < 0 ∨ 1099511627776 < n := by omega
    refine (refPut_no n h' w).mono ?_
    rintro e w' ⟨rfl, rfl⟩
    exact ⟨none, 0, 0, 2, rfl, .inr ⟨h', rfl, rfl, rfl, rfl⟩, Below.refl _ _⟩

theorem rises_walk (n m : Int) (w : World) : Calls Try.prog 6 #[.int .i64 n, .int .i64 m] w fun e w' => e = .returned (.bool true) ∧ Below w.heap.size w w' := by
  go_enter Try.func6, Try.ntmps6
  go_wp2_with fail
  refine (alive_any w).mono ?_
  rintro e w1 ⟨rfl, b1⟩
  go_wp2_with fail
  refine (put_any n w1).mono ?_
  rintro e w2 ⟨ax, lx, cx, x, rfl, hx, b2⟩
  have HX := Lib.hid hx
  clear hx
  go_wp2_with fail
  refine (put_any m w2).mono ?_
  rintro e w3 ⟨ay, ly, cy, y, rfl, hy, b3⟩
  have hb := bt b1 (bt b2 b3)
  clear b1 b2 b3
  rcases HX.out with ⟨h1, h2, rfl, hl1, _⟩ | ⟨h1, rfl, rfl, rfl, rfl⟩ <;> rcases hy with ⟨g1, g2, rfl, hl2, _⟩ | ⟨g1, rfl, rfl, rfl, rfl⟩ <;> clear HX
  · have t1 : decide (0 ≤ n) = true := by simpa using h1
    have t2 : decide (n ≤ 1099511627776) = true := by simpa using h2
    have t3 : decide (0 ≤ m) = true := by simpa using g1
    have t4 : decide (m ≤ 1099511627776) = true := by simpa using g2
    by_cases hlt : m < n
    · have t5 : decide (m < n) = true := by simpa using hlt
      clear hl1 hl2
      go_wp2
      go_ret
      exact ⟨rfl, hb⟩
    · have t5 : decide (m < n) = false := by simpa using hlt
      have t6 : lx ≤ ly := by
        rw [hl1, hl2]; exact encF_mono _ _ _ (by omega)
      have t7 : decide (lx ≤ ly) = true := by simpa using t6
      clear hl1 hl2
      go_wp2
      go_ret
      exact ⟨rfl, hb⟩
  · have t1 : decide (0 ≤ n) = true := by simpa using h1
    have t2 : decide (n ≤ 1099511627776) = true := by simpa using h2
    clear hl1
    rcases g1 with g1 | g1
    · have t3 : decide (0 ≤ m) = false := by simpa using g1
      go_wp2
      go_ret
      exact ⟨rfl, hb⟩
    · have t3 : decide (0 ≤ m) = true := by simp; omega
      have t4 : decide (m ≤ 1099511627776) = false := by simpa using g1
      go_wp2
      go_ret
      exact ⟨rfl, hb⟩
  · have t3 : decide (0 ≤ m) = true := by simpa using g1
    have t4 : decide (m ≤ 1099511627776) = true := by simpa using g2
    clear hl2
    rcases h1 with h1 | h1
    · have t1 : decide (0 ≤ n) = false := by simpa using h1
      go_wp2
      go_ret
      exact ⟨rfl, hb⟩
    · have t1 : decide (0 ≤ n) = true := by simp; omega
      have t2 : decide (n ≤ 1099511627776) = false := by simpa using h1
      go_wp2
      go_ret
      exact ⟨rfl, hb⟩
  · rcases h1 with h1 | h1 <;> rcases g1 with g1 | g1
    · have t1 : decide (0 ≤ n) = false := by simpa using h1
      have t3 : decide (0 ≤ m) = false := by simpa using g1
      go_wp2
      go_ret
      exact ⟨rfl, hb⟩
    · have t1 : decide (0 ≤ n) = false := by simpa using h1
      have t3 : decide (0 ≤ m) = true := by simp; omega
      have t4 : decide (m ≤ 1099511627776) = false := by simpa using g1
      go_wp2
      go_ret
      exact ⟨rfl, hb⟩
    · have t1 : decide (0 ≤ n) = true := by simp; omega
      have t2 : decide (n ≤ 1099511627776) = false := by simpa using h1
      have t3 : decide (0 ≤ m) = false := by simpa using g1
      go_wp2
      go_ret
      exact ⟨rfl, hb⟩
    · have t1 : decide (0 ≤ n) = true := by simp; omega
      have t2 : decide (n ≤ 1099511627776) = false := by simpa using h1
      have t3 : decide (0 ≤ m) = true := by simp; omega
      have t4 : decide (m ≤ 1099511627776) = false := by simpa using g1
      go_wp2
      go_ret
      exact ⟨rfl, hb⟩
end Go.Proofs.Ytlcehgfcmpkafaa.Num
