/- Whole numbers below 2^53 as 64-bit floats: sum, product and the way back are exact. Conditions: each number that comes up is below 2^53. -/
import Derived.WalkLawsBesides
namespace Go.Proofs.Ytgeeaipdihlmhaa.Flo
open Ieee

/-- The bits of a whole number. -/
def fl (m : Nat) : Nat := double.nearest false m 0

theorem log2_shift (k s : Nat) (hk : k ≠ 0) : (k * 2 ^ s).log2 = k.log2 + s := by
  have hp : 0 < 2 ^ s := Nat.two_pow_pos s
  have hne : k * 2 ^ s ≠ 0 := Nat.mul_ne_zero hk (by omega)
  rw [Nat.log2_eq_iff hne]
  have h1 := Nat.log2_self_le hk
  have h2 := @Nat.lt_log2_self k
  constructor
  · rw [Nat.pow_add]; exact Nat.mul_le_mul_right _ h1
  · rw [show k.log2 + s + 1 = (k.log2 + 1) + s by omega, Nat.pow_add]
    exact (Nat.mul_lt_mul_right hp).2 h2

theorem cut_whole (way : Toward) (k d : Nat) : way.cut false (k * 2 ^ d) d = k := by
  have key : ∀ g : Nat, 0 < g → k * 2 ^ d = k * g → way.cut false (k * 2 ^ d) d = k → way.cut false (k * 2 ^ d) d = k := fun _ _ _ h => h
  clear key
  by_cases hk : k = 0
  · subst hk
    cases way <;> simp [Toward.cut, Nat.shiftLeft_eq]
  · have hl := log2_shift k d hk
    have hm : min d ((k * 2 ^ d).log2 + 2) = d := by omega
    have hp : 0 < 2 ^ d := Nat.two_pow_pos d
    unfold Toward.cut
    rw [hm]
    simp only [Nat.shiftLeft_eq, Nat.one_mul, Nat.mul_div_cancel _ hp, Nat.mul_mod_left]
    cases way <;> simp

theorem least : double.leastPlace = -1074 := by decide
theorem binade_eq : double.binade = 2 ^ 52 := rfl
theorem infRung_eq : double.infRung = 2047 * 2 ^ 52 := by decide
theorem sign_eq : double.signWeight = 2 ^ 63 := rfl

/-- The rung of a whole number. -/
theorem nearest_eq (k s : Nat) (hk : k ≠ 0) (hb : k < 2 ^ 53) : double.nearest false (k * 2 ^ s) (-(s : Int)) = (k.log2 + 1022) * 2 ^ 52 + k * 2 ^ (52 - k.log2) := by
  have hp : 0 < 2 ^ s := Nat.two_pow_pos s
  have hne : k * 2 ^ s ≠ 0 := Nat.mul_ne_zero hk (by omega)
  have hL : k.log2 < 53 := (Nat.log2_lt hk).2 hb
  have hlast : max (-(s : Int) + ((k.log2 + s : Nat) : Int) - (52 : Nat)) (-1074) = (k.log2 : Int) - 52 := by omega
  have hkept : Toward.even.cut false ((k * 2 ^ s) <<< (-(s : Int) - ((k.log2 : Int) - 52)).toNat) (((k.log2 : Int) - 52) - -(s : Int)).toNat = k * 2 ^ (52 - k.log2) := by
    by_cases hs : s ≤ 52 - k.log2
    · rw [show (-(s : Int) - ((k.log2 : Int) - 52)).toNat = 52 - k.log2 - s by omega, show (((k.log2 : Int) - 52) - -(s : Int)).toNat = 0 by omega]
      have e : (k * 2 ^ s) <<< (52 - k.log2 - s) = k * 2 ^ (52 - k.log2) * 2 ^ 0 := by
        rw [Nat.shiftLeft_eq, Nat.mul_assoc, ← Nat.pow_add, show s + (52 - k.log2 - s) = 52 - k.log2 by omega]; simp
      rw [e]
      exact cut_whole .even _ 0
    · rw [show (-(s : Int) - ((k.log2 : Int) - 52)).toNat = 0 by omega, show (((k.log2 : Int) - 52) - -(s : Int)).toNat = s - (52 - k.log2) by omega]
      have e : (k * 2 ^ s) <<< 0 = k * 2 ^ (52 - k.log2) * 2 ^ (s - (52 - k.log2)) := by
        rw [Nat.shiftLeft_zero, Nat.mul_assoc k (2 ^ (52 - k.log2)), ← Nat.pow_add, show 52 - k.log2 + (s - (52 - k.log2)) = s by omega]
      rw [e]
      exact cut_whole .even _ _
  unfold Format.nearest
  rw [if_neg hne, log2_shift k s hk]
  simp only [least, show double.fractionBits = 52 from rfl]
  rw [hlast, hkept]
  have h2 : k * 2 ^ (52 - k.log2) < 2 ^ 53 := by
    have h := @Nat.lt_log2_self k
    have : k * 2 ^ (52 - k.log2) < 2 ^ (k.log2 + 1) * 2 ^ (52 - k.log2) := (Nat.mul_lt_mul_right (Nat.two_pow_pos _)).2 h
    rw [← Nat.pow_add, show k.log2 + 1 + (52 - k.log2) = 53 by omega] at this
    exact this
  generalize k * 2 ^ (52 - k.log2) = t at *
  generalize k.log2 = L at *
  rw [binade_eq, infRung_eq, show ((L : Int) - 52 - -1074).toNat = L + 1022 by omega]
  unfold Format.word
  rw [if_neg (by simp)]
  rw [Nat.min_eq_left]
  omega

theorem nearest_fl (k s : Nat) (hb : k < 2 ^ 53) : double.nearest false (k * 2 ^ s) (-(s : Int)) = fl k := by
  by_cases hk : k = 0
  · subst hk
    simp [fl, Format.nearest]
  · have h0 := nearest_eq k 0 hk hb
    simp at h0
    rw [nearest_eq k s hk hb, fl, h0]

theorem fl_0 : fl 0 = 0 := by decide

theorem read_rung (f : Format) (x : Nat) (h1 : f.binade ≤ x) (h2 : x < f.infRung) (h3 : x < f.signWeight) :
    f.read x = .number false (f.binade + x % f.binade) (f.leastPlace + ((x / f.binade - 1 : Nat) : Int)) := by
  unfold Format.read
  simp only [Nat.div_eq_of_lt h3, Nat.mod_eq_of_lt h3]
  rw [if_neg (Nat.not_lt.2 h1), if_pos h2]
  rfl

set_option exponentiation.threshold 2000 in
theorem read_fl (k : Nat) (hb : k < 2 ^ 53) : ∃ s : Nat, double.read (fl k) = .number false (k * 2 ^ s) (-(s : Int)) := by
  by_cases hk : k = 0
  · subst hk
    exact ⟨1074, by rw [fl_0, Nat.zero_mul]; decide⟩
  · have hL : k.log2 < 53 := (Nat.log2_lt hk).2 hb
    refine ⟨52 - k.log2, ?_⟩
    have h0 := nearest_eq k 0 hk hb
    simp at h0
    have hlo : 2 ^ 52 ≤ k * 2 ^ (52 - k.log2) := by
      have h := Nat.log2_self_le hk
      have : 2 ^ k.log2 * 2 ^ (52 - k.log2) ≤ k * 2 ^ (52 - k.log2) := Nat.mul_le_mul_right _ h
      rw [← Nat.pow_add, show k.log2 + (52 - k.log2) = 52 by omega] at this
      exact this
    have hhi : k * 2 ^ (52 - k.log2) < 2 ^ 53 := by
      have h := @Nat.lt_log2_self k
      have : k * 2 ^ (52 - k.log2) < 2 ^ (k.log2 + 1) * 2 ^ (52 - k.log2) := (Nat.mul_lt_mul_right (Nat.two_pow_pos _)).2 h
      rw [← Nat.pow_add, show k.log2 + 1 + (52 - k.log2) = 53 by omega] at this
      exact this
    rw [fl, h0]
    generalize k * 2 ^ (52 - k.log2) = t at *
    generalize k.log2 = L at *
    have b1 := binade_eq
    have b2 := infRung_eq
    have b3 := sign_eq
    rw [read_rung double _ (by omega) (by omega) (by omega), least, b1]
    have e3 : ((L + 1022) * 2 ^ 52 + t) % 2 ^ 52 = t - 2 ^ 52 := by omega
    have e4 : ((L + 1022) * 2 ^ 52 + t) / 2 ^ 52 = L + 1023 := by omega
    rw [e3, e4]
    have e5 : 2 ^ 52 + (t - 2 ^ 52) = t := by omega
    have e6 : (-1074 : Int) + ((L + 1023 - 1 : Nat) : Int) = -((52 - L : Nat) : Int) := by omega
    rw [e5, e6]

theorem mul_fl (a b : Nat) (ha : a < 2 ^ 53) (hb : b < 2 ^ 53) (hab : a * b < 2 ^ 53) : floatBits .mul .f64 (fl a) (fl b) = some (fl (a * b)) := by
  obtain ⟨s, hs⟩ := read_fl a ha
  obtain ⟨t, ht⟩ := read_fl b hb
  show (double.mul (fl a) (fl b)) = _
  unfold Format.mul
  rw [hs, ht]
  simp only [Datum.product, Option.map_some, Format.write, Bool.xor_self, Option.some.injEq]
  have e : a * 2 ^ s * (b * 2 ^ t) = a * b * 2 ^ (s + t) := by
    rw [Nat.pow_add]; simp only [Nat.mul_left_comm, Nat.mul_assoc]
  rw [e, show (-(s : Int) + -(t : Int)) = -((s + t : Nat) : Int) by omega]
  exact nearest_fl _ _ hab

theorem sum_num (m n : Nat) (i j : Int) : Datum.sum (.number false m i) (.number false n j) = some (.number false (m <<< (i - min i j).toNat + n <<< (j - min i j).toNat) (min i j)) := by
  show some (Datum.number (if ((m <<< (i - min i j).toNat : Nat) : Int) + ((n <<< (j - min i j).toNat : Nat) : Int) = 0 then false && false else decide (((m <<< (i - min i j).toNat : Nat) : Int) + ((n <<< (j - min i j).toNat : Nat) : Int) < 0))
    (((m <<< (i - min i j).toNat : Nat) : Int) + ((n <<< (j - min i j).toNat : Nat) : Int)).natAbs (min i j)) = _
  generalize m <<< (i - min i j).toNat = x
  generalize n <<< (j - min i j).toNat = y
  have h1 : decide ((x : Int) + (y : Int) < 0) = false := by simp; omega
  have h2 : ((x : Int) + (y : Int)).natAbs = x + y := by omega
  rw [h1, h2]
  simp

theorem up_eq (a s t : Nat) (h : s ≤ t) : (a * 2 ^ s) <<< (t - s) = a * 2 ^ t := by
  rw [Nat.shiftLeft_eq, Nat.mul_assoc, ← Nat.pow_add, show s + (t - s) = t by omega]

theorem add_fl (a b : Nat) (ha : a < 2 ^ 53) (hb : b < 2 ^ 53) (hab : a + b < 2 ^ 53) : floatBits .add .f64 (fl a) (fl b) = some (fl (a + b)) := by
  obtain ⟨s, hs⟩ := read_fl a ha
  obtain ⟨t, ht⟩ := read_fl b hb
  show (double.add (fl a) (fl b)) = _
  unfold Format.add
  rw [hs, ht]
  rw [sum_num]
  have e1 : (-(s : Int) - min (-(s : Int)) (-(t : Int))).toNat = max s t - s := by omega
  have e2 : (-(t : Int) - min (-(s : Int)) (-(t : Int))).toNat = max s t - t := by omega
  rw [e1, e2, up_eq a s _ (by omega), up_eq b t _ (by omega), ← Nat.add_mul, show min (-(s : Int)) (-(t : Int)) = -((max s t : Nat) : Int) by omega]
  simp only [Option.map_some, Format.write, Option.some.injEq]
  exact nearest_fl _ _ hab

theorem toInt_fl (a : Nat) (ha : a < 2 ^ 53) : (FloatKind.f64.decode (fl a)).toInt .zero = some (a : Int) := by
  obtain ⟨s, hs⟩ := read_fl a ha
  show (double.read (fl a)).toInt .zero = _
  rw [hs]
  simp only [Datum.toInt, Datum.integral]
  rw [show (-(s : Int)).toNat = 0 by omega, show (- -(s : Int)).toNat = s by omega, Nat.shiftLeft_zero, cut_whole]
  simp [signed]

theorem intVal_fl (a : Nat) (ha : a < 2 ^ 53) : floatToIntVal .f64 (fl a) .i64 = some (a : Int) := by
  unfold floatToIntVal
  rw [toInt_fl a ha]
  have h1 : IntKind.i64.min = -9223372036854775808 := rfl
  have h2 : IntKind.i64.max = 9223372036854775807 := rfl
  have h3 : (2 : Nat) ^ 53 = 9007199254740992 := rfl
  simp only [h1, h2]
  rw [if_pos (by omega)]

theorem ofInt_fl (a : Nat) : floatOfInt .f64 (a : Int) = fl a := by
  show double.nearest (decide ((a : Int) < 0)) (a : Int).natAbs 0 = _
  rw [show decide ((a : Int) < 0) = false by simp, Int.natAbs_natCast]
  rfl

theorem fl_1 : fl 1 = 4607182418800017408 := by decide
theorem fl_128 : fl 128 = 4638707616191610880 := by decide
end Go.Proofs.Ytgeeaipdihlmhaa.Flo
