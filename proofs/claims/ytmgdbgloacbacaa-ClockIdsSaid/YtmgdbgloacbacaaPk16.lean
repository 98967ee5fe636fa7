/- Whole numbers below 2^53 as 64-bit floats: sum, product and the way back are exact. Conditions: each number that comes up is below 2^53. -/
import Derived.WalkLawsBesides
import Derived.WalkKit
import Derived.WalkSpells
import Derived.RegionTactic
import Derived.Deep.RegionHeld3
import Derived.Deep.DeepCutAuto
import Derived.IntWalk
import Derived.Test.YtmgdbgloacbacaaPk15
import Derived.Test.YtmgdbgloacbacaaPk09
import Derived.Test.YtmgdbgloacbacaaPk10
import Derived.Test.YtmgdbgloacbacaaPk14

namespace Go.Proofs.Ytmgdbgloacbacaa.Flo
open Ieee

/-- The bits of a whole number. -/
def fl (m : Nat) : Nat := double.nearest false m 0

theorem log2_shift (k s : Nat) (hk : k ≠ 0) : (k * 2 ^ s).log2 = k.log2 + s := by
  have hp : 0 < 2 ^ s := Nat.two_pow_pos s
  have hne : k * 2 ^ s ≠ 0 := Nat.mul_ne_zero hk (by omega)
  rw [Nat.log2_eq_iff hne]
  have h1 := Nat.log2_self_le hk
  have h2 := @Nat.lt_log2_self k
  constructor
  · rw [Nat.pow_add]; exact Nat.mul_le_mul_right _ h1
  · rw [show k.log2 + s + 1 = (k.log2 + 1) + s by omega, Nat.pow_add]
    exact (Nat.mul_lt_mul_right hp).2 h2

theorem cut_whole (way : Toward) (k d : Nat) : way.cut false (k * 2 ^ d) d = k := by
  have key : ∀ g : Nat, 0 < g → k * 2 ^ d = k * g → way.cut false (k * 2 ^ d) d = k → way.cut false (k * 2 ^ d) d = k := fun _ _ _ h => h
  clear key
  by_cases hk : k = 0
  · subst hk
    cases way <;> simp [Toward.cut, Nat.shiftLeft_eq]
  · have hl := log2_shift k d hk
    have hm : min d ((k * 2 ^ d).log2 + 2) = d := by omega
    have hp : 0 < 2 ^ d := Nat.two_pow_pos d
    unfold Toward.cut
    rw [hm]
    simp only [Nat.shiftLeft_eq, Nat.one_mul, Nat.mul_div_cancel _ hp, Nat.mul_mod_left]
    cases way <;> simp

theorem least : double.leastPlace = -1074 := by decide
theorem binade_eq : double.binade = 2 ^ 52 := rfl
theorem infRung_eq : double.infRung = 2047 * 2 ^ 52 := by decide
theorem sign_eq : double.signWeight = 2 ^ 63 := rfl

/-- The rung of a whole number. -/
theorem nearest_eq (k s : Nat) (hk : k ≠ 0) (hb : k < 2 ^ 53) : double.nearest false (k * 2 ^ s) (-(s : Int)) = (k.log2 + 1022) * 2 ^ 52 + k * 2 ^ (52 - k.log2) := by
  have hp : 0 < 2 ^ s := Nat.two_pow_pos s
  have hne : k * 2 ^ s ≠ 0 := Nat.mul_ne_zero hk (by omega)
  have hL : k.log2 < 53 := (Nat.log2_lt hk).2 hb
  have hlast : max (-(s : Int) + ((k.log2 + s : Nat) : Int) - (52 : Nat)) (-1074) = (k.log2 : Int) - 52 := by omega
  have hkept : Toward.even.cut false ((k * 2 ^ s) <<< (-(s : Int) - ((k.log2 : Int) - 52)).toNat) (((k.log2 : Int) - 52) - -(s : Int)).toNat = k * 2 ^ (52 - k.log2) := by
    by_cases hs : s ≤ 52 - k.log2
    · rw [show (-(s : Int) - ((k.log2 : Int) - 52)).toNat = 52 - k.log2 - s by omega, show (((k.log2 : Int) - 52) - -(s : Int)).toNat = 0 by omega]
      have e : (k * 2 ^ s) <<< (52 - k.log2 - s) = k * 2 ^ (52 - k.log2) * 2 ^ 0 := by
        rw [Nat.shiftLeft_eq, Nat.mul_assoc, ← Nat.pow_add, show s + (52 - k.log2 - s) = 52 - k.log2 by omega]; simp
      rw [e]
      exact cut_whole .even _ 0
    · rw [show (-(s : Int) - ((k.log2 : Int) - 52)).toNat = 0 by omega, show (((k.log2 : Int) - 52) - -(s : Int)).toNat = s - (52 - k.log2) by omega]
      have e : (k * 2 ^ s) <<< 0 = k * 2 ^ (52 - k.log2) * 2 ^ (s - (52 - k.log2)) := by
        rw [Nat.shiftLeft_zero, Nat.mul_assoc k (2 ^ (52 - k.log2)), ← Nat.pow_add, show 52 - k.log2 + (s - (52 - k.log2)) = s by omega]
      rw [e]
      exact cut_whole .even _ _
  unfold Format.nearest
  rw [if_neg hne, log2_shift k s hk]
  simp only [least, show double.fractionBits = 52 from rfl]
  rw [hlast, hkept]
  have h2 : k * 2 ^ (52 - k.log2) < 2 ^ 53 := by
    have h := @Nat.lt_log2_self k
    have : k * 2 ^ (52 - k.log2) < 2 ^ (k.log2 + 1) * 2 ^ (52 - k.log2) := (Nat.mul_lt_mul_right (Nat.two_pow_pos _)).2 h
    rw [← Nat.pow_add, show k.log2 + 1 + (52 - k.log2) = 53 by omega] at this
    exact this
  generalize k * 2 ^ (52 - k.log2) = t at *
  generalize k.log2 = L at *
  rw [binade_eq, infRung_eq, show ((L : Int) - 52 - -1074).toNat = L + 1022 by omega]
  unfold Format.word
  rw [if_neg (by simp)]
  rw [Nat.min_eq_left]
  omega

theorem nearest_fl (k s : Nat) (hb : k < 2 ^ 53) : double.nearest false (k * 2 ^ s) (-(s : Int)) = fl k := by
  by_cases hk : k = 0
  · subst hk
    simp [fl, Format.nearest]
  · have h0 := nearest_eq k 0 hk hb
    simp at h0
    rw [nearest_eq k s hk hb, fl, h0]

theorem fl_0 : fl 0 = 0 := by decide

theorem read_rung (f : Format) (x : Nat) (h1 : f.binade ≤ x) (h2 : x < f.infRung) (h3 : x < f.signWeight) :
    f.read x = .number false (f.binade + x % f.binade) (f.leastPlace + ((x / f.binade - 1 : Nat) : Int)) := by
  unfold Format.read
  simp only [Nat.div_eq_of_lt h3, Nat.mod_eq_of_lt h3]
  rw [if_neg (Nat.not_lt.2 h1), if_pos h2]
  rfl

set_option exponentiation.threshold 2000 in
theorem read_fl (k : Nat) (hb : k < 2 ^ 53) : ∃ s : Nat, double.read (fl k) = .number false (k * 2 ^ s) (-(s : Int)) := by
  by_cases hk : k = 0
  · subst hk
    exact ⟨1074, by rw [fl_0, Nat.zero_mul]; decide⟩
  · have hL : k.log2 < 53 := (Nat.log2_lt hk).2 hb
    refine ⟨52 - k.log2, ?_⟩
    have h0 := nearest_eq k 0 hk hb
    simp at h0
    have hlo : 2 ^ 52 ≤ k * 2 ^ (52 - k.log2) := by
      have h := Nat.log2_self_le hk
      have : 2 ^ k.log2 * 2 ^ (52 - k.log2) ≤ k * 2 ^ (52 - k.log2) := Nat.mul_le_mul_right _ h
      rw [← Nat.pow_add, show k.log2 + (52 - k.log2) = 52 by omega] at this
      exact this
    have hhi : k * 2 ^ (52 - k.log2) < 2 ^ 53 := by
      have h := @Nat.lt_log2_self k
      have : k * 2 ^ (52 - k.log2) < 2 ^ (k.log2 + 1) * 2 ^ (52 - k.log2) := (Nat.mul_lt_mul_right (Nat.two_pow_pos _)).2 h
      rw [← Nat.pow_add, show k.log2 + 1 + (52 - k.log2) = 53 by omega] at this
      exact this
    rw [fl, h0]
    generalize k * 2 ^ (52 - k.log2) = t at *
    generalize k.log2 = L at *
    have b1 := binade_eq
    have b2 := infRung_eq
    have b3 := sign_eq
    rw [read_rung double _ (by omega) (by omega) (by omega), least, b1]
    have e3 : ((L + 1022) * 2 ^ 52 + t) % 2 ^ 52 = t - 2 ^ 52 := by omega
    have e4 : ((L + 1022) * 2 ^ 52 + t) / 2 ^ 52 = L + 1023 := by omega
    rw [e3, e4]
    have e5 : 2 ^ 52 + (t - 2 ^ 52) = t := by omega
    have e6 : (-1074 : Int) + ((L + 1023 - 1 : Nat) : Int) = -((52 - L : Nat) : Int) := by omega
    rw [e5, e6]

theorem mul_fl (a b : Nat) (ha : a < 2 ^ 53) (hb : b < 2 ^ 53) (hab : a * b < 2 ^ 53) : floatBits .mul .f64 (fl a) (fl b) = some (fl (a * b)) := by
  obtain ⟨s, hs⟩ := read_fl a ha
  obtain ⟨t, ht⟩ := read_fl b hb
  show (double.mul (fl a) (fl b)) = _
  unfold Format.mul
  rw [hs, ht]
  simp only [Datum.product, Option.map_some, Format.write, Bool.xor_self, Option.some.injEq]
  have e : a * 2 ^ s * (b * 2 ^ t) = a * b * 2 ^ (s + t) := by
    rw [Nat.pow_add]; simp only [Nat.mul_left_comm, Nat.mul_assoc]
  rw [e, show (-(s : Int) + -(t : Int)) = -((s + t : Nat) : Int) by omega]
  exact nearest_fl _ _ hab

theorem sum_num (m n : Nat) (i j : Int) : Datum.sum (.number false m i) (.number false n j) = some (.number false (m <<< (i - min i j).toNat + n <<< (j - min i j).toNat) (min i j)) := by
  show some (Datum.number (if ((m <<< (i - min i j).toNat : Nat) : Int) + ((n <<< (j - min i j).toNat : Nat) : Int) = 0 then false && false else decide (((m <<< (i - min i j).toNat : Nat) : Int) + ((n <<< (j - min i j).toNat : Nat) : Int) < 0))
    (((m <<< (i - min i j).toNat : Nat) : Int) + ((n <<< (j - min i j).toNat : Nat) : Int)).natAbs (min i j)) = _
  generalize m <<< (i - min i j).toNat = x
  generalize n <<< (j - min i j).toNat = y
  have h1 : decide ((x : Int) + (y : Int) < 0) = false := by simp; omega
  have h2 : ((x : Int) + (y : Int)).natAbs = x + y := by omega
  rw [h1, h2]
  simp

theorem up_eq (a s t : Nat) (h : s ≤ t) : (a * 2 ^ s) <<< (t - s) = a * 2 ^ t := by
  rw [Nat.shiftLeft_eq, Nat.mul_assoc, ← Nat.pow_add, show s + (t - s) = t by omega]

theorem add_fl (a b : Nat) (ha : a < 2 ^ 53) (hb : b < 2 ^ 53) (hab : a + b < 2 ^ 53) : floatBits .add .f64 (fl a) (fl b) = some (fl (a + b)) := by
  obtain ⟨s, hs⟩ := read_fl a ha
  obtain ⟨t, ht⟩ := read_fl b hb
  show (double.add (fl a) (fl b)) = _
  unfold Format.add
  rw [hs, ht]
  rw [sum_num]
  have e1 : (-(s : Int) - min (-(s : Int)) (-(t : Int))).toNat = max s t - s := by omega
  have e2 : (-(t : Int) - min (-(s : Int)) (-(t : Int))).toNat = max s t - t := by omega
  rw [e1, e2, up_eq a s _ (by omega), up_eq b t _ (by omega), ← Nat.add_mul, show min (-(s : Int)) (-(t : Int)) = -((max s t : Nat) : Int) by omega]
  simp only [Option.map_some, Format.write, Option.some.injEq]
  exact nearest_fl _ _ hab

theorem toInt_fl (a : Nat) (ha : a < 2 ^ 53) : (FloatKind.f64.decode (fl a)).toInt .zero = some (a : Int) := by
  obtain ⟨s, hs⟩ := read_fl a ha
  show (double.read (fl a)).toInt .zero = _
  rw [hs]
  simp only [Datum.toInt, Datum.integral]
  rw [show (-(s : Int)).toNat = 0 by omega, show (- -(s : Int)).toNat = s by omega, Nat.shiftLeft_zero, cut_whole]
  simp [signed]

theorem intVal_fl (a : Nat) (ha : a < 2 ^ 53) : floatToIntVal .f64 (fl a) .i64 = some (a : Int) := by
  unfold floatToIntVal
  rw [toInt_fl a ha]
  have h1 : IntKind.i64.min = -9223372036854775808 := rfl
  have h2 : IntKind.i64.max = 9223372036854775807 := rfl
  have h3 : (2 : Nat) ^ 53 = 9007199254740992 := rfl
  simp only [h1, h2]
  rw [if_pos (by omega)]

theorem ofInt_fl (a : Nat) : floatOfInt .f64 (a : Int) = fl a := by
  show double.nearest (decide ((a : Int) < 0)) (a : Int).natAbs 0 = _
  rw [show decide ((a : Int) < 0) = false by simp, Int.natAbs_natCast]
  rfl

theorem fl_1 : fl 1 = 4607182418800017408 := by decide
theorem fl_128 : fl 128 = 4638707616191610880 := by decide
end Go.Proofs.Ytmgdbgloacbacaa.Flo

/- Whole numbers below 2^53 as 64-bit floats: how two stand to each other, and the way back to other kinds. Conditions: each number is below 2^53. -/
namespace Go.Proofs.Ytmgdbgloacbacaa.Flo
open Ieee

theorem order_fl (a b : Nat) (ha : a < 2 ^ 53) (hb : b < 2 ^ 53) : FloatKind.f64.format.order (fl a) (fl b) = some (compare a b) := by
  obtain ⟨s, hs⟩ := read_fl a ha
  obtain ⟨t, ht⟩ := read_fl b hb
  show (double.read (fl a)).order (double.read (fl b)) = _
  rw [hs, ht]
  show some (compare (((a * 2 ^ s) <<< (-(s : Int) - min (-(s : Int)) (-(t : Int))).toNat : Nat) : Int) (((b * 2 ^ t) <<< (-(t : Int) - min (-(s : Int)) (-(t : Int))).toNat : Nat) : Int)) = _
  have e1 : (-(s : Int) - min (-(s : Int)) (-(t : Int))).toNat = max s t - s := by omega
  have e2 : (-(t : Int) - min (-(s : Int)) (-(t : Int))).toNat = max s t - t := by omega
  rw [e1, e2, up_eq a s _ (by omega), up_eq b t _ (by omega)]
  have hp : 0 < 2 ^ max s t := Nat.two_pow_pos _
  generalize 2 ^ max s t = g at hp
  congr 1
  have h1 : compare a b = compareOfLessAndEq a b := rfl
  have h2 : compare ((a * g : Nat) : Int) ((b * g : Nat) : Int) = compareOfLessAndEq ((a * g : Nat) : Int) ((b * g : Nat) : Int) := rfl
  rw [h1, h2]
  unfold compareOfLessAndEq
  by_cases hlt : a < b
  · have h : a * g < b * g := (Nat.mul_lt_mul_right hp).2 hlt
    rw [if_pos hlt, if_pos (by omega)]
  · have h : ¬ (a * g < b * g) := fun h => hlt ((Nat.mul_lt_mul_right hp).1 h)
    rw [if_neg hlt, if_neg (by omega)]
    by_cases he : a = b
    · subst he; rw [if_pos rfl, if_pos rfl]
    · have h : ¬ (a * g = b * g) := fun h => he (Nat.eq_of_mul_eq_mul_right hp h)
      rw [if_neg he, if_neg (by omega)]

theorem eq_fl (a b : Nat) (ha : a < 2 ^ 53) (hb : b < 2 ^ 53) : (FloatKind.f64.format.order (fl a) (fl b) == some .eq) = decide (a = b) := by
  rw [order_fl a b ha hb]
  have h1 : compare a b = compareOfLessAndEq a b := rfl
  rw [h1]
  unfold compareOfLessAndEq
  by_cases hlt : a < b
  · rw [if_pos hlt, decide_eq_false (by omega)]; rfl
  · rw [if_neg hlt]
    by_cases he : a = b
    · rw [if_pos he, decide_eq_true he]; rfl
    · rw [if_neg he, decide_eq_false he]; rfl
theorem lt_fl (a b : Nat) (ha : a < 2 ^ 53) (hb : b < 2 ^ 53) : (FloatKind.f64.format.order (fl a) (fl b) == some .lt) = decide (a < b) := by
  rw [order_fl a b ha hb]
  have h1 : compare a b = compareOfLessAndEq a b := rfl
  rw [h1]
  unfold compareOfLessAndEq
  by_cases hlt : a < b
  · rw [if_pos hlt, decide_eq_true hlt]; rfl
  · rw [if_neg hlt, decide_eq_false hlt]
    by_cases he : a = b
    · rw [if_pos he]; rfl
    · rw [if_neg he]; rfl
theorem gt_fl (a b : Nat) (ha : a < 2 ^ 53) (hb : b < 2 ^ 53) : (FloatKind.f64.format.order (fl a) (fl b) == some .gt) = decide (b < a) := by
  rw [order_fl a b ha hb]
  have h1 : compare a b = compareOfLessAndEq a b := rfl
  rw [h1]
  unfold compareOfLessAndEq
  by_cases hlt : a < b
  · rw [if_pos hlt, decide_eq_false (by omega)]; rfl
  · rw [if_neg hlt]
    by_cases he : a = b
    · rw [if_pos he, decide_eq_false (by omega)]; rfl
    · rw [if_neg he, decide_eq_true (by omega)]; rfl

theorem intVal_u32 (a : Nat) (ha : a < 4294967296) : floatToIntVal .f64 (fl a) .u32 = some (a : Int) := by
  unfold floatToIntVal
  rw [toInt_fl a (by omega)]
  have h1 : IntKind.u32.min = 0 := rfl
  have h2 : IntKind.u32.max = 4294967295 := rfl
  simp only [h1, h2]
  rw [if_pos (by omega)]
theorem intVal_u8 (a : Nat) (ha : a < 256) : floatToIntVal .f64 (fl a) .u8 = some (a : Int) := by
  unfold floatToIntVal
  rw [toInt_fl a (by omega)]
  have h1 : IntKind.u8.min = 0 := rfl
  have h2 : IntKind.u8.max = 255 := rfl
  simp only [h1, h2]
  rw [if_pos (by omega)]
theorem fl_30 : fl 1073741824 = 4742290407621132288 := by decide
end Go.Proofs.Ytmgdbgloacbacaa.Flo

/- octavo/stamp: underWay, above, told, Check, Less: what each answers. Conditions: the numbers fit their kinds. -/
namespace Go.Proofs.Ytmgdbgloacbacaa.Stamp
open Go.RowKit Flo

theorem ret_tuple {a b : Value} (h : a = b) : Ending.returned a = .returned b := by rw [h]

theorem check_any (t r : Nat) (w : World) :
    Calls Try.prog 30 #[.agg #[.int .u32 (t : Int), .int .u8 (r : Int)]] w fun e w' => e = .returned (.int .i64 (chk t r)) ∧ Below w.heap.size w w' := by
  have q : (decide ((t : Int) < 1) = true ∧ chk t r = 8) ∨ (decide ((t : Int) < 1) = false ∧ decide ((1073741824 : Int) < (t : Int)) = true ∧ chk t r = 8) ∨
      (decide ((t : Int) < 1) = false ∧ decide ((1073741824 : Int) < (t : Int)) = false ∧ decide ((8 : Int) ≤ (r : Int)) = true ∧ chk t r = 8) ∨
      (decide ((t : Int) < 1) = false ∧ decide ((1073741824 : Int) < (t : Int)) = false ∧ decide ((8 : Int) ≤ (r : Int)) = false ∧ chk t r = 0) := by
    unfold chk
    by_cases h1 : t < 1
    · exact .inl ⟨decide_eq_true (by omega), if_neg (by rw [may_iff]; omega)⟩
    · by_cases h2 : 1073741824 < t
      · exact .inr (.inl ⟨decide_eq_false (by omega), decide_eq_true (by omega), if_neg (by rw [may_iff]; omega)⟩)
      · by_cases h3 : 8 ≤ r
        · exact .inr (.inr (.inl ⟨decide_eq_false (by omega), decide_eq_false (by omega), decide_eq_true (by omega), if_neg (by rw [may_iff]; omega)⟩))
        · exact .inr (.inr (.inr ⟨decide_eq_false (by omega), decide_eq_false (by omega), decide_eq_false (by omega), if_pos (by rw [may_iff]; omega)⟩))
  rcases q with ⟨q1, h⟩ | ⟨q1, q2, h⟩ | ⟨q1, q2, q3, h⟩ | ⟨q1, q2, q3, h⟩
  all_goals
    rw [h]
    clear h
    go_enter Try.func30, Try.ntmps30
    go_wp2
    go_ret
    exact ⟨rfl, (Below.refl _ _).alloc (Nat.le_refl _) _⟩

theorem check_yes (t r : Nat) (h : may t r = true) (w : World) : Calls Try.prog 30 #[.agg #[.int .u32 (t : Int), .int .u8 (r : Int)]] w fun e w' => e = .returned (.int .i64 0) ∧ Below w.heap.size w w' := by
  have := check_any t r w
  rwa [chk, if_pos h] at this
theorem check_no (t r : Nat) (h : may t r = false) (w : World) : Calls Try.prog 30 #[.agg #[.int .u32 (t : Int), .int .u8 (r : Int)]] w fun e w' => e = .returned (.int .i64 8) ∧ Below w.heap.size w w' := by
  have := check_any t r w
  rwa [chk, if_neg (by rw [h]; simp)] at this

theorem keepS {H : Nat} {w w1 w2 : World} {c0 c1 c2 c3 : Value} (h : Below w1.heap.size w1 w2) (hb : Below H w w1) (hs : H + 2 ≤ w1.heap.size) (h0 : w1.cell? ⟨H, 0, none⟩ = some c0) (h1 : w1.cell? ⟨H, 1, none⟩ = some c1)
    (h2 : w1.cell? ⟨H + 1, 0, none⟩ = some c2) (h3 : w1.cell? ⟨H + 1, 1, none⟩ = some c3) :
    Below H w w2 ∧ H + 2 ≤ w2.heap.size ∧ w2.cell? ⟨H, 0, none⟩ = some c0 ∧ w2.cell? ⟨H, 1, none⟩ = some c1 ∧ w2.cell? ⟨H + 1, 0, none⟩ = some c2 ∧ w2.cell? ⟨H + 1, 1, none⟩ = some c3 :=
  ⟨hb.trans (h.mono (by omega)), Nat.le_trans hs h.size, (h.cell (p := ⟨H, 0, none⟩) (by show H < _; omega)).trans h0, (h.cell (p := ⟨H, 1, none⟩) (by show H < _; omega)).trans h1, (h.cell (p := ⟨H + 1, 0, none⟩) (by show H + 1 < _; omega)).trans h2, (h.cell (p := ⟨H + 1, 1, none⟩) (by show H + 1 < _; omega)).trans h3⟩
theorem keepSd {H : Nat} {w w1 : World} {c0 c1 c2 c3 : Value} (hb : Below H w w1) (hs : H + 2 ≤ w1.heap.size) (h0 : w1.cell? ⟨H, 0, none⟩ = some c0) (h1 : w1.cell? ⟨H, 1, none⟩ = some c1)
    (h2 : w1.cell? ⟨H + 1, 0, none⟩ = some c2) (h3 : w1.cell? ⟨H + 1, 1, none⟩ = some c3) :
    Below H w w1.drew ∧ H + 2 ≤ w1.drew.heap.size ∧ w1.drew.cell? ⟨H, 0, none⟩ = some c0 ∧ w1.drew.cell? ⟨H, 1, none⟩ = some c1 ∧ w1.drew.cell? ⟨H + 1, 0, none⟩ = some c2 ∧ w1.drew.cell? ⟨H + 1, 1, none⟩ = some c3 :=
  ⟨hb.drew, hs, h0, h1, h2, h3⟩
theorem keepS0 (w : World) (c0 c1 c2 c3 : Value) (e : TypeId) :
    Below w.heap.size w ((w.alloc (.cells #[c0, c1] e)).alloc (.cells #[c2, c3] e)) ∧ w.heap.size + 2 ≤ ((w.alloc (.cells #[c0, c1] e)).alloc (.cells #[c2, c3] e)).heap.size ∧ ((w.alloc (.cells #[c0, c1] e)).alloc (.cells #[c2, c3] e)).cell? ⟨w.heap.size, 0, none⟩ = some c0 ∧ ((w.alloc (.cells #[c0, c1] e)).alloc (.cells #[c2, c3] e)).cell? ⟨w.heap.size, 1, none⟩ = some c1 ∧ ((w.alloc (.cells #[c0, c1] e)).alloc (.cells #[c2, c3] e)).cell? ⟨w.heap.size + 1, 0, none⟩ = some c2 ∧ ((w.alloc (.cells #[c0, c1] e)).alloc (.cells #[c2, c3] e)).cell? ⟨w.heap.size + 1, 1, none⟩ = some c3 := by
  have hb : Below (w.alloc (.cells #[c0, c1] e)).heap.size (w.alloc (.cells #[c0, c1] e)) ((w.alloc (.cells #[c0, c1] e)).alloc (.cells #[c2, c3] e)) := (Below.refl _ _).alloc (Nat.le_refl _) _
  refine ⟨((Below.refl _ _).alloc (Nat.le_refl _) _).alloc (by simp) _, by simp, ?_, ?_, ?_, ?_⟩
  · exact (hb.cell (p := ⟨w.heap.size, 0, none⟩) (by simp)).trans (cell_of_row _ w.heap.size 0 #[c0, c1] e _ (heap_alloc_new w _))
  · exact (hb.cell (p := ⟨w.heap.size, 1, none⟩) (by simp)).trans (cell_of_row _ w.heap.size 1 #[c0, c1] e _ (heap_alloc_new w _))
  · simp
  · simp

end Go.Proofs.Ytmgdbgloacbacaa.Stamp

/- octavo/stamp.Next: what it answers. Conditions: the slice's cells are stamps. -/
namespace Go.Proofs.Ytmgdbgloacbacaa.Stamp
open Go.RowKit Flo

/-- A block of two cells, behind calls that write nothing that was there. -/
theorem two_cells {w w2 : World} {c0 c1 : Value} {e : TypeId} (h : Below (w.alloc (.cells #[c0, c1] e)).heap.size (w.alloc (.cells #[c0, c1] e)) w2) :
    w2.cell? ⟨w.heap.size, 0, none⟩ = some c0 ∧ w2.cell? ⟨w.heap.size, 1, none⟩ = some c1 ∧ w2.frozen? ⟨w.heap.size, 0, none⟩ = false ∧ w2.frozen? ⟨w.heap.size, 1, none⟩ = false := by
  have hh : w2.heap[w.heap.size]? = some (.cells #[c0, c1] e (0, 0)) := (h.block w.heap.size (by simp)).trans (heap_alloc_new w _)
  refine ⟨cell_of_row _ w.heap.size 0 #[c0, c1] e _ hh, cell_of_row _ w.heap.size 1 #[c0, c1] e _ hh, ?_, ?_⟩
  · simp [World.frozen?, hh]
  · simp [World.frozen?, hh]

theorem step3 {w1 w2 w3 : World} {o : Obj} (h : Below w1.heap.size w1 w2) (h3 : Below (w2.alloc o).heap.size (w2.alloc o) w3) : Below w1.heap.size w1 w3 :=
  (h.alloc h.size o).trans (h3.mono (by have := h.size; simp; omega))
theorem below_of3 {w w3 : World} {o : Obj} (h : Below (w.alloc o).heap.size (w.alloc o) w3) : Below w.heap.size w w3 :=
  ((Below.refl _ _).alloc (Nat.le_refl _) o).trans (h.mono (by simp))

theorem set2 {w w3 : World} {o : Obj} {c0 c1 : Value} (h : Below (w.alloc o).heap.size (w.alloc o) w3) : Below w.heap.size w ((w3.setCell ⟨w.heap.size, 0, none⟩ c0).setCell ⟨w.heap.size, 1, none⟩ c1) :=
  ((below_of3 h).setCell (p := ⟨w.heap.size, 0, none⟩) (Nat.le_refl _) _).setCell (p := ⟨w.heap.size, 1, none⟩) (Nat.le_refl _) _

end Go.Proofs.Ytmgdbgloacbacaa.Stamp

/- octavoref05: what May, Check, Less, Top and Next answer. Conditions: the slice's cells are stamps. -/
namespace Go.Proofs.Ytmgdbgloacbacaa.Stamp
open Go.RowKit Flo

theorem refMay_any (t r : Nat) (w : World) :
    Calls Try.prog 34 #[.agg #[.int .u32 (t : Int), .int .u8 (r : Int)]] w fun e w' => e = .returned (.bool (may t r)) ∧ Below w.heap.size w w' := by
  have q : (decide (1 ≤ (t : Int)) = false ∧ may t r = false) ∨ (decide (1 ≤ (t : Int)) = true ∧ decide ((t : Int) ≤ 1073741824) = false ∧ may t r = false) ∨
      (decide (1 ≤ (t : Int)) = true ∧ decide ((t : Int) ≤ 1073741824) = true ∧ decide ((r : Int) < 8) = false ∧ may t r = false) ∨
      (decide (1 ≤ (t : Int)) = true ∧ decide ((t : Int) ≤ 1073741824) = true ∧ decide ((r : Int) < 8) = true ∧ may t r = true) := by
    by_cases h1 : 1 ≤ t
    · by_cases h2 : t ≤ 1073741824
      · by_cases h3 : r < 8
        · exact .inr (.inr (.inr ⟨decide_eq_true (by omega), decide_eq_true (by omega), decide_eq_true (by omega), by rw [may_iff]; omega⟩))
        · exact .inr (.inr (.inl ⟨decide_eq_true (by omega), decide_eq_true (by omega), decide_eq_false (by omega), by rw [may_no]; omega⟩))
      · exact .inr (.inl ⟨decide_eq_true (by omega), decide_eq_false (by omega), by rw [may_no]; omega⟩)
    · exact .inl ⟨decide_eq_false (by omega), by rw [may_no]; omega⟩
  have q' : (1 ≤ t) ∨ t = 0 := by omega
  rcases q with ⟨q1, h⟩ | ⟨q1, q2, h⟩ | ⟨q1, q2, q3, h⟩ | ⟨q1, q2, q3, h⟩
  all_goals
    rw [h]
    clear h q'
    go_enter Try.func34, Try.ntmps34
    go_wp2
    go_ret
    exact ⟨rfl, (Below.refl _ _).alloc (Nat.le_refl _) _⟩


end Go.Proofs.Ytmgdbgloacbacaa.Stamp

/- octavoref06.Held: what it answers. Conditions: the slices' cells are runs; they may stand one behind the other, at most 100 of them. -/
namespace Go.Proofs.Ytmgdbgloacbacaa.Place
open Go.RowKit Stamp
attribute [local go_sem ↓] Go.wp_at_zero Go.wp_at_succ

/-- How many stamps, as a natural number; and read out of the cells. -/
def nl : List Run → Nat
  | [] => 0
  | x :: p => x.m.toNat + nl p
def tot (w : World) (b off : Nat) : Nat → Nat
  | 0 => 0
  | k + 1 => tot w b off k + (match w.cell? ⟨b, off + k * 3 + 2, none⟩ with | some (.int _ m) => m.toNat | _ => 0)
def totV (w : World) : Value → Nat
  | .slice (some a) n _ => tot w a.block a.off n
  | _ => 0
theorem nl_append : ∀ p q : List Run, nl (p ++ q) = nl p + nl q
  | [], q => by simp [nl]
  | x :: p, q => by simp [nl, nl_append p q]; omega
theorem totV_runs {w : World} {v : Value} {l : List Run} (h : Runs w v l) : totV w v = nl l := by
  obtain ⟨ao, cap, rfl⟩ := h.shape
  cases ao with
  | none =>
    have hc := Sees.cap h
    have : l = [] := List.length_eq_zero_iff.1 (by have := hc.2.2.2 rfl; omega)
    subst this
    rfl
  | some a =>
    by_cases hl : l = []
    · subst hl; rfl
    · have hpos : 0 < l.length := by cases l with | nil => exact absurd rfl hl | cons x p => simp
      obtain ⟨b, off, he, _, _⟩ := h.at 0 hpos
      cases he
      have key : ∀ k, k ≤ l.length → tot w b off k = nl (l.take k) := by
        intro k
        induction k with
        | zero => intro _; rfl
        | succ k ih =>
          intro hk
          obtain ⟨b', off', he, _, _, _, h2⟩ := h.at k (by omega)
          cases he
          rw [tot, ih (by omega), h2, List.take_succ_eq_append_getElem (by omega), nl_append]
          simp [nl, List.getD, List.getElem?_eq_getElem (show k < l.length by omega)]
      show tot w b off l.length = nl l
      rw [key _ (Nat.le_refl _), List.take_length]
theorem nl_cut {x : Run} {p : List Run} {n : Nat} (h : One x) (hn : (n : Int) ≤ x.m) : nl (cut x p n) + n = nl (x :: p) := by
  obtain ⟨k, hk, h1, h2, h3, h4⟩ := h.nat
  unfold cut
  by_cases he : x.m = (n : Int)
  · rw [if_pos he, nl]; omega
  · rw [if_neg he, nl, nl, mkRun_m (by omega)]; omega
theorem cut_len {x : Run} {p : List Run} {n : Nat} : (cut x p n).length ≤ p.length + 1 := by
  unfold cut; split <;> simp

/-- What stands at the head of the loop of two places held against each other. -/
def Two (w : World) (h0 : Int) (f0 : Bool) (a b : Value) (wr : World) : Prop :=
  ∃ p q : List Run, Runs wr a p ∧ Runs wr b q ∧ Chain p ∧ Chain q ∧ p.length ≤ 100 ∧ q.length ≤ 100 ∧ hold (all p) (all q) = h0 ∧ first (all p) (all q) = f0 ∧ Below w.heap.size w wr

theorem keepA3 {wl w2 : World} {b off t r : Nat} {m : Int} (q : Pos3 wl b off t r m) (h : Below wl.heap.size wl w2) :
    Below wl.heap.size wl w2 ∧ w2.cell? ⟨b, off, none⟩ = some (.int .u32 (t : Int)) ∧ w2.cell? ⟨b, off + 1, none⟩ = some (.int .u8 (r : Int)) :=
  ⟨h, (h.cell (p := ⟨b, off, none⟩) q.1).trans q.2.1, (h.cell (p := ⟨b, off + 1, none⟩) q.1).trans q.2.2.1⟩
theorem keepM {wl w2 : World} {b1 o1 t1 r1 b2 o2 t2 r2 : Nat} {m1 m2 : Int} (q : Pos3 wl b1 o1 t1 r1 m1) (q2 : Pos3 wl b2 o2 t2 r2 m2) (h : Below wl.heap.size wl w2) :
    Below wl.heap.size wl w2 ∧ w2.cell? ⟨b1, o1 + 2, none⟩ = some (.int .i64 m1) ∧ w2.cell? ⟨b2, o2 + 2, none⟩ = some (.int .i64 m2) :=
  ⟨h, (h.cell (p := ⟨b1, o1 + 2, none⟩) q.1).trans q.2.2.2, (h.cell (p := ⟨b2, o2 + 2, none⟩) q2.1).trans q2.2.2.2⟩

end Go.Proofs.Ytmgdbgloacbacaa.Place

/- octavoref06.First, Compare, Begins: what each answers. Conditions: the slices' cells are runs; First: they may stand one behind the other, at most 100 of them. -/
namespace Go.Proofs.Ytmgdbgloacbacaa.Place
open Go.RowKit Stamp
attribute [local go_sem ↓] Go.wp_at_zero Go.wp_at_succ

theorem Any.len {p : List Run} (h : Any p) : p.length ≤ 64 := by
  rcases h with rfl | h
  · simp
  · exact h.2.1
def cmp (p q : List Run) : Int := if anyB p = true ∧ anyB q = true then hold (all p) (all q) else 0
def beg (p q : List Run) : Bool := anyB p && (anyB q && first (all p) (all q))
end Go.Proofs.Ytmgdbgloacbacaa.Place

/- octavoref06.Final, Last, All, Ids: what each answers. Conditions: the slice's cells are runs. -/
namespace Go.Proofs.Ytmgdbgloacbacaa.Place
open Go.RowKit Stamp
attribute [local go_sem ↓] Go.wp_at_zero Go.wp_at_succ

/-- The last stamp, or the zero one. -/
def lastV (l : List Run) : Int × Int := if mayB l = true then (((l.getD (l.length - 1) zrun).t : Int) + ((l.getD (l.length - 1) zrun).m - 1), ((l.getD (l.length - 1) zrun).r : Int)) else (0, 0)
theorem sees_blk2 {X : World} {g : Nat} {a : Id} {T R : Int} {e : TypeId} (h : X.heap[g]? = some (.cells #[.int .u32 T, .int .u8 R] e)) (hT : T = (a.t : Int)) (hR : R = (a.r : Int)) : Sees X (.slice (some ⟨g, 0, none⟩) 1 1) 2 1 (ids [a]) := by
  subst hT hR
  exact sees_blk h
theorem keepB {wl w2 : World} {b o1 o2 : Nat} {c1 c2 : Value} (q : b < wl.heap.size ∧ wl.cell? ⟨b, o1, none⟩ = some c1 ∧ wl.cell? ⟨b, o2, none⟩ = some c2) (h : Below wl.heap.size wl w2) :
    Below wl.heap.size wl w2 ∧ w2.cell? ⟨b, o1, none⟩ = some c1 ∧ w2.cell? ⟨b, o2, none⟩ = some c2 :=
  ⟨h, (h.cell (p := ⟨b, o1, none⟩) q.1).trans q.2.1, (h.cell (p := ⟨b, o2, none⟩) q.1).trans q.2.2⟩
theorem up_snoc (t r j : Nat) : up t r (j + 1) = up t r j ++ [mk (t + j) r] := by rw [up_add]; rfl
theorem all_take (l : List Run) (k : Nat) (h : k < l.length) : all (l.take (k + 1)) = all (l.take k) ++ up (l.getD k zrun).t (l.getD k zrun).r (l.getD k zrun).m.toNat := by
  rw [List.take_succ_eq_append_getElem h, all_append]
  simp [all, List.getD, List.getElem?_eq_getElem h]

end Go.Proofs.Ytmgdbgloacbacaa.Place

/- octavoref06.Ids, SameIds, More: what each answers. Conditions: the slices' cells are runs (stamps). -/
namespace Go.Proofs.Ytmgdbgloacbacaa.Place
open Go.RowKit Stamp
attribute [local go_sem ↓] Go.wp_at_zero Go.wp_at_succ
attribute [local go_sem] yielded_undef

def idsOf (l : List Run) : List Id := if mayB l = true then all l else []
def idsE (l : List Run) : Int := if mayB l = true then 0 else 8
theorem ids_ne : ∀ {a b : List Id}, a.length = b.length → a ≠ b → ∃ k, k < a.length ∧ a.getD k zid ≠ b.getD k zid
  | [], [], _, h => absurd rfl h
  | x :: a, y :: b, hl, h => by
    by_cases hxy : x = y
    · subst hxy
      obtain ⟨k, h1, h2⟩ := ids_ne (a := a) (b := b) (by simpa using hl) (fun e => h (by rw [e]))
      exact ⟨k + 1, by simpa using h1, by simpa using h2⟩
    · exact ⟨0, by simp, by simpa using hxy⟩
  | [], _ :: _, hl, _ => by simp at hl
  | _ :: _, [], hl, _ => by simp at hl

set_option maxHeartbeats 1000000 in
theorem sameIds_yes {a b : Value} {l : List Id} {w : World} (ha : Ids w a l) (hb : Ids w b l) :
    Calls Try.prog 12 #[a, b] w fun e w' => e = .returned (.bool true) ∧ Below w.heap.size w w' := by
  obtain ⟨ao, ca, rfl⟩ := ha.shape
  obtain ⟨bo, cb, rfl⟩ := hb.shape
  obtain ⟨n, hn⟩ : ∃ n, n = l.length := ⟨_, rfl⟩
  have hm : n ≤ 9223372036854775807 := by rw [hn]; exact Sees.max ha
  have HA := Lib.hid ha
  have HB := Lib.hid hb
  have HN := Lib.hid hn
  rw [← hn]
  clear ha hb hn
  have t1 : ((n : Int) != (n : Int)) = false := by simp
  go_enter Try.func12, Try.ntmps12
  go_wp2
  go_loopw [5] (fun i wr => ∃ k : Nat, k ≤ n ∧ i = .int .i64 (k : Int) ∧ ∃ q, wr = w.drewN q) (fun i _ => n - (intOf i).toNat)
  case atStart => exact ⟨0, by omega, rfl, 0, rfl⟩
  case round =>
    obtain ⟨k, hk, rfl, q, rfl⟩ := hrel
    by_cases hkn : k < n
    · have q1 : decide (k < n) = true := by simpa using hkn
      obtain ⟨b1, o1, rfl, hb1, ha0, ha1⟩ := HA.out.at k (by rw [← HN.out]; exact hkn)
      obtain ⟨b2, o2, rfl, hb2, hb0, hb1'⟩ := HB.out.at k (by rw [← HN.out]; exact hkn)
      obtain ⟨x, hx⟩ : ∃ x, x = l.getD k zid := ⟨_, rfl⟩
      rw [← hx] at ha0 ha1 hb0 hb1'
      obtain ⟨xt, xr, _, _⟩ := x
      simp only at ha0 ha1 hb0 hb1'
      have q2 : (0 : Int) ≤ (k : Int) := by omega
      have q3 : (k : Int) < (n : Int) := by omega
      clear hx
      go_wp2
      go_quiet (fail)
      go_wp2
      go_roundw
      case rel => exact ⟨k + 1, by omega, by go_num, _, rfl⟩
      case measure => simp [intOf]; omega
    · have q1 : decide (k < n) = false := by simpa using hkn
      go_wp2
      go_ret
      exact ⟨rfl, below_draw (Below.refl _ _) _⟩

/-- A place with a stamp behind. -/
def more (l : List Run) (a : Id) : List Run :=
  if 0 < l.length ∧ (l.getD (l.length - 1) zrun).r = a.r ∧ fin (l.getD (l.length - 1) zrun) + 1 = (a.t : Int) then l.take (l.length - 1) ++ [mkRun (l.getD (l.length - 1) zrun).t (l.getD (l.length - 1) zrun).r ((l.getD (l.length - 1) zrun).m + 1)] else l ++ [mkRun a.t a.r 1]
theorem keepR1 {wl w1 w2 : World} {b o1 o2 o3 h2 : Nat} {c1 c2 c3 d0 d1 : Value} (q : b < wl.heap.size ∧ wl.cell? ⟨b, o1, none⟩ = some c1 ∧ wl.cell? ⟨b, o2, none⟩ = some c2 ∧ wl.cell? ⟨b, o3, none⟩ = some c3) (p2 : Pair wl h2 d0 d1) (h : Below w1.heap.size w1 w2) (hb : Below wl.heap.size wl w1) :
    Below wl.heap.size wl w2 ∧ w2.cell? ⟨b, o1, none⟩ = some c1 ∧ w2.cell? ⟨b, o2, none⟩ = some c2 ∧ w2.cell? ⟨b, o3, none⟩ = some c3 ∧ w2.cell? ⟨h2, 0, none⟩ = some d0 ∧ w2.cell? ⟨h2, 1, none⟩ = some d1 :=
  have a := bt hb h
  ⟨a, (a.cell (p := ⟨b, o1, none⟩) q.1).trans q.2.1, (a.cell (p := ⟨b, o2, none⟩) q.1).trans q.2.2.1, (a.cell (p := ⟨b, o3, none⟩) q.1).trans q.2.2.2, (p2.keeps a).2.1, (p2.keeps a).2.2⟩

theorem runs_bump : ∀ (l : List Run) (k : Nat), l.length = k + 1 → (-9223372036854775808 ≤ (l.getD k zrun).m + 1 ∧ (l.getD k zrun).m + 1 ≤ 9223372036854775807) →
    (runs l).set (k * 3 + 2) (.int .i64 ((l.getD k zrun).m + 1)) = runs (l.take k ++ [mkRun (l.getD k zrun).t (l.getD k zrun).r ((l.getD k zrun).m + 1)])
  | [], k, h, _ => by simp at h
  | x :: l, 0, h, hb => by
    have : l = [] := List.length_eq_zero_iff.1 (by simpa using h)
    subst this
    simp only [List.getD_cons_zero] at hb
    simp [runs, mkRun_t x.ht, mkRun_r x.hr, mkRun_m hb]
  | x :: l, k + 1, h, hb => by
    have ih := runs_bump l k (by simpa using h) (by simpa using hb)
    rw [show (k + 1) * 3 + 2 = (k * 3 + 2) + 1 + 1 + 1 by omega]
    simp only [List.getD_cons_succ, List.take_succ_cons, List.cons_append, runs, List.set_cons_succ]
    rw [ih]

/-- Does the stamp stand right behind the last run? -/
def joinsB (l : List Run) (a : Id) : Bool := decide (0 < l.length ∧ (l.getD (l.length - 1) zrun).r = a.r ∧ fin (l.getD (l.length - 1) zrun) + 1 = (a.t : Int))

end Go.Proofs.Ytmgdbgloacbacaa.Place

/- The law ClockIs: its walk. Conditions: the slices' cells are replicas' spans, and stamps; no slice of spans takes more than 2^47 bytes. -/
namespace Go.Proofs.Ytmgdbgloacbacaa.Clocks
open Go.RowKit Go.Proofs.Ytmgdbgloacbacaa.Spans Go.Proofs.Ytmgdbgloacbacaa.Srt
attribute [local go_sem ↓] Go.wp_at_zero Go.wp_at_succ

theorem ofMany_any {ao : Option Addr} {n cap : Nat} {w : World} (hbig : 1024 < n) (hm : n ≤ 1000000) : Calls Try.prog 10 #[.slice ao n cap] w (DoneC [] 4 w) := by
  have t1 : decide ((1024 : Int) < (n : Int)) = true := decide_eq_true (by omega)
  have t2 : decide (1024 < n) = true := decide_eq_true hbig
  go_enter Try.func10, Try.ntmps10
  go_wp2
  go_ret2
  exact ⟨_, rfl, OwnC.nil _ _, Below.refl _ _⟩
/-- clock.Of, of however many. -/
theorem ofAll_any {v : Value} {l : List Id} {w : World} (hv : Ids w v l) (hl : l.length ≤ 1000000) : Calls Try.prog 10 #[v] w (DoneC (ofC l).1 (ofC l).2 w) := by
  by_cases h : 1024 < l.length
  · obtain ⟨ao, cap, rfl⟩ := hv.shape
    have e : ofC l = ([], 4) := by unfold ofC; rw [if_pos h]
    rw [e]
    exact ofMany_any h hl
  · exact cOf_any sort_many (by decide) hv (by omega)
theorem two_of {wl w' : World} {h : Nat} {c0 c1 : Value} (p : Pair wl h c0 c1) (hb : Below wl.heap.size wl w') : Below wl.heap.size wl w' ∧ w'.cell? ⟨h, 0, none⟩ = some c0 ∧ w'.cell? ⟨h, 1, none⟩ = some c1 := ⟨hb, (p.keeps hb).2.1, (p.keeps hb).2.2⟩
theorem two_call {wl w1 w2 : World} {h : Nat} {c0 c1 : Value} (p : Pair wl h c0 c1) (b : Below w1.heap.size w1 w2) (hb : Below wl.heap.size wl w1) : Below wl.heap.size wl w2 ∧ w2.cell? ⟨h, 0, none⟩ = some c0 ∧ w2.cell? ⟨h, 1, none⟩ = some c1 := two_of p (bt hb b)

set_option maxRecDepth 100000 in
set_option maxHeartbeats 16000000 in
theorem is_walk (ao0 : Option Addr) (cap0 : Nat) (l0 : List Tm) (ao1 : Option Addr) (cap1 : Nat) (l1 : List Tm) (a : Id) (ao2 : Option Addr) (cap2 : Nat) (l2 : List Id) (w : World)
    (hr0 : Tms w (.slice ao0 l0.length cap0) l0) (hr1 : Tms w (.slice ao1 l1.length cap1) l1) (hr2 : Ids w (.slice ao2 l2.length cap2) l2) (hz0 : ∀ x ∈ l0, x.2.length ≤ 17592186044416) (hz1 : ∀ x ∈ l1, x.2.length ≤ 17592186044416) :
    Calls Try.prog 3 #[.slice ao0 l0.length cap0, .slice ao1 l1.length cap1, .agg #[.int .u32 (a.t : Int), .int .u8 (a.r : Int)], .slice ao2 l2.length cap2] w fun e w' => e = .returned (.bool true) ∧ Below w.heap.size w w' := by
  have G0 : Hid (∀ W : World, Below w.heap.size w W → Calls Try.prog 5 #[.slice ao0 l0.length cap0] W fun e w' => (∃ g, e = .returned (.bool g) ∧ (g = false → l0.length ≤ 300 ∧ tot l0 ≤ 300)) ∧ W = w') := fun W hW => great_sz (hr0.keeps hW) hz0
  have G1 : Hid (∀ W : World, Below w.heap.size w W → Calls Try.prog 5 #[.slice ao1 l1.length cap1] W fun e w' => (∃ g, e = .returned (.bool g) ∧ (g = false → l1.length ≤ 300 ∧ tot l1 ≤ 300)) ∧ W = w') := fun W hW => great_sz (hr1.keeps hW) hz1
  have H0 := Lib.hid hr0
  have H1 := Lib.hid hr1
  have H2 := Lib.hid hr2
  have HB1 : Hid (Below w.heap.size w (w.alloc (.cells #[.int .u32 (a.t : Int), .int .u8 (a.r : Int)] 25))) := (Below.refl _ _).alloc (Nat.le_refl _) _
  have PX := Lib.hid (pair_new w (.int .u32 (a.t : Int)) (.int .u8 (a.r : Int)) 25)
  obtain ⟨n2, hn2⟩ : ∃ n, n = l2.length := ⟨_, rfl⟩
  rw [← hn2] at H2 ⊢
  have HN2 := Lib.hid hn2
  clear hr0 hr1 hr2 hz0 hz1 hn2
  by_cases h2000 : 2000 < n2
  · have t1 : decide ((2000 : Int) < (n2 : Int)) = true := decide_eq_true (by omega)
    have t2 : decide (2000 < n2) = true := decide_eq_true h2000
    go_enter Try.func3, Try.ntmps3
    go_wp2_with fail
    refine (G0.out _ HB1.out).mono ?_
    rintro e w1 ⟨⟨g0, rfl, hg0⟩, rfl⟩
    clear hg0
    cases g0
    · go_wp2_with fail
      refine (G1.out _ HB1.out).mono ?_
      rintro e w1 ⟨⟨g1, rfl, hg1⟩, rfl⟩
      clear hg1
      cases g1
      all_goals
        go_wp2
        go_ret
        exact ⟨rfl, HB1.out⟩
    · go_wp2
      go_ret
      exact ⟨rfl, HB1.out⟩
  have t1 : decide ((2000 : Int) < (n2 : Int)) = false := decide_eq_false (by omega)
  have t2 : decide (2000 < n2) = false := decide_eq_false h2000
  go_enter Try.func3, Try.ntmps3
  go_wp2_with fail
  refine (G0.out _ HB1.out).mono ?_
  rintro e w1 ⟨⟨g0, rfl, hg0⟩, rfl⟩
  have HG0 := Lib.hid hg0
  clear hg0
  cases g0
  case true =>
    go_wp2
    go_ret
    exact ⟨rfl, HB1.out⟩
  go_wp2_with fail
  refine (G1.out _ HB1.out).mono ?_
  rintro e w1 ⟨⟨g1, rfl, hg1⟩, rfl⟩
  have HG1 := Lib.hid hg1
  clear hg1
  cases g1
  case true =>
    go_wp2
    go_ret
    exact ⟨rfl, HB1.out⟩
  obtain ⟨s0, z0⟩ := HG0.out (by trivial)
  obtain ⟨I, c, hI⟩ : ∃ I c, idsCC l0 = (I, c) := ⟨_, _, rfl⟩
  obtain ⟨C, d, hC⟩ : ∃ C d, ofC l2 = (C, d) := ⟨_, _, rfl⟩
  obtain ⟨cc, hcc⟩ : ∃ x, x = chkC l0 := ⟨_, rfl⟩
  obtain ⟨qh, hqh⟩ : ∃ x, x = hasC l0 a := ⟨_, rfl⟩
  obtain ⟨nc, hnc⟩ : ∃ x, x = countC l0 := ⟨_, rfl⟩
  obtain ⟨nt, hnt⟩ : ∃ x, x = topCC l0 := ⟨_, rfl⟩
  obtain ⟨qs, hqs⟩ : ∃ x, x = decide (l0 = l1) := ⟨_, rfl⟩
  have TW := Lib.hid (twin_lit s0 z0)
  have RW := Lib.hid (rtwin_lit s0 z0)
  have OI : Hid (∀ (W : World) (v : Value), Tms W v l0 → Calls Try.prog 8 #[v] W (DoneI I c W)) := fun W v h => by have := cIds_any h; rwa [hI] at this
  have RI : Hid (∀ (W : World) (v : Value), Tms W v l0 → Calls Try.prog 9 #[v] W (DoneI I c W)) := fun W v h => by have := refIdsC_any h; rwa [hI] at this
  have OO : Hid (∀ (W : World) (v : Value), Ids W v l2 → Calls Try.prog 10 #[v] W (DoneC C d W)) := fun W v h => by have := ofAll_any h (by rw [← HN2.out]; omega); rwa [hC] at this
  have RO : Hid (∀ (W : World) (v : Value), Ids W v l2 → Calls Try.prog 11 #[v] W (DoneC C d W)) := fun W v h => by have := refOfC_any h; rwa [hC] at this
  have SC := Lib.hid (rsame_lit (decide_eq_true (rfl : C = C)))
  have S0 := Lib.hid (rsame_lit (decide_eq_true (rfl : l0 = l0)))
  have SI : Hid (∀ (W : World) (v u : Value), Ids W v I → Ids W u I → Calls Try.prog 12 #[v, u] W fun e w' => e = .returned (.bool true) ∧ Below W.heap.size W w') := fun W v u h h2 => Place.sameIds_yes h h2
  have K1 : Hid (∀ (W : World) (v : Value), Tms W v l0 → Calls Try.prog 14 #[v] W fun e w' => e = .returned (.int .i64 cc) ∧ Below W.heap.size W w') := fun W v h => by rw [hcc]; exact cCheck_any h
  have K2 : Hid (∀ (W : World) (v : Value), Tms W v l0 → Calls Try.prog 15 #[v] W fun e w' => e = .returned (.int .i64 cc) ∧ Below W.heap.size W w') := fun W v h => by rw [hcc]; exact refCheckC_any h
  have K3 : Hid (∀ (W : World) (v : Value), Tms W v l0 → Calls Try.prog 16 #[v, .agg #[.int .u32 (a.t : Int), .int .u8 (a.r : Int)]] W fun e w' => e = .returned (.bool qh) ∧ Below W.heap.size W w') := fun W v h => by rw [hqh]; exact cHas_any a h
  have K4 : Hid (∀ (W : World) (v : Value), Tms W v l0 → Calls Try.prog 17 #[v, .agg #[.int .u32 (a.t : Int), .int .u8 (a.r : Int)]] W fun e w' => e = .returned (.bool qh) ∧ Below W.heap.size W w') := fun W v h => by rw [hqh]; exact refHasC_any a h
  have K5 : Hid (∀ (W : World) (v : Value), Tms W v l0 → Calls Try.prog 18 #[v] W fun e w' => e = .returned (.int .i64 (nc : Int)) ∧ Below W.heap.size W w') := fun W v h => by rw [hnc]; exact cCount_any h
  have K6 : Hid (∀ (W : World) (v : Value), Tms W v l0 → Calls Try.prog 19 #[v] W fun e w' => e = .returned (.int .i64 (nc : Int)) ∧ Below W.heap.size W w') := fun W v h => by rw [hnc]; exact refCountC_any h
  have K7 : Hid (∀ (W : World) (v : Value), Tms W v l0 → Calls Try.prog 20 #[v] W fun e w' => e = .returned (.int .u32 (nt : Int)) ∧ Below W.heap.size W w') := fun W v h => by rw [hnt]; exact cTop_any h
  have K8 : Hid (∀ (W : World) (v : Value), Tms W v l0 → Calls Try.prog 21 #[v] W fun e w' => e = .returned (.int .u32 (nt : Int)) ∧ Below W.heap.size W w') := fun W v h => by rw [hnt]; exact refTopC_any h
  have K9 : Hid (∀ (W : World) (v u : Value), Tms W v l0 → Tms W u l1 → Calls Try.prog 22 #[v, u] W fun e w' => e = .returned (.bool qs) ∧ Below W.heap.size W w') := fun W v u h h2 => by rw [hqs]; exact cSame_any h h2
  have KA : Hid (∀ (W : World) (v u : Value), Tms W v l0 → Tms W u l1 → Calls Try.prog 13 #[v, u] W fun e w' => e = .returned (.bool qs) ∧ Below W.heap.size W w') := fun W v u h h2 => by rw [hqs]; exact refSameC_any h h2
  have KB : Hid (∀ (W : World) (v u : Value), Tms W v l0 → Tms W u l0 → Calls Try.prog 22 #[v, u] W fun e w' => e = .returned (.bool true) ∧ Below W.heap.size W w') := fun W v u h h2 => by have := cSame_any h h2; rwa [decide_eq_true rfl] at this
  obtain ⟨n0, hn0⟩ : ∃ n, n = l0.length := ⟨_, rfl⟩
  obtain ⟨n1, hn1⟩ : ∃ n, n = l1.length := ⟨_, rfl⟩
  rw [← hn0] at H0 ⊢
  rw [← hn1] at H1 ⊢
  obtain ⟨ia, ir, iht, ihr⟩ := a
  simp only at K3 K4 PX HB1 ⊢
  clear hI hC hcc hqh hnc hnt hqs s0 z0 G0 G1 HG0 HG1 hn0 hn1
  go_wp2_with fail
  refine (RW.out _ _ (H0.out.keeps HB1.out)).mono ?_
  rintro e w2 ⟨vx, rfl, o2, b2⟩
  have HB2 := Lib.hid b2
  have Sx := Lib.hid o2.tms
  obtain ⟨aox, capx, rfl⟩ := o2.tms.shape
  clear o2
  clear b2
  go_wp2_with fail
  refine (TW.out _ _ (Sx.out.keeps (Below.refl _ _))).mono ?_
  rintro e w3 ⟨vt, rfl, o3, b3⟩
  have HB3 := Lib.hid b3
  have St := Lib.hid o3.tms
  have Pt := Lib.hid (OwnC.spl o3)
  obtain ⟨aot, capt, rfl⟩ := o3.tms.shape
  clear o3
  clear b3
  go_wp2_with fail
  refine (OI.out _ _ (Sx.out.keeps HB3.out)).mono ?_
  rintro e w4 ⟨vm, rfl, o4, b4⟩
  have HB4 := Lib.hid b4
  have Sm := Lib.hid (Ids.own o4)
  obtain ⟨aom, capm, rfl⟩ := (Ids.own o4).shape
  clear o4
  clear b4
  go_wp2_with fail
  refine (RI.out _ _ (H0.out.keeps (bt HB1.out (bt HB2.out (bt HB3.out HB4.out))))).mono ?_
  rintro e w5 ⟨vn, rfl, o5, b5⟩
  have HB5 := Lib.hid b5
  have Sn := Lib.hid (Ids.own o5)
  obtain ⟨aon, capn, rfl⟩ := (Ids.own o5).shape
  clear o5
  clear b5
  go_wp2_with fail
  refine (OO.out _ _ (H2.out.keeps (bt HB1.out (bt HB2.out (bt HB3.out (bt HB4.out HB5.out)))))).mono ?_
  rintro e w6 ⟨vc, rfl, o6, b6⟩
  have HB6 := Lib.hid b6
  have Sc := Lib.hid o6.tms
  obtain ⟨aoc, capc, rfl⟩ := o6.tms.shape
  clear o6
  clear b6
  go_wp2_with fail
  refine (RO.out _ _ (H2.out.keeps (bt HB1.out (bt HB2.out (bt HB3.out (bt HB4.out (bt HB5.out HB6.out))))))).mono ?_
  rintro e w7 ⟨vd, rfl, o7, b7⟩
  have HB7 := Lib.hid b7
  have Sd := Lib.hid o7.tms
  obtain ⟨aod, capd, rfl⟩ := o7.tms.shape
  clear o7
  clear b7
  go_wp2_with fail
  refine (SI.out _ _ _ (Sm.out.keeps (bt HB5.out (bt HB6.out HB7.out))) (Sn.out.keeps (bt HB6.out HB7.out))).mono ?_
  rintro e w8 ⟨rfl, b8⟩
  have HB8 := Lib.hid b8
  clear b8
  go_wp2_with fail
  refine (SC.out _ _ _ (Sc.out.keeps (bt HB7.out HB8.out)) (Sd.out.keeps HB8.out)).mono ?_
  rintro e w9 ⟨rfl, b9⟩
  have HB9 := Lib.hid b9
  clear b9
  go_wp2_with fail
  refine (S0.out _ _ _ (St.out.keeps (bt HB4.out (bt HB5.out (bt HB6.out (bt HB7.out (bt HB8.out HB9.out)))))) (H0.out.keeps (bt HB1.out (bt HB2.out (bt HB3.out (bt HB4.out (bt HB5.out (bt HB6.out (bt HB7.out (bt HB8.out HB9.out)))))))))).mono ?_
  rintro e w10 ⟨rfl, b10⟩
  have HB10 := Lib.hid b10
  clear b10
  go_wp2_with fail
  have XX := Lib.hid (Sx.out.keeps (bt HB3.out (bt HB4.out (bt HB5.out (bt HB6.out (bt HB7.out (bt HB8.out (bt HB9.out HB10.out))))))))
  have XA := Lib.hid (H0.out.keeps (bt HB1.out (bt HB2.out (bt HB3.out (bt HB4.out (bt HB5.out (bt HB6.out (bt HB7.out (bt HB8.out (bt HB9.out HB10.out))))))))))
  have XB := Lib.hid (H1.out.keeps (bt HB1.out (bt HB2.out (bt HB3.out (bt HB4.out (bt HB5.out (bt HB6.out (bt HB7.out (bt HB8.out (bt HB9.out HB10.out))))))))))
  have XT := Lib.hid (Pt.out.keeps (bt HB4.out (bt HB5.out (bt HB6.out (bt HB7.out (bt HB8.out (bt HB9.out HB10.out)))))))
  have XP := Lib.hid (PX.out.keeps (bt HB2.out (bt HB3.out (bt HB4.out (bt HB5.out (bt HB6.out (bt HB7.out (bt HB8.out (bt HB9.out HB10.out)))))))))
  obtain ⟨wl, hwl⟩ : ∃ x, x = w10 := ⟨_, rfl⟩
  have BL : Hid (Below w.heap.size w wl) := by rw [hwl]; exact (bt HB1.out (bt HB2.out (bt HB3.out (bt HB4.out (bt HB5.out (bt HB6.out (bt HB7.out (bt HB8.out (bt HB9.out HB10.out)))))))))
  have BLT : Hid (w2.heap.size ≤ w3.heap.size ∧ Below w3.heap.size w3 wl) := by rw [hwl]; exact ⟨HB3.out.size, (bt HB4.out (bt HB5.out (bt HB6.out (bt HB7.out (bt HB8.out (bt HB9.out HB10.out))))))⟩
  have BXL : Hid (Below w2.heap.size w2 wl) := by rw [hwl]; exact (bt HB3.out (bt HB4.out (bt HB5.out (bt HB6.out (bt HB7.out (bt HB8.out (bt HB9.out HB10.out)))))))
  rw [← hwl] at XX XA XB XT XP ⊢
  obtain ⟨h6, hh6⟩ : ∃ h, h = w.heap.size := ⟨_, rfl⟩
  rw [← hh6] at XP ⊢
  clear hwl hh6
  have C1 : Hid (∀ W : World, Below wl.heap.size wl W → Calls Try.prog 14 #[.slice aox l0.length capx] W fun e w' => e = .returned (.int .i64 cc) ∧ Below W.heap.size W w') := fun W h => K1.out _ _ (XX.out.keeps h)
  have C2 : Hid (∀ W : World, Below wl.heap.size wl W → Calls Try.prog 15 #[.slice ao0 n0 cap0] W fun e w' => e = .returned (.int .i64 cc) ∧ Below W.heap.size W w') := fun W h => K2.out _ _ (XA.out.keeps h)
  have C3 : Hid (∀ W : World, Below wl.heap.size wl W → Calls Try.prog 16 #[.slice aox l0.length capx, .agg #[.int .u32 (ia : Int), .int .u8 (ir : Int)]] W fun e w' => e = .returned (.bool qh) ∧ Below W.heap.size W w') := fun W h => K3.out _ _ (XX.out.keeps h)
  have C4 : Hid (∀ W : World, Below wl.heap.size wl W → Calls Try.prog 17 #[.slice ao0 n0 cap0, .agg #[.int .u32 (ia : Int), .int .u8 (ir : Int)]] W fun e w' => e = .returned (.bool qh) ∧ Below W.heap.size W w') := fun W h => K4.out _ _ (XA.out.keeps h)
  have C5 : Hid (∀ W : World, Below wl.heap.size wl W → Calls Try.prog 18 #[.slice aox l0.length capx] W fun e w' => e = .returned (.int .i64 (nc : Int)) ∧ Below W.heap.size W w') := fun W h => K5.out _ _ (XX.out.keeps h)
  have C6 : Hid (∀ W : World, Below wl.heap.size wl W → Calls Try.prog 19 #[.slice ao0 n0 cap0] W fun e w' => e = .returned (.int .i64 (nc : Int)) ∧ Below W.heap.size W w') := fun W h => K6.out _ _ (XA.out.keeps h)
  have C7 : Hid (∀ W : World, Below wl.heap.size wl W → Calls Try.prog 20 #[.slice aox l0.length capx] W fun e w' => e = .returned (.int .u32 (nt : Int)) ∧ Below W.heap.size W w') := fun W h => K7.out _ _ (XX.out.keeps h)
  have C8 : Hid (∀ W : World, Below wl.heap.size wl W → Calls Try.prog 21 #[.slice ao0 n0 cap0] W fun e w' => e = .returned (.int .u32 (nt : Int)) ∧ Below W.heap.size W w') := fun W h => K8.out _ _ (XA.out.keeps h)
  have C9 : Hid (∀ W : World, Below wl.heap.size wl W → Calls Try.prog 22 #[.slice aox l0.length capx, .slice ao1 n1 cap1] W fun e w' => e = .returned (.bool qs) ∧ Below W.heap.size W w') := fun W h => K9.out _ _ _ (XX.out.keeps h) (XB.out.keeps h)
  have CA : Hid (∀ W : World, Below wl.heap.size wl W → Calls Try.prog 13 #[.slice ao0 n0 cap0, .slice ao1 n1 cap1] W fun e w' => e = .returned (.bool qs) ∧ Below W.heap.size W w') := fun W h => KA.out _ _ _ (XA.out.keeps h) (XB.out.keeps h)
  have CB : Hid (∀ W : World, Below wl.heap.size wl W → Calls Try.prog 22 #[.slice aox l0.length capx, .slice ao0 n0 cap0] W fun e w' => e = .returned (.bool true) ∧ Below W.heap.size W w') := fun W h => KB.out _ _ _ (XX.out.keeps h) (XA.out.keeps h)
  go_region_held3 (fun w' => Below wl.heap.size wl w' ∧ w'.cell? ⟨h6, 0, none⟩ = some (.int .u32 (ia : Int)) ∧ w'.cell? ⟨h6, 1, none⟩ = some (.int .u8 (ir : Int)))
    (first | exact two_call XP.out (drew1 _) (Below.refl _ _) | (go_split_ands; exact two_call XP.out (drew1 _) (by assumption)) | (go_split_ands; exact two_call XP.out (by assumption) (by assumption)))
    ((first | (go_at_call 14; go_split_ands; (with_reducible refine (C1.out _ (by assumption)).mono ?_); rintro e w9 ⟨rfl, b9⟩) | (go_at_call 15; go_split_ands; (with_reducible refine (C2.out _ (by assumption)).mono ?_); rintro e w9 ⟨rfl, b9⟩) | (go_at_call 16; go_split_ands; (with_reducible refine (C3.out _ (by assumption)).mono ?_); rintro e w9 ⟨rfl, b9⟩) | (go_at_call 17; go_split_ands; (with_reducible refine (C4.out _ (by assumption)).mono ?_); rintro e w9 ⟨rfl, b9⟩) | (go_at_call 18; go_split_ands; (with_reducible refine (C5.out _ (by assumption)).mono ?_); rintro e w9 ⟨rfl, b9⟩) | (go_at_call 19; go_split_ands; (with_reducible refine (C6.out _ (by assumption)).mono ?_); rintro e w9 ⟨rfl, b9⟩) | (go_at_call 20; go_split_ands; (with_reducible refine (C7.out _ (by assumption)).mono ?_); rintro e w9 ⟨rfl, b9⟩) | (go_at_call 21; go_split_ands; (with_reducible refine (C8.out _ (by assumption)).mono ?_); rintro e w9 ⟨rfl, b9⟩) | (go_at_call 13; go_split_ands; (with_reducible refine (CA.out _ (by assumption)).mono ?_); rintro e w9 ⟨rfl, b9⟩) | (go_at_call 22; go_split_ands; (first | ((with_reducible refine (C9.out _ (by assumption)).mono ?_); rintro e w9 ⟨rfl, b9⟩) | ((with_reducible refine (CB.out _ (by assumption)).mono ?_); rintro e w9 ⟨rfl, b9⟩)))))
  go_wp2_with fail
  go_split_ands
  have hbl : Below wl.heap.size wl w9 := by assumption
  have XT2 := Lib.hid (XT.out.keeps hbl)
  have BX9 := Lib.hid (bt BXL.out hbl)
  have B9 := Lib.hid (bt BL.out hbl)
  generalize w9 = wz at XT2 BX9 B9 ⊢
  refine (spoilC_any XT2.out).mono ?_
  rintro e y1 ⟨rfl, s1⟩
  have BY : Hid (Below w2.heap.size w2 y1) := BX9.out.trans s1.1
  clear s1
  go_wp2_with fail
  refine (S0.out _ _ _ (Sx.out.keeps BY.out) (H0.out.keeps (bt (bt HB1.out HB2.out) BY.out))).mono ?_
  rintro e y2 ⟨rfl, d2⟩
  have D2 := Lib.hid (bt BY.out d2)
  clear d2
  go_wp2
  go_ret
  exact ⟨rfl, bt (bt HB1.out HB2.out) D2.out⟩
end Go.Proofs.Ytmgdbgloacbacaa.Clocks
