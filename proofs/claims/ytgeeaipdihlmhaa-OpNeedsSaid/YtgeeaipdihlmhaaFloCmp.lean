/- Whole numbers below 2^53 as 64-bit floats: how two stand to each other, and the way back to other kinds. Conditions: each number is below 2^53. -/
import Derived.Test.YtgeeaipdihlmhaaFlo
namespace Go.Proofs.Ytgeeaipdihlmhaa.Flo
open Ieee

theorem order_fl (a b : Nat) (ha : a < 2 ^ 53) (hb : b < 2 ^ 53) : FloatKind.f64.format.order (fl a) (fl b) = some (compare a b) := by
  obtain ⟨s, hs⟩ := read_fl a ha
  obtain ⟨t, ht⟩ := read_fl b hb
  show (double.read (fl a)).order (double.read (fl b)) = _
  rw [hs, ht]
  show some (compare (((a * 2 ^ s) <<< (-(s : Int) - min (-(s : Int)) (-(t : Int))).toNat : Nat) : Int) (((b * 2 ^ t) <<< (-(t : Int) - min (-(s : Int)) (-(t : Int))).toNat : Nat) : Int)) = _
  have e1 : (-(s : Int) - min (-(s : Int)) (-(t : Int))).toNat = max s t - s := by omega
  have e2 : (-(t : Int) - min (-(s : Int)) (-(t : Int))).toNat = max s t - t := by omega
  rw [e1, e2, up_eq a s _ (by omega), up_eq b t _ (by omega)]
  have hp : 0 < 2 ^ max s t := Nat.two_pow_pos _
  generalize 2 ^ max s t = g at hp
  congr 1
  have h1 : compare a b = compareOfLessAndEq a b := rfl
  have h2 : compare ((a * g : Nat) : Int) ((b * g : Nat) : Int) = compareOfLessAndEq ((a * g : Nat) : Int) ((b * g : Nat) : Int) := rfl
  rw [h1, h2]
  unfold compareOfLessAndEq
  by_cases hlt : a < b
  · have h : a * g < b * g := (Nat.mul_lt_mul_right hp).2 hlt
    rw [if_pos hlt, if_pos (by omega)]
  · have h : ¬ (a * g < b * g) := fun h => hlt ((Nat.mul_lt_mul_right hp).1 h)
    rw [if_neg hlt, if_neg (by omega)]
    by_cases he : a = b
    · subst he; rw [if_pos rfl, if_pos rfl]
    · have h : ¬ (a * g = b * g) := fun h => he (Nat.eq_of_mul_eq_mul_right hp h)
      rw [if_neg he, if_neg (by omega)]

theorem eq_fl (a b : Nat) (ha : a < 2 ^ 53) (hb : b < 2 ^ 53) : (FloatKind.f64.format.order (fl a) (fl b) == some .eq) = decide (a = b) := by
  rw [order_fl a b ha hb]
  have h1 : compare a b = compareOfLessAndEq a b := rfl
  rw [h1]
  unfold compareOfLessAndEq
  by_cases hlt : a < b
  · rw [if_pos hlt, decide_eq_false (by omega)]; rfl
  · rw [if_neg hlt]
    by_cases he : a = b
    · rw [if_pos he, decide_eq_true he]; rfl
    · rw [if_neg he, decide_eq_false he]; rfl
theorem lt_fl (a b : Nat) (ha : a < 2 ^ 53) (hb : b < 2 ^ 53) : (FloatKind.f64.format.order (fl a) (fl b) == some .lt) = decide (a < b) := by
  rw [order_fl a b ha hb]
  have h1 : compare a b = compareOfLessAndEq a b := rfl
  rw [h1]
  unfold compareOfLessAndEq
  by_cases hlt : a < b
  · rw [if_pos hlt, decide_eq_true hlt]; rfl
  · rw [if_neg hlt, decide_eq_false hlt]
    by_cases he : a = b
    · rw [if_pos he]; rfl
    · rw [if_neg he]; rfl
theorem gt_fl (a b : Nat) (ha : a < 2 ^ 53) (hb : b < 2 ^ 53) : (FloatKind.f64.format.order (fl a) (fl b) == some .gt) = decide (b < a) := by
  rw [order_fl a b ha hb]
  have h1 : compare a b = compareOfLessAndEq a b := rfl
  rw [h1]
  unfold compareOfLessAndEq
  by_cases hlt : a < b
  · rw [if_pos hlt, decide_eq_false (by omega)]; rfl
  · rw [if_neg hlt]
    by_cases he : a = b
    · rw [if_pos he, decide_eq_false (by omega)]; rfl
    · rw [if_neg he, decide_eq_true (by omega)]; rfl

theorem intVal_u32 (a : Nat) (ha : a < 4294967296) : floatToIntVal .f64 (fl a) .u32 = some (a : Int) := by
  unfold floatToIntVal
  rw [toInt_fl a (by omega)]
  have h1 : IntKind.u32.min = 0 := rfl
  have h2 : IntKind.u32.max = 4294967295 := rfl
  simp only [h1, h2]
  rw [if_pos (by omega)]
theorem intVal_u8 (a : Nat) (ha : a < 256) : floatToIntVal .f64 (fl a) .u8 = some (a : Int) := by
  unfold floatToIntVal
  rw [toInt_fl a (by omega)]
  have h1 : IntKind.u8.min = 0 := rfl
  have h2 : IntKind.u8.max = 255 := rfl
  simp only [h1, h2]
  rw [if_pos (by omega)]
theorem fl_30 : fl 1073741824 = 4742290407621132288 := by decide
end Go.Proofs.Ytgeeaipdihlmhaa.Flo
