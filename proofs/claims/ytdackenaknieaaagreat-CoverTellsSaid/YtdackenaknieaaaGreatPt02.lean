/- octavoref06: end, one, Long, Final: what each answers. Conditions: the slices' cells are runs; Long: the sums fit. -/
import Derived.WalkLawsBesides
import Derived.WalkKit
import Derived.WalkSpells
import Derived.RegionTactic
import Derived.Deep.RegionHeld3
import Derived.Test.YtdackenaknieaaaGreatPt01

namespace Go.Proofs.YtdackenaknieaaaGreat.Place
open Go.RowKit Stamp
attribute [local go_sem ↓] Go.wp_at_zero Go.wp_at_succ

theorem end_any (t r : Nat) (m : Int) (ht : t < 4294967296) (hm : 1 ≤ m ∧ m ≤ 4096) (w : World) :
    Calls Tryz.prog 153 #[.agg #[.int .u32 (t : Int), .int .u8 (r : Int), .int .i64 m]] w fun e w' => e = .returned (.int .i64 ((t : Int) + m - 1)) ∧ Below w.heap.size w w' := by
  obtain ⟨h1, h2⟩ := hm
  go_enter Tryz.func153, Tryz.ntmps153
  go_wp2
  go_ret
  exact ⟨rfl, (Below.refl _ _).alloc (Nat.le_refl _) _⟩

/-- May a run be, by itself, as a Bool. -/
def oneB (t r : Nat) (m : Int) : Bool := decide (1 ≤ t ∧ t ≤ 1073741824 ∧ r < 8 ∧ 1 ≤ m ∧ m ≤ 4096 ∧ (t : Int) + m - 1 ≤ 1073741824)
theorem oneB_iff (x : Run) : oneB x.t x.r x.m = true ↔ One x := by unfold oneB One; rw [decide_eq_true_iff]

set_option maxHeartbeats 1000000 in
theorem one_any (t r : Nat) (m : Int) (ht : t < 4294967296) (w : World) :
    Calls Tryz.prog 152 #[.agg #[.int .u32 (t : Int), .int .u8 (r : Int), .int .i64 m]] w fun e w' => e = .returned (.bool (oneB t r m)) ∧ Below w.heap.size w w' := by
  have q : (decide (1 ≤ (t : Int)) = false ∧ t = 0 ∧ oneB t r m = false) ∨ (decide (1 ≤ (t : Int)) = true ∧ 1 ≤ t ∧ decide ((t : Int) ≤ 1073741824) = false ∧ oneB t r m = false) ∨
      (decide (1 ≤ (t : Int)) = true ∧ 1 ≤ t ∧ decide ((t : Int) ≤ 1073741824) = true ∧ decide ((r : Int) < 8) = false ∧ oneB t r m = false) ∨
      (decide (1 ≤ (t : Int)) = true ∧ 1 ≤ t ∧ decide ((t : Int) ≤ 1073741824) = true ∧ decide ((r : Int) < 8) = true ∧ decide (1 ≤ m) = false ∧ oneB t r m = false) ∨
      (decide (1 ≤ (t : Int)) = true ∧ 1 ≤ t ∧ decide ((t : Int) ≤ 1073741824) = true ∧ decide ((r : Int) < 8) = true ∧ decide (1 ≤ m) = true ∧ decide (m ≤ 4096) = false ∧ oneB t r m = false) ∨
      (decide (1 ≤ (t : Int)) = true ∧ 1 ≤ t ∧ decide ((t : Int) ≤ 1073741824) = true ∧ decide ((r : Int) < 8) = true ∧ decide (1 ≤ m) = true ∧ decide (m ≤ 4096) = true ∧ (1 ≤ m ∧ m ≤ 4096) ∧ oneB t r m = decide ((t : Int) + m - 1 ≤ 1073741824)) := by
    unfold oneB
    by_cases h1 : 1 ≤ t
    · by_cases h2 : t ≤ 1073741824
      · by_cases h3 : r < 8
        · by_cases h4 : 1 ≤ m
          · by_cases h5 : m ≤ 4096
            · refine .inr (.inr (.inr (.inr (.inr ⟨decide_eq_true (by omega), h1, decide_eq_true (by omega), decide_eq_true (by omega), decide_eq_true h4, decide_eq_true h5, ⟨h4, h5⟩, ?_⟩))))
              rw [decide_eq_decide]; omega
            · exact .inr (.inr (.inr (.inr (.inl ⟨decide_eq_true (by omega), h1, decide_eq_true (by omega), decide_eq_true (by omega), decide_eq_true h4, decide_eq_false h5, decide_eq_false (by omega)⟩))))
          · exact .inr (.inr (.inr (.inl ⟨decide_eq_true (by omega), h1, decide_eq_true (by omega), decide_eq_true (by omega), decide_eq_false h4, decide_eq_false (by omega)⟩)))
        · exact .inr (.inr (.inl ⟨decide_eq_true (by omega), h1, decide_eq_true (by omega), decide_eq_false (by omega), decide_eq_false (by omega)⟩))
      · exact .inr (.inl ⟨decide_eq_true (by omega), h1, decide_eq_false (by omega), decide_eq_false (by omega)⟩)
    · exact .inl ⟨decide_eq_false (by omega), by omega, decide_eq_false (by omega)⟩
  rcases q with ⟨q1, g, h⟩ | ⟨q1, g, q2, h⟩ | ⟨q1, g, q2, q3, h⟩ | ⟨q1, g, q2, q3, q4, h⟩ | ⟨q1, g, q2, q3, q4, q5, h⟩ | ⟨q1, g, q2, q3, q4, q5, q6, h⟩
  case inr.inr.inr.inr.inr =>
    have E := Lib.hid (end_any t r m ht q6)
    have P0 := Lib.hid (Tri.keeps (tri_new w (.int .u32 (t : Int)) (.int .u8 (r : Int)) (.int .i64 m) 49) (Below.refl _ _))
    obtain ⟨z, hz⟩ : ∃ z, z = (t : Int) + m - 1 := ⟨_, rfl⟩
    rw [← hz] at E h
    rw [h]
    clear h hz q6
    cases hq : decide (z ≤ 1073741824)
    all_goals
      go_enter Tryz.func152, Tryz.ntmps152
      go_wp2_with fail
      refine (E.out _).mono ?_
      rintro e w1 ⟨rfl, b1⟩
      have hb : Below w.heap.size w w1 := ((Below.refl _ _).alloc (Nat.le_refl _) _).trans (b1.mono (by simp))
      clear b1
      go_wp2
      go_ret
      exact ⟨rfl, hb⟩
  all_goals
    rw [h]
    clear h
    go_enter Tryz.func152, Tryz.ntmps152
    go_wp2
    go_ret
    exact ⟨rfl, (Below.refl _ _).alloc (Nat.le_refl _) _⟩

theorem long_take (l : List Run) (k : Nat) (h : k < l.length) : long (l.take (k + 1)) = long (l.take k) + (l.getD k zrun).m := by
  have : ∀ (p q : List Run), long (p ++ q) = long p + long q := by
    intro p q
    induction p with
    | nil => simp [long]
    | cons x p ih => simp [long, ih]; omega
  rw [List.take_succ_eq_append_getElem h, this]
  simp [long, List.getD, List.getElem?_eq_getElem h]
/-- Runs each of which may be by itself. -/
def Ones (l : List Run) : Prop := ∀ k, k < l.length → 1 ≤ (l.getD k zrun).m ∧ (l.getD k zrun).m ≤ 4097

set_option maxHeartbeats 1000000 in
theorem long_any {v : Value} {l : List Run} {w : World} (hv : Runs w v l) (hl : l.length ≤ 1000) (h1 : Ones l) :
    Calls Tryz.prog 135 #[v] w fun e w' => e = .returned (.int .i64 (long l)) ∧ w = w' := by
  obtain ⟨ao, cap, rfl⟩ := hv.shape
  obtain ⟨n, hn⟩ : ∃ n, n = l.length := ⟨_, rfl⟩
  have HV := Lib.hid hv
  have HN := Lib.hid hn
  have HO := Lib.hid h1
  rw [← hn] at hl ⊢
  clear hv hn h1
  go_enter Tryz.func135, Tryz.ntmps135
  go_wp2
  go_loop [3, 4] (fun s i => ∃ (k : Nat) (z : Int), k ≤ n ∧ i = .int .i64 (k : Int) ∧ s = .int .i64 z ∧ 0 ≤ z ∧ z ≤ 4097 * (k : Int) ∧ Hid (z = long (l.take k))) (fun _ i => n - (intOf i).toNat)
  case atStart => exact ⟨0, 0, by omega, rfl, rfl, by omega, by omega, Lib.hid rfl⟩
  case round =>
    obtain ⟨k, z, hk, rfl, rfl, z0, z1, hz⟩ := hrel
    by_cases hkn : k < n
    · have q1 : decide (k < n) = true := by simpa using hkn
      obtain ⟨b, off, rfl, hb, hx0, hx1, hx2⟩ := HV.out.at k (by rw [← HN.out]; exact hkn)
      have ho := HO.out k (by rw [← HN.out]; exact hkn)
      have ht := long_take l k (by rw [← HN.out]; exact hkn)
      obtain ⟨m, hm⟩ : ∃ m, m = (l.getD k zrun).m := ⟨_, rfl⟩
      rw [← hm] at hx2 ho ht
      rw [← hz.out] at ht
      have HT := Lib.hid ht
      obtain ⟨o1, o2⟩ := ho
      have q2 : (0 : Int) ≤ (k : Int) := by omega
      have q3 : (k : Int) < (n : Int) := by omega
      have q4 : 0 ≤ z + m := by omega
      have q5 : z + m ≤ 5000000 := by omega
      clear hm ht hx0 hx1
      go_wp2
      go_round
      case rel => exact ⟨k + 1, z + m, by omega, by go_num, rfl, by omega, by omega, Lib.hid HT.out.symm⟩
      case measure => simp [intOf]; omega
    · have q1 : decide (k < n) = false := by simpa using hkn
      have hkk : l.take k = l := List.take_of_length_le (by have := HN.out; omega)
      have hz2 := hz.out
      rw [hkk] at hz2
      have HZ := Lib.hid hz2
      clear hkk hz2
      go_wp2
      go_ret
      exact ⟨by have := HZ.out; subst this; rfl, rfl⟩
end Go.Proofs.YtdackenaknieaaaGreat.Place

/- Whole numbers below 2^53 as 64-bit floats: sum, product and the way back are exact. Conditions: each number that comes up is below 2^53. -/
namespace Go.Proofs.YtdackenaknieaaaGreat.Flo
open Ieee

/-- The bits of a whole number. -/
def fl (m : Nat) : Nat := double.nearest false m 0

theorem log2_shift (k s : Nat) (hk : k ≠ 0) : (k * 2 ^ s).log2 = k.log2 + s := by
  have hp : 0 < 2 ^ s := Nat.two_pow_pos s
  have hne : k * 2 ^ s ≠ 0 := Nat.mul_ne_zero hk (by omega)
  rw [Nat.log2_eq_iff hne]
  have h1 := Nat.log2_self_le hk
  have h2 := @Nat.lt_log2_self k
  constructor
  · rw [Nat.pow_add]; exact Nat.mul_le_mul_right _ h1
  · rw [show k.log2 + s + 1 = (k.log2 + 1) + s by omega, Nat.pow_add]
    exact (Nat.mul_lt_mul_right hp).2 h2

theorem cut_whole (way : Toward) (k d : Nat) : way.cut false (k * 2 ^ d) d = k := by
  have key : ∀ g : Nat, 0 < g → k * 2 ^ d = k * g → way.cut false (k * 2 ^ d) d = k → way.cut false (k * 2 ^ d) d = k := fun _ _ _ h => h
  clear key
  by_cases hk : k = 0
  · subst hk
    cases way <;> simp [Toward.cut, Nat.shiftLeft_eq]
  · have hl := log2_shift k d hk
    have hm : min d ((k * 2 ^ d).log2 + 2) = d := by omega
    have hp : 0 < 2 ^ d := Nat.two_pow_pos d
    unfold Toward.cut
    rw [hm]
    simp only [Nat.shiftLeft_eq, Nat.one_mul, Nat.mul_div_cancel _ hp, Nat.mul_mod_left]
    cases way <;> simp

theorem least : double.leastPlace = -1074 := by decide
theorem binade_eq : double.binade = 2 ^ 52 := rfl
theorem infRung_eq : double.infRung = 2047 * 2 ^ 52 := by decide
theorem sign_eq : double.signWeight = 2 ^ 63 := rfl

/-- The rung of a whole number. -/
theorem nearest_eq (k s : Nat) (hk : k ≠ 0) (hb : k < 2 ^ 53) : double.nearest false (k * 2 ^ s) (-(s : Int)) = (k.log2 + 1022) * 2 ^ 52 + k * 2 ^ (52 - k.log2) := by
  have hp : 0 < 2 ^ s := Nat.two_pow_pos s
  have hne : k * 2 ^ s ≠ 0 := Nat.mul_ne_zero hk (by omega)
  have hL : k.log2 < 53 := (Nat.log2_lt hk).2 hb
  have hlast : max (-(s : Int) + ((k.log2 + s : Nat) : Int) - (52 : Nat)) (-1074) = (k.log2 : Int) - 52 := by omega
  have hkept : Toward.even.cut false ((k * 2 ^ s) <<< (-(s : Int) - ((k.log2 : Int) - 52)).toNat) (((k.log2 : Int) - 52) - -(s : Int)).toNat = k * 2 ^ (52 - k.log2) := by
    by_cases hs : s ≤ 52 - k.log2
    · rw [show (-(s : Int) - ((k.log2 : Int) - 52)).toNat = 52 - k.log2 - s by omega, show (((k.log2 : Int) - 52) - -(s : Int)).toNat = 0 by omega]
      have e : (k * 2 ^ s) <<< (52 - k.log2 - s) = k * 2 ^ (52 - k.log2) * 2 ^ 0 := by
        rw [Nat.shiftLeft_eq, Nat.mul_assoc, ← Nat.pow_add, show s + (52 - k.log2 - s) = 52 - k.log2 by omega]; simp
      rw [e]
      exact cut_whole .even _ 0
    · rw [show (-(s : Int) - ((k.log2 : Int) - 52)).toNat = 0 by omega, show (((k.log2 : Int) - 52) - -(s : Int)).toNat = s - (52 - k.log2) by omega]
      have e : (k * 2 ^ s) <<< 0 = k * 2 ^ (52 - k.log2) * 2 ^ (s - (52 - k.log2)) := by
        rw [Nat.shiftLeft_zero, Nat.mul_assoc k (2 ^ (52 - k.log2)), ← Nat.pow_add, show 52 - k.log2 + (s - (52 - k.log2)) = s by omega]
      rw [e]
      exact cut_whole .even _ _
  unfold Format.nearest
  rw [if_neg hne, log2_shift k s hk]
  simp only [least, show double.fractionBits = 52 from rfl]
  rw [hlast, hkept]
  have h2 : k * 2 ^ (52 - k.log2) < 2 ^ 53 := by
    have h := @Nat.lt_log2_self k
    have : k * 2 ^ (52 - k.log2) < 2 ^ (k.log2 + 1) * 2 ^ (52 - k.log2) := (Nat.mul_lt_mul_right (Nat.two_pow_pos _)).2 h
    rw [← Nat.pow_add, show k.log2 + 1 + (52 - k.log2) = 53 by omega] at this
    exact this
  generalize k * 2 ^ (52 - k.log2) = t at *
  generalize k.log2 = L at *
  rw [binade_eq, infRung_eq, show ((L : Int) - 52 - -1074).toNat = L + 1022 by omega]
  unfold Format.word
  rw [if_neg (by simp)]
  rw [Nat.min_eq_left]
  omega

theorem fl_0 : fl 0 = 0 := by decide

theorem read_rung (f : Format) (x : Nat) (h1 : f.binade ≤ x) (h2 : x < f.infRung) (h3 : x < f.signWeight) :
    f.read x = .number false (f.binade + x % f.binade) (f.leastPlace + ((x / f.binade - 1 : Nat) : Int)) := by
  unfold Format.read
  simp only [Nat.div_eq_of_lt h3, Nat.mod_eq_of_lt h3]
  rw [if_neg (Nat.not_lt.2 h1), if_pos h2]
  rfl

set_option exponentiation.threshold 2000 in
theorem read_fl (k : Nat) (hb : k < 2 ^ 53) : ∃ s : Nat, double.read (fl k) = .number false (k * 2 ^ s) (-(s : Int)) := by
  by_cases hk : k = 0
  · subst hk
    exact ⟨1074, by rw [fl_0, Nat.zero_mul]; decide⟩
  · have hL : k.log2 < 53 := (Nat.log2_lt hk).2 hb
    refine ⟨52 - k.log2, ?_⟩
    have h0 := nearest_eq k 0 hk hb
    simp at h0
    have hlo : 2 ^ 52 ≤ k * 2 ^ (52 - k.log2) := by
      have h := Nat.log2_self_le hk
      have : 2 ^ k.log2 * 2 ^ (52 - k.log2) ≤ k * 2 ^ (52 - k.log2) := Nat.mul_le_mul_right _ h
      rw [← Nat.pow_add, show k.log2 + (52 - k.log2) = 52 by omega] at this
      exact this
    have hhi : k * 2 ^ (52 - k.log2) < 2 ^ 53 := by
      have h := @Nat.lt_log2_self k
      have : k * 2 ^ (52 - k.log2) < 2 ^ (k.log2 + 1) * 2 ^ (52 - k.log2) := (Nat.mul_lt_mul_right (Nat.two_pow_pos _)).2 h
      rw [← Nat.pow_add, show k.log2 + 1 + (52 - k.log2) = 53 by omega] at this
      exact this
    rw [fl, h0]
    generalize k * 2 ^ (52 - k.log2) = t at *
    generalize k.log2 = L at *
    have b1 := binade_eq
    have b2 := infRung_eq
    have b3 := sign_eq
    rw [read_rung double _ (by omega) (by omega) (by omega), least, b1]
    have e3 : ((L + 1022) * 2 ^ 52 + t) % 2 ^ 52 = t - 2 ^ 52 := by omega
    have e4 : ((L + 1022) * 2 ^ 52 + t) / 2 ^ 52 = L + 1023 := by omega
    rw [e3, e4]
    have e5 : 2 ^ 52 + (t - 2 ^ 52) = t := by omega
    have e6 : (-1074 : Int) + ((L + 1023 - 1 : Nat) : Int) = -((52 - L : Nat) : Int) := by omega
    rw [e5, e6]

theorem up_eq (a s t : Nat) (h : s ≤ t) : (a * 2 ^ s) <<< (t - s) = a * 2 ^ t := by
  rw [Nat.shiftLeft_eq, Nat.mul_assoc, ← Nat.pow_add, show s + (t - s) = t by omega]

theorem ofInt_fl (a : Nat) : floatOfInt .f64 (a : Int) = fl a := by
  show double.nearest (decide ((a : Int) < 0)) (a : Int).natAbs 0 = _
  rw [show decide ((a : Int) < 0) = false by simp, Int.natAbs_natCast]
  rfl

end Go.Proofs.YtdackenaknieaaaGreat.Flo

/- Whole numbers below 2^53 as 64-bit floats: how two stand to each other, and the way back to other kinds. Conditions: each number is below 2^53. -/
namespace Go.Proofs.YtdackenaknieaaaGreat.Flo
open Ieee

theorem order_fl (a b : Nat) (ha : a < 2 ^ 53) (hb : b < 2 ^ 53) : FloatKind.f64.format.order (fl a) (fl b) = some (compare a b) := by
  obtain ⟨s, hs⟩ := read_fl a ha
  obtain ⟨t, ht⟩ := read_fl b hb
  show (double.read (fl a)).order (double.read (fl b)) = _
  rw [hs, ht]
  show some (compare (((a * 2 ^ s) <<< (-(s : Int) - min (-(s : Int)) (-(t : Int))).toNat : Nat) : Int) (((b * 2 ^ t) <<< (-(t : Int) - min (-(s : Int)) (-(t : Int))).toNat : Nat) : Int)) = _
  have e1 : (-(s : Int) - min (-(s : Int)) (-(t : Int))).toNat = max s t - s := by omega
  have e2 : (-(t : Int) - min (-(s : Int)) (-(t : Int))).toNat = max s t - t := by omega
  rw [e1, e2, up_eq a s _ (by omega), up_eq b t _ (by omega)]
  have hp : 0 < 2 ^ max s t := Nat.two_pow_pos _
  generalize 2 ^ max s t = g at hp
  congr 1
  have h1 : compare a b = compareOfLessAndEq a b := rfl
  have h2 : compare ((a * g : Nat) : Int) ((b * g : Nat) : Int) = compareOfLessAndEq ((a * g : Nat) : Int) ((b * g : Nat) : Int) := rfl
  rw [h1, h2]
  unfold compareOfLessAndEq
  by_cases hlt : a < b
  · have h : a * g < b * g := (Nat.mul_lt_mul_right hp).2 hlt
    rw [if_pos hlt, if_pos (by omega)]
  · have h : ¬ (a * g < b * g) := fun h => hlt ((Nat.mul_lt_mul_right hp).1 h)
    rw [if_neg hlt, if_neg (by omega)]
    by_cases he : a = b
    · subst he; rw [if_pos rfl, if_pos rfl]
    · have h : ¬ (a * g = b * g) := fun h => he (Nat.eq_of_mul_eq_mul_right hp h)
      rw [if_neg he, if_neg (by omega)]

theorem eq_fl (a b : Nat) (ha : a < 2 ^ 53) (hb : b < 2 ^ 53) : (FloatKind.f64.format.order (fl a) (fl b) == some .eq) = decide (a = b) := by
  rw [order_fl a b ha hb]
  have h1 : compare a b = compareOfLessAndEq a b := rfl
  rw [h1]
  unfold compareOfLessAndEq
  by_cases hlt : a < b
  · rw [if_pos hlt, decide_eq_false (by omega)]; rfl
  · rw [if_neg hlt]
    by_cases he : a = b
    · rw [if_pos he, decide_eq_true he]; rfl
    · rw [if_neg he, decide_eq_false he]; rfl
theorem lt_fl (a b : Nat) (ha : a < 2 ^ 53) (hb : b < 2 ^ 53) : (FloatKind.f64.format.order (fl a) (fl b) == some .lt) = decide (a < b) := by
  rw [order_fl a b ha hb]
  have h1 : compare a b = compareOfLessAndEq a b := rfl
  rw [h1]
  unfold compareOfLessAndEq
  by_cases hlt : a < b
  · rw [if_pos hlt, decide_eq_true hlt]; rfl
  · rw [if_neg hlt, decide_eq_false hlt]
    by_cases he : a = b
    · rw [if_pos he]; rfl
    · rw [if_neg he]; rfl
end Go.Proofs.YtdackenaknieaaaGreat.Flo

/- octavo/stamp: underWay, above, told, Check, Less: what each answers. Conditions: the numbers fit their kinds. -/
namespace Go.Proofs.YtdackenaknieaaaGreat.Stamp
open Go.RowKit Flo

theorem underWay_any (t r : Nat) (w : World) :
    Calls Tryz.prog 126 #[.agg #[.int .u32 (t : Int), .int .u8 (r : Int)]] w fun e w' => e = .returned (.complex .f64 (fl t) (fl r)) ∧ Below w.heap.size w w' := by
  have f1 : floatOfInt .f64 (t : Int) = fl t := ofInt_fl t
  have f2 : floatOfInt .f64 (r : Int) = fl r := ofInt_fl r
  go_enter Tryz.func126, Tryz.ntmps126
  go_wp2
  go_ret
  exact ⟨rfl, (Below.refl _ _).alloc (Nat.le_refl _) _⟩



theorem check_any (t r : Nat) (w : World) :
    Calls Tryz.prog 82 #[.agg #[.int .u32 (t : Int), .int .u8 (r : Int)]] w fun e w' => e = .returned (.int .i64 (chk t r)) ∧ Below w.heap.size w w' := by
  have q : (decide ((t : Int) < 1) = true ∧ chk t r = 8) ∨ (decide ((t : Int) < 1) = false ∧ decide ((1073741824 : Int) < (t : Int)) = true ∧ chk t r = 8) ∨
      (decide ((t : Int) < 1) = false ∧ decide ((1073741824 : Int) < (t : Int)) = false ∧ decide ((8 : Int) ≤ (r : Int)) = true ∧ chk t r = 8) ∨
      (decide ((t : Int) < 1) = false ∧ decide ((1073741824 : Int) < (t : Int)) = false ∧ decide ((8 : Int) ≤ (r : Int)) = false ∧ chk t r = 0) := by
    unfold chk
    by_cases h1 : t < 1
    · exact .inl ⟨decide_eq_true (by omega), if_neg (by rw [may_iff]; omega)⟩
    · by_cases h2 : 1073741824 < t
      · exact .inr (.inl ⟨decide_eq_false (by omega), decide_eq_true (by omega), if_neg (by rw [may_iff]; omega)⟩)
      · by_cases h3 : 8 ≤ r
        · exact .inr (.inr (.inl ⟨decide_eq_false (by omega), decide_eq_false (by omega), decide_eq_true (by omega), if_neg (by rw [may_iff]; omega)⟩))
        · exact .inr (.inr (.inr ⟨decide_eq_false (by omega), decide_eq_false (by omega), decide_eq_false (by omega), if_pos (by rw [may_iff]; omega)⟩))
  rcases q with ⟨q1, h⟩ | ⟨q1, q2, h⟩ | ⟨q1, q2, q3, h⟩ | ⟨q1, q2, q3, h⟩
  all_goals
    rw [h]
    clear h
    go_enter Tryz.func82, Tryz.ntmps82
    go_wp2
    go_ret
    exact ⟨rfl, (Below.refl _ _).alloc (Nat.le_refl _) _⟩

theorem check_yes (t r : Nat) (h : may t r = true) (w : World) : Calls Tryz.prog 82 #[.agg #[.int .u32 (t : Int), .int .u8 (r : Int)]] w fun e w' => e = .returned (.int .i64 0) ∧ Below w.heap.size w w' := by
  have := check_any t r w
  rwa [chk, if_pos h] at this
theorem check_no (t r : Nat) (h : may t r = false) (w : World) : Calls Tryz.prog 82 #[.agg #[.int .u32 (t : Int), .int .u8 (r : Int)]] w fun e w' => e = .returned (.int .i64 8) ∧ Below w.heap.size w w' := by
  have := check_any t r w
  rwa [chk, if_neg (by rw [h]; simp)] at this

theorem keepS {H : Nat} {w w1 w2 : World} {c0 c1 c2 c3 : Value} (h : Below w1.heap.size w1 w2) (hb : Below H w w1) (hs : H + 2 ≤ w1.heap.size) (h0 : w1.cell? ⟨H, 0, none⟩ = some c0) (h1 : w1.cell? ⟨H, 1, none⟩ = some c1)
    (h2 : w1.cell? ⟨H + 1, 0, none⟩ = some c2) (h3 : w1.cell? ⟨H + 1, 1, none⟩ = some c3) :
    Below H w w2 ∧ H + 2 ≤ w2.heap.size ∧ w2.cell? ⟨H, 0, none⟩ = some c0 ∧ w2.cell? ⟨H, 1, none⟩ = some c1 ∧ w2.cell? ⟨H + 1, 0, none⟩ = some c2 ∧ w2.cell? ⟨H + 1, 1, none⟩ = some c3 :=
  ⟨hb.trans (h.mono (by omega)), Nat.le_trans hs h.size, (h.cell (p := ⟨H, 0, none⟩) (by show H < _; omega)).trans h0, (h.cell (p := ⟨H, 1, none⟩) (by show H < _; omega)).trans h1, (h.cell (p := ⟨H + 1, 0, none⟩) (by show H + 1 < _; omega)).trans h2, (h.cell (p := ⟨H + 1, 1, none⟩) (by show H + 1 < _; omega)).trans h3⟩
theorem keepSd {H : Nat} {w w1 : World} {c0 c1 c2 c3 : Value} (hb : Below H w w1) (hs : H + 2 ≤ w1.heap.size) (h0 : w1.cell? ⟨H, 0, none⟩ = some c0) (h1 : w1.cell? ⟨H, 1, none⟩ = some c1)
    (h2 : w1.cell? ⟨H + 1, 0, none⟩ = some c2) (h3 : w1.cell? ⟨H + 1, 1, none⟩ = some c3) :
    Below H w w1.drew ∧ H + 2 ≤ w1.drew.heap.size ∧ w1.drew.cell? ⟨H, 0, none⟩ = some c0 ∧ w1.drew.cell? ⟨H, 1, none⟩ = some c1 ∧ w1.drew.cell? ⟨H + 1, 0, none⟩ = some c2 ∧ w1.drew.cell? ⟨H + 1, 1, none⟩ = some c3 :=
  ⟨hb.drew, hs, h0, h1, h2, h3⟩
theorem keepS0 (w : World) (c0 c1 c2 c3 : Value) (e : TypeId) :
    Below w.heap.size w ((w.alloc (.cells #[c0, c1] e)).alloc (.cells #[c2, c3] e)) ∧ w.heap.size + 2 ≤ ((w.alloc (.cells #[c0, c1] e)).alloc (.cells #[c2, c3] e)).heap.size ∧ ((w.alloc (.cells #[c0, c1] e)).alloc (.cells #[c2, c3] e)).cell? ⟨w.heap.size, 0, none⟩ = some c0 ∧ ((w.alloc (.cells #[c0, c1] e)).alloc (.cells #[c2, c3] e)).cell? ⟨w.heap.size, 1, none⟩ = some c1 ∧ ((w.alloc (.cells #[c0, c1] e)).alloc (.cells #[c2, c3] e)).cell? ⟨w.heap.size + 1, 0, none⟩ = some c2 ∧ ((w.alloc (.cells #[c0, c1] e)).alloc (.cells #[c2, c3] e)).cell? ⟨w.heap.size + 1, 1, none⟩ = some c3 := by
  have hb : Below (w.alloc (.cells #[c0, c1] e)).heap.size (w.alloc (.cells #[c0, c1] e)) ((w.alloc (.cells #[c0, c1] e)).alloc (.cells #[c2, c3] e)) := (Below.refl _ _).alloc (Nat.le_refl _) _
  refine ⟨((Below.refl _ _).alloc (Nat.le_refl _) _).alloc (by simp) _, by simp, ?_, ?_, ?_, ?_⟩
  · exact (hb.cell (p := ⟨w.heap.size, 0, none⟩) (by simp)).trans (cell_of_row _ w.heap.size 0 #[c0, c1] e _ (heap_alloc_new w _))
  · exact (hb.cell (p := ⟨w.heap.size, 1, none⟩) (by simp)).trans (cell_of_row _ w.heap.size 1 #[c0, c1] e _ (heap_alloc_new w _))
  · simp
  · simp

set_option maxHeartbeats 1000000 in
theorem less_any (t r u s : Nat) (ht : t < 4294967296) (hr : r < 256) (hu : u < 4294967296) (hs : s < 256) (w : World) :
    Calls Tryz.prog 96 #[.agg #[.int .u32 (t : Int), .int .u8 (r : Int)], .agg #[.int .u32 (u : Int), .int .u8 (s : Int)]] w fun e w' => e = .returned (.bool (less t r u s)) ∧ Below w.heap.size w w' := by
  have g1 := eq_fl t u (by omega) (by omega)
  have g2 := lt_fl r s (by omega) (by omega)
  have g3 := lt_fl t u (by omega) (by omega)
  obtain ⟨q, hq⟩ : ∃ q, q = less t r u s := ⟨_, rfl⟩
  have hl : (decide (t = u) = true ∧ decide (r < s) = q) ∨ (decide (t = u) = false ∧ decide (t < u) = q) := by
    rw [hq]
    by_cases h : t = u
    · left; refine ⟨decide_eq_true h, ?_⟩; unfold less; congr 1; simp; omega
    · right; refine ⟨decide_eq_false h, ?_⟩; unfold less; congr 1; simp; omega
  rw [← hq]
  clear hq
  have S0 := keepS0 w (.int .u32 (t : Int)) (.int .u8 (r : Int)) (.int .u32 (u : Int)) (.int .u8 (s : Int)) 28
  have HS0 := Lib.hid S0
  clear S0
  rcases hl with ⟨k1, k2⟩ | ⟨k1, k2⟩
  · rw [k1] at g1
    rw [k2] at g2
    clear k1 k2 g3 ht hr hu hs
    have G1 := Lib.hid g1
    have G2 := Lib.hid g2
    clear g1 g2
    go_enter Tryz.func96, Tryz.ntmps96
    go_wp2
    go_region_held3 (fun w' => Below w.heap.size w w' ∧ w.heap.size + 2 ≤ w'.heap.size ∧ w'.cell? ⟨w.heap.size, 0, none⟩ = some (.int .u32 (t : Int)) ∧ w'.cell? ⟨w.heap.size, 1, none⟩ = some (.int .u8 (r : Int)) ∧ w'.cell? ⟨w.heap.size + 1, 0, none⟩ = some (.int .u32 (u : Int)) ∧ w'.cell? ⟨w.heap.size + 1, 1, none⟩ = some (.int .u8 (s : Int)))
      (first | exact keepSd HS0.out.1 HS0.out.2.1 HS0.out.2.2.1 HS0.out.2.2.2.1 HS0.out.2.2.2.2.1 HS0.out.2.2.2.2.2 | (go_split_ands; refine keepSd ?_ ?_ ?_ ?_ ?_ ?_ <;> assumption) | (go_split_ands; exact keepS (by assumption) (by assumption) (by assumption) (by assumption) (by assumption) (by assumption) (by assumption)))
      ((first | (go_at_call 126; refine (underWay_any _ _ _).mono ?_; rintro e w2 ⟨rfl, b2⟩)))
    have g1 := G1.out
    have g2 := G2.out
    go_wp2
    go_ret
    go_split_ands
    exact ⟨rfl, by assumption⟩
  · rw [k1] at g1
    rw [k2] at g3
    clear k1 k2 g2 ht hr hu hs
    have G1 := Lib.hid g1
    have G2 := Lib.hid g3
    clear g1 g3
    go_enter Tryz.func96, Tryz.ntmps96
    go_wp2
    go_region_held3 (fun w' => Below w.heap.size w w' ∧ w.heap.size + 2 ≤ w'.heap.size ∧ w'.cell? ⟨w.heap.size, 0, none⟩ = some (.int .u32 (t : Int)) ∧ w'.cell? ⟨w.heap.size, 1, none⟩ = some (.int .u8 (r : Int)) ∧ w'.cell? ⟨w.heap.size + 1, 0, none⟩ = some (.int .u32 (u : Int)) ∧ w'.cell? ⟨w.heap.size + 1, 1, none⟩ = some (.int .u8 (s : Int)))
      (first | exact keepSd HS0.out.1 HS0.out.2.1 HS0.out.2.2.1 HS0.out.2.2.2.1 HS0.out.2.2.2.2.1 HS0.out.2.2.2.2.2 | (go_split_ands; refine keepSd ?_ ?_ ?_ ?_ ?_ ?_ <;> assumption) | (go_split_ands; exact keepS (by assumption) (by assumption) (by assumption) (by assumption) (by assumption) (by assumption) (by assumption)))
      ((first | (go_at_call 126; refine (underWay_any _ _ _).mono ?_; rintro e w2 ⟨rfl, b2⟩)))
    have g1 := G1.out
    have g2 := G2.out
    go_wp2
    go_ret
    go_split_ands
    exact ⟨rfl, by assumption⟩
end Go.Proofs.YtdackenaknieaaaGreat.Stamp

/- octavo/stamp.Next: what it answers. Conditions: the slice's cells are stamps. -/
namespace Go.Proofs.YtdackenaknieaaaGreat.Stamp
open Go.RowKit Flo

/-- A block of two cells, behind calls that write nothing that was there. -/
theorem two_cells {w w2 : World} {c0 c1 : Value} {e : TypeId} (h : Below (w.alloc (.cells #[c0, c1] e)).heap.size (w.alloc (.cells #[c0, c1] e)) w2) :
    w2.cell? ⟨w.heap.size, 0, none⟩ = some c0 ∧ w2.cell? ⟨w.heap.size, 1, none⟩ = some c1 ∧ w2.frozen? ⟨w.heap.size, 0, none⟩ = false ∧ w2.frozen? ⟨w.heap.size, 1, none⟩ = false := by
  have hh : w2.heap[w.heap.size]? = some (.cells #[c0, c1] e (0, 0)) := (h.block w.heap.size (by simp)).trans (heap_alloc_new w _)
  refine ⟨cell_of_row _ w.heap.size 0 #[c0, c1] e _ hh, cell_of_row _ w.heap.size 1 #[c0, c1] e _ hh, ?_, ?_⟩
  · simp [World.frozen?, hh]
  · simp [World.frozen?, hh]

theorem below_of3 {w w3 : World} {o : Obj} (h : Below (w.alloc o).heap.size (w.alloc o) w3) : Below w.heap.size w w3 :=
  ((Below.refl _ _).alloc (Nat.le_refl _) o).trans (h.mono (by simp))

theorem set2 {w w3 : World} {o : Obj} {c0 c1 : Value} (h : Below (w.alloc o).heap.size (w.alloc o) w3) : Below w.heap.size w ((w3.setCell ⟨w.heap.size, 0, none⟩ c0).setCell ⟨w.heap.size, 1, none⟩ c1) :=
  ((below_of3 h).setCell (p := ⟨w.heap.size, 0, none⟩) (Nat.le_refl _) _).setCell (p := ⟨w.heap.size, 1, none⟩) (Nat.le_refl _) _

end Go.Proofs.YtdackenaknieaaaGreat.Stamp

/- octavo/place: firstOf, lastOf, goesOn, follows, runMayBe, Twin, Same: what each answers. Conditions: the slices' cells are runs; the numbers fit. -/
namespace Go.Proofs.YtdackenaknieaaaGreat.Place
open Go.RowKit Stamp
attribute [local go_sem ↓] Go.wp_at_zero Go.wp_at_succ

theorem firstOf_any (t r : Nat) (m : Int) (w : World) :
    Calls Tryz.prog 97 #[.agg #[.int .u32 (t : Int), .int .u8 (r : Int), .int .i64 m]] w fun e w' => e = .returned (.agg #[.int .u32 (t : Int), .int .u8 (r : Int)]) ∧ Below w.heap.size w w' := by
  go_enter Tryz.func97, Tryz.ntmps97
  go_wp2
  refine bodyPost_ret (v := .agg #[.int .u32 (t : Int), .int .u8 (r : Int)]) (by simp [results, Tryz.results97, go_sem]) rfl ⟨rfl, ?_⟩
  exact ((Below.refl _ _).alloc (Nat.le_refl _) _).alloc (by simp) _

theorem lastOf_any (t r : Nat) (m : Int) (z : Nat) (hz : (z : Int) = (t : Int) + (m - 1)) (hm : 1 ≤ m ∧ m ≤ 4096) (hb : t ≤ 1073741824) (w : World) :
    Calls Tryz.prog 108 #[.agg #[.int .u32 (t : Int), .int .u8 (r : Int), .int .i64 m]] w fun e w' => e = .returned (.agg #[.int .u32 (z : Int), .int .u8 (r : Int)]) ∧ Below w.heap.size w w' := by
  obtain ⟨o1, o2⟩ := hm
  have e3 : IntKind.u32.wrap (m - 1) = m - 1 := by rw [IntKind.wrap_u32]; omega
  have e4 : IntKind.u32.wrap ((t : Int) + (m - 1)) = (t : Int) + (m - 1) := by rw [IntKind.wrap_u32]; omega
  have e5 : IntKind.i64.wrap (m - 1) = m - 1 := IntWalk.i64_in _ (by omega)
  rw [hz]
  clear hz
  go_enter Tryz.func108, Tryz.ntmps108
  go_wp2
  refine bodyPost_ret (v := .agg #[.int .u32 ((t : Int) + (m - 1)), .int .u8 (r : Int)]) (by simp [results, Tryz.results108, go_sem]) rfl ⟨rfl, ?_⟩
  exact ((Below.refl _ _).alloc (Nat.le_refl _) _).alloc (by simp) _

/-- Does a stamp go on a run of last time z? -/
def goes (z r u s : Nat) : Bool := decide (u = z + 1 ∧ s = r)
set_option maxHeartbeats 1000000 in
theorem goesOn_any (t r : Nat) (m : Int) (z u s : Nat) (hz : (z : Int) = (t : Int) + (m - 1)) (hm : 1 ≤ m ∧ m ≤ 4096) (hb : t ≤ 1073741824) (w : World) :
    Calls Tryz.prog 123 #[.agg #[.int .u32 (t : Int), .int .u8 (r : Int), .int .i64 m], .agg #[.int .u32 (u : Int), .int .u8 (s : Int)]] w fun e w' => e = .returned (.bool (goes z r u s)) ∧ Below w.heap.size w w' := by
  have L := Lib.hid (fun W => lastOf_any t r m z hz hm hb W)
  have hz2 : (z : Int) + 1 ≤ 1073745920 := by omega
  have hw : IntKind.u32.wrap ((z : Int) + 1) = (z : Int) + 1 := by rw [IntKind.wrap_u32]; omega
  obtain ⟨q, hq⟩ : ∃ q, goes z r u s = q := ⟨_, rfl⟩
  have hc : ((u : Int) = (z : Int) + 1 ∧ s = r ∧ q = true) ∨ (¬ (u : Int) = (z : Int) + 1 ∧ q = false) ∨ ((u : Int) = (z : Int) + 1 ∧ ¬ s = r ∧ q = false) := by
    unfold goes at hq
    by_cases h1 : u = z + 1
    · by_cases h2 : s = r
      · exact .inl ⟨by omega, h2, by rw [← hq]; exact decide_eq_true ⟨h1, h2⟩⟩
      · exact .inr (.inr ⟨by omega, h2, by rw [← hq]; exact decide_eq_false (by omega)⟩)
    · exact .inr (.inl ⟨by omega, by rw [← hq]; exact decide_eq_false (by omega)⟩)
  have P1 : Hid (Pair ((w.alloc (.cells #[.int .u32 (t : Int), .int .u8 (r : Int), .int .i64 m] 49)).alloc (.cells #[.int .u32 (u : Int), .int .u8 (s : Int)] 28)) (w.heap.size + 1) (.int .u32 (u : Int)) (.int .u8 (s : Int))) := by
    have := pair_new (w.alloc (.cells #[.int .u32 (t : Int), .int .u8 (r : Int), .int .i64 m] 49)) (.int .u32 (u : Int)) (.int .u8 (s : Int)) 28
    unfold Hid
    simpa using this
  have B0 : Hid (Below w.heap.size w ((w.alloc (.cells #[.int .u32 (t : Int), .int .u8 (r : Int), .int .i64 m] 49)).alloc (.cells #[.int .u32 (u : Int), .int .u8 (s : Int)] 28))) := ((Below.refl _ _).alloc (Nat.le_refl _) _).alloc (by simp) _
  rw [hq]
  clear hq hz hm hb
  go_enter Tryz.func123, Tryz.ntmps123
  go_wp2_with fail
  refine (L.out _).mono ?_
  rintro e w1 ⟨rfl, b1⟩
  have PP := Lib.hid (P1.out.keeps b1)
  have B1 := Lib.hid (bt B0.out b1)
  clear b1 B0 P1
  obtain ⟨g0, g1, g2⟩ := PP.out
  have hne : ¬ w.heap.size + 1 = w1.heap.size := by omega
  rcases hc with ⟨h1, rfl, rfl⟩ | ⟨h1, rfl⟩ | ⟨h1, h2, rfl⟩
  · rw [h1] at g1
    go_wp2
    go_ret
    exact ⟨rfl, B1.out.alloc B1.out.size _⟩
  · go_wp2
    go_ret
    exact ⟨rfl, B1.out.alloc B1.out.size _⟩
  · rw [h1] at g1
    go_wp2
    go_ret
    exact ⟨rfl, B1.out.alloc B1.out.size _⟩

theorem keepT2 {wl w1 w2 : World} {h1 h2 : Nat} {c0 c1 c2 d0 d1 d2 : Value} (p1 : Tri wl h1 c0 c1 c2) (p2 : Tri wl h2 d0 d1 d2) (h : Below w1.heap.size w1 w2) (hb : Below wl.heap.size wl w1) :
    Below wl.heap.size wl w2 ∧ w2.cell? ⟨h1, 0, none⟩ = some c0 ∧ w2.cell? ⟨h1, 1, none⟩ = some c1 ∧ w2.cell? ⟨h1, 2, none⟩ = some c2 ∧ w2.cell? ⟨h2, 0, none⟩ = some d0 ∧ w2.cell? ⟨h2, 1, none⟩ = some d1 ∧ w2.cell? ⟨h2, 2, none⟩ = some d2 :=
  have b := bt hb h
  ⟨b, (p1.keeps b).2.1, (p1.keeps b).2.2.1, (p1.keeps b).2.2.2, (p2.keeps b).2.1, (p2.keeps b).2.2.1, (p2.keeps b).2.2.2⟩

theorem field_t (a b : Value) (W : World) : (Instr.field 28 (.agg #[a, b]) 0).run Tryz.prog W = .ok a W := by kernel_rfl
/-- May a run of time t by r stand behind one whose last time is z, by r0? -/
def nextB (z r0 t r : Nat) : Bool := decide (z < t ∧ (r = r0 → z + 1 < t))
set_option maxRecDepth 100000 in
set_option maxHeartbeats 1000000 in
theorem follows_any (t r : Nat) (m : Int) (t0 r0 : Nat) (m0 : Int) (z : Nat) (hz : (z : Int) = (t0 : Int) + (m0 - 1)) (hm : 1 ≤ m0 ∧ m0 ≤ 4096) (hb : t0 ≤ 1073741824) (w : World) :
    Calls Tryz.prog 93 #[.agg #[.int .u32 (t : Int), .int .u8 (r : Int), .int .i64 m], .agg #[.int .u32 (t0 : Int), .int .u8 (r0 : Int), .int .i64 m0]] w fun e w' => e = .returned (.bool (nextB z r0 t r)) ∧ Below w.heap.size w w' := by
  have LO := Lib.hid (fun W => lastOf_any t0 r0 m0 z hz hm hb W)
  have FO := Lib.hid (fun W => firstOf_any t r m W)
  have GO := Lib.hid (fun W => goesOn_any t0 r0 m0 z t r hz hm hb W)
  obtain ⟨g, hg⟩ : ∃ g, goes z r0 t r = g := ⟨_, rfl⟩
  rw [hg] at GO
  obtain ⟨q, hq⟩ : ∃ q, nextB z r0 t r = q := ⟨_, rfl⟩
  have hc : (z < t ∧ q = !g) ∨ (¬ z < t ∧ q = false) := by
    unfold goes at hg
    unfold nextB at hq
    by_cases h1 : z < t
    · refine .inl ⟨h1, ?_⟩
      by_cases h2 : t = z + 1 ∧ r = r0
      · rw [decide_eq_true h2] at hg
        rw [decide_eq_false (by omega)] at hq
        rw [← hg, ← hq]; rfl
      · rw [decide_eq_false h2] at hg
        rw [decide_eq_true (by omega)] at hq
        rw [← hg, ← hq]; rfl
    · exact .inr ⟨h1, by rw [← hq]; exact decide_eq_false (by omega)⟩
  have hf0 : ∀ W : World, (Instr.field 28 (.agg #[.int .u32 (z : Int), .int .u8 (r0 : Int)]) 0).run Tryz.prog W = .ok (.int .u32 (z : Int)) W := fun W => field_t _ _ W
  obtain ⟨wl, hwl⟩ : ∃ wl, wl = (w.alloc (.cells #[.int .u32 (t : Int), .int .u8 (r : Int), .int .i64 m] 49)).alloc (.cells #[.int .u32 (t0 : Int), .int .u8 (r0 : Int), .int .i64 m0] 49) := ⟨_, rfl⟩
  have PA : Hid (Tri wl w.heap.size (.int .u32 (t : Int)) (.int .u8 (r : Int)) (.int .i64 m)) := by
    rw [hwl]
    exact (tri_new w (.int .u32 (t : Int)) (.int .u8 (r : Int)) (.int .i64 m) 49).keeps ((Below.refl _ _).alloc (Nat.le_refl _) _)
  have PB : Hid (Tri wl (w.heap.size + 1) (.int .u32 (t0 : Int)) (.int .u8 (r0 : Int)) (.int .i64 m0)) := by
    have := tri_new (w.alloc (.cells #[.int .u32 (t : Int), .int .u8 (r : Int), .int .i64 m] 49)) (.int .u32 (t0 : Int)) (.int .u8 (r0 : Int)) (.int .i64 m0) 49
    rw [hwl]
    unfold Hid
    simpa using this
  have B0 : Hid (Below w.heap.size w wl) := by rw [hwl]; exact ((Below.refl _ _).alloc (Nat.le_refl _) _).alloc (by simp) _
  rw [hq]
  clear hg hq hz hm hb
  rcases hc with ⟨h1, rfl⟩ | ⟨h1, rfl⟩
  · have t1 : decide ((z : Int) < (t : Int)) = true := decide_eq_true (by omega)
    have t2 : decide (z < t) = true := decide_eq_true h1
    go_enter Tryz.func93, Tryz.ntmps93
    go_wp2
    rw [← hwl]
    clear hwl
    go_region_held3 (fun w' => Below wl.heap.size wl w' ∧ w'.cell? ⟨w.heap.size, 0, none⟩ = some (.int .u32 (t : Int)) ∧ w'.cell? ⟨w.heap.size, 1, none⟩ = some (.int .u8 (r : Int)) ∧ w'.cell? ⟨w.heap.size, 2, none⟩ = some (.int .i64 m) ∧ w'.cell? ⟨w.heap.size + 1, 0, none⟩ = some (.int .u32 (t0 : Int)) ∧ w'.cell? ⟨w.heap.size + 1, 1, none⟩ = some (.int .u8 (r0 : Int)) ∧ w'.cell? ⟨w.heap.size + 1, 2, none⟩ = some (.int .i64 m0))
      (first | exact keepT2 PA.out PB.out (drew1 _) (Below.refl _ _) | (go_split_ands; exact keepT2 PA.out PB.out (drew1 _) (by assumption)) | (go_split_ands; exact keepT2 PA.out PB.out (by assumption) (by assumption)))
      ((first | (go_at_call 108; (with_reducible refine (LO.out _).mono ?_); rintro e w4 ⟨rfl, b4⟩) | (go_at_call 97; (with_reducible refine (FO.out _).mono ?_); rintro e w5 ⟨rfl, b5⟩) | (go_at_call 123; (with_reducible refine (GO.out _).mono ?_); rintro e w6 ⟨rfl, b6⟩)))
    all_goals
      go_wp2
      go_ret
      go_split_ands
      exact ⟨rfl, B0.out.trans (Below.mono (by assumption) B0.out.size)⟩
  · have t1 : decide ((z : Int) < (t : Int)) = false := decide_eq_false (by omega)
    have t2 : decide (z < t) = false := decide_eq_false h1
    go_enter Tryz.func93, Tryz.ntmps93
    go_wp2
    rw [← hwl]
    clear hwl
    refine wp_region_held_drew (S := fun w' => Below wl.heap.size wl w' ∧ w'.cell? ⟨w.heap.size, 0, none⟩ = some (.int .u32 (t : Int)) ∧ w'.cell? ⟨w.heap.size, 1, none⟩ = some (.int .u8 (r : Int)) ∧ w'.cell? ⟨w.heap.size, 2, none⟩ = some (.int .i64 m) ∧ w'.cell? ⟨w.heap.size + 1, 0, none⟩ = some (.int .u32 (t0 : Int)) ∧ w'.cell? ⟨w.heap.size + 1, 1, none⟩ = some (.int .u8 (r0 : Int)) ∧ w'.cell? ⟨w.heap.size + 1, 2, none⟩ = some (.int .i64 m0)) (by kernel_rfl) (keepT2 PA.out PB.out (drew1 _) (Below.refl _ _)) (fun hHeld => ?_)
    refine wpAnyH_take (i := 0) (v := ?va0) rfl (by kernel_rfl) (by kernel_rfl) (by kernel_rfl) (fun _ _ _ h => h) (Or.inl ⟨by rfl, ?ya0⟩) (by assumption) ?_
    case ya0 => intro w hSw; (try dsimp only at hSw); go_simp <;> with_reducible rfl
    try simp only [List.getElem_toArray, List.getElem_cons_zero, Act.put, List.setIfInBounds_toArray, List.set_cons_zero, List.set_cons_succ]
    refine wpAnyH_take (i := 1) (v := ?va1) rfl (by kernel_rfl) (by kernel_rfl) (by kernel_rfl) (fun _ _ _ h => h) (Or.inl ⟨by rfl, ?ya1⟩) (by assumption) ?_
    case ya1 => intro w hSw; (try dsimp only at hSw); go_simp <;> with_reducible rfl
    try simp only [List.getElem_toArray, List.getElem_cons_succ, List.getElem_cons_zero, Act.put, List.setIfInBounds_toArray, List.set_cons_zero, List.set_cons_succ]
    refine wpAnyH_take (i := 2) (v := ?va2) rfl (by kernel_rfl) (by kernel_rfl) (by kernel_rfl) (fun _ _ _ h => h) (Or.inl ⟨by rfl, ?ya2⟩) (by assumption) ?_
    case ya2 => intro w hSw; (try dsimp only at hSw); go_simp <;> with_reducible rfl
    try simp only [List.getElem_toArray, List.getElem_cons_succ, List.getElem_cons_zero, Act.put, List.setIfInBounds_toArray, List.set_cons_zero, List.set_cons_succ]
    refine wpAnyH_ready (rs := [3]) (by kernel_rfl) (by simp) ?_
    refine AllReadyH.cons rfl (fun K hK => ?_) ?za3
    case za3 => exact AllReadyH.nil
    go_simp
    refine (LO.out _).mono ?_
    rintro e w9 ⟨rfl, b9⟩
    refine hK.out _ _ (keepT2 PA.out PB.out b9 hHeld.1) (fun hNew => ?_)
    clear hHeld b9
    have hHeld := hNew
    clear hNew hK K
    try simp only [List.getElem_toArray, List.getElem_cons_succ, List.getElem_cons_zero, Act.put, List.setIfInBounds_toArray, List.set_cons_zero, List.set_cons_succ]
    refine wpAnyH_take (i := 4) (v := ?va4) rfl (by kernel_rfl) (by kernel_rfl) (by kernel_rfl) (fun _ _ _ h => h) (Or.inl ⟨by rfl, ?ya4⟩) (by assumption) ?_
    case ya4 => intro w hSw; (try dsimp only at hSw); go_simp <;> with_reducible rfl
    try simp only [List.getElem_toArray, List.getElem_cons_succ, List.getElem_cons_zero, Act.put, List.setIfInBounds_toArray, List.set_cons_zero, List.set_cons_succ]
    refine wpAnyH_take (i := 5) (v := ?va5) rfl (by kernel_rfl) (by kernel_rfl) (by kernel_rfl) (fun _ _ _ h => h) (Or.inl ⟨by rfl, ?ya5⟩) (by assumption) ?_
    case ya5 => intro w hSw; (try dsimp only at hSw); go_simp <;> with_reducible rfl
    try simp only [List.getElem_toArray, List.getElem_cons_succ, List.getElem_cons_zero, Act.put, List.setIfInBounds_toArray, List.set_cons_zero, List.set_cons_succ]
    refine wpAnyH_take (i := 6) (v := ?va6) rfl (by kernel_rfl) (by kernel_rfl) (by kernel_rfl) (fun _ _ _ h => h) (Or.inl ⟨by rfl, ?ya6⟩) (by assumption) ?_
    case ya6 => intro w hSw; (try dsimp only at hSw); go_simp <;> with_reducible rfl
    try simp only [List.getElem_toArray, List.getElem_cons_succ, List.getElem_cons_zero, Act.put, List.setIfInBounds_toArray, List.set_cons_zero, List.set_cons_succ]
    refine wpAnyH_take (i := 7) (v := undef) rfl (by kernel_rfl) (by kernel_rfl) (by kernel_rfl) (fun _ _ _ h => h) (Or.inr ⟨by rfl, rfl⟩) (by assumption) ?_
    try simp only [List.getElem_toArray, List.getElem_cons_succ, List.getElem_cons_zero, Act.put, List.setIfInBounds_toArray, List.set_cons_zero, List.set_cons_succ]
    refine wpAnyH_take (i := 8) (v := undef) rfl (by kernel_rfl) (by kernel_rfl) (by kernel_rfl) (fun _ _ _ h => h) (Or.inr ⟨by rfl, rfl⟩) (by assumption) ?_
    try simp only [List.getElem_toArray, List.getElem_cons_succ, List.getElem_cons_zero, Act.put, List.setIfInBounds_toArray, List.set_cons_zero, List.set_cons_succ]
    refine wpAnyH_take (i := 9) (v := undef) rfl (by kernel_rfl) (by kernel_rfl) (by kernel_rfl) (fun _ _ _ h => h) (Or.inr ⟨by rfl, rfl⟩) (by assumption) ?_
    try simp only [List.getElem_toArray, List.getElem_cons_succ, List.getElem_cons_zero, Act.put, List.setIfInBounds_toArray, List.set_cons_zero, List.set_cons_succ]
    refine wpAnyH_take (i := 10) (v := undef) rfl (by kernel_rfl) (by kernel_rfl) (by kernel_rfl) (fun _ _ _ h => h) (Or.inr ⟨by rfl, rfl⟩) (by assumption) ?_
    try simp only [List.getElem_toArray, List.getElem_cons_succ, List.getElem_cons_zero, Act.put, List.setIfInBounds_toArray, List.set_cons_zero, List.set_cons_succ]
    refine wpAnyH_take (i := 11) (v := undef) rfl (by kernel_rfl) (by kernel_rfl) (by kernel_rfl) (fun _ _ _ h => h) (Or.inr ⟨by rfl, rfl⟩) (by assumption) ?_
    try simp only [List.getElem_toArray, List.getElem_cons_succ, List.getElem_cons_zero, Act.put, List.setIfInBounds_toArray, List.set_cons_zero, List.set_cons_succ]
    refine wpAnyH_take (i := 12) (v := ?va12) rfl (by kernel_rfl) (by kernel_rfl) (by kernel_rfl) (fun _ _ _ h => h) (Or.inl ⟨by rfl, ?ya12⟩) (by assumption) ?_
    case ya12 => intro w hSw; (try dsimp only at hSw); go_simp <;> with_reducible rfl
    try simp only [List.getElem_toArray, List.getElem_cons_succ, List.getElem_cons_zero, Act.put, List.setIfInBounds_toArray, List.set_cons_zero, List.set_cons_succ]
    refine wpAnyH_take (i := 13) (v := ?va13) rfl (by kernel_rfl) (by kernel_rfl) (by kernel_rfl) (fun _ _ _ h => h) (Or.inl ⟨by rfl, ?ya13⟩) (by assumption) ?_
    case ya13 => intro w hSw; (try dsimp only at hSw); go_simp <;> with_reducible rfl
    try simp only [List.getElem_toArray, List.getElem_cons_succ, List.getElem_cons_zero, Act.put, List.setIfInBounds_toArray, List.set_cons_zero, List.set_cons_succ]
    refine wpAnyH_done (by kernel_rfl) ?_ _
    go_wp2
    go_ret
    exact ⟨rfl, B0.out.trans (hHeld.1.mono B0.out.size)⟩
end Go.Proofs.YtdackenaknieaaaGreat.Place

/- octavo/place: runMayBe, Twin, slices.Equal, Same: what each answers. Conditions: the slices' cells are runs. -/
namespace Go.Proofs.YtdackenaknieaaaGreat.Place
open Go.RowKit Stamp
attribute [local go_sem ↓] Go.wp_at_zero Go.wp_at_succ

set_option maxHeartbeats 1000000 in
theorem runMayBe_any (t r : Nat) (m : Int) (w : World) :
    Calls Tryz.prog 92 #[.agg #[.int .u32 (t : Int), .int .u8 (r : Int), .int .i64 m]] w fun e w' => e = .returned (.bool (oneB t r m)) ∧ Below w.heap.size w w' := by
  have q : (decide (m < 1) = true ∧ oneB t r m = false) ∨ (decide (m < 1) = false ∧ decide (4096 < m) = true ∧ oneB t r m = false) ∨
      (decide (m < 1) = false ∧ decide (4096 < m) = false ∧ may t r = false ∧ oneB t r m = false) ∨
      (decide (m < 1) = false ∧ decide (4096 < m) = false ∧ may t r = true ∧ (1 ≤ m ∧ m ≤ 4096) ∧ t ≤ 1073741824 ∧ ∃ z : Nat, (z : Int) = (t : Int) + (m - 1) ∧ oneB t r m = may z r) := by
    unfold oneB
    by_cases h1 : m < 1
    · exact .inl ⟨decide_eq_true h1, decide_eq_false (by omega)⟩
    by_cases h2 : 4096 < m
    · exact .inr (.inl ⟨decide_eq_false h1, decide_eq_true h2, decide_eq_false (by omega)⟩)
    cases h3 : may t r
    · have := may_no.1 h3
      exact .inr (.inr (.inl ⟨decide_eq_false h1, decide_eq_false h2, rfl, decide_eq_false (by omega)⟩))
    · have := may_iff.1 h3
      refine .inr (.inr (.inr ⟨decide_eq_false h1, decide_eq_false h2, rfl, ⟨by omega, by omega⟩, by omega, ((t : Int) + (m - 1)).toNat, by omega, ?_⟩))
      unfold may
      rw [decide_eq_decide]
      omega
  have FO := Lib.hid (fun W => firstOf_any t r m W)
  have P0 := Lib.hid (tri_new w (.int .u32 (t : Int)) (.int .u8 (r : Int)) (.int .i64 m) 49)
  have B0 := Lib.hid ((Below.refl w.heap.size w).alloc (Nat.le_refl _) (.cells #[.int .u32 (t : Int), .int .u8 (r : Int), .int .i64 m] 49))
  rcases q with ⟨q1, h⟩ | ⟨q1, q2, h⟩ | ⟨q1, q2, q3, h⟩ | ⟨q1, q2, q3, q4, q5, z, hz, h⟩
  · rw [h]
    clear h
    go_enter Tryz.func92, Tryz.ntmps92
    go_wp2
    go_ret
    exact ⟨rfl, (Below.refl _ _).alloc (Nat.le_refl _) _⟩
  · rw [h]
    clear h
    go_enter Tryz.func92, Tryz.ntmps92
    go_wp2
    go_ret
    exact ⟨rfl, (Below.refl _ _).alloc (Nat.le_refl _) _⟩
  · have CK := Lib.hid (fun W => check_no t r q3 W)
    rw [h]
    clear h q3
    go_enter Tryz.func92, Tryz.ntmps92
    go_wp2_with fail
    refine (FO.out _).mono ?_
    rintro e w1 ⟨rfl, b1⟩
    have B1 := Lib.hid (bt B0.out b1)
    clear b1
    go_wp2_with fail
    refine (CK.out _).mono ?_
    rintro e w2 ⟨rfl, b2⟩
    have B2 := Lib.hid (bt B1.out b2)
    clear b2
    go_wp2
    go_ret
    exact ⟨rfl, B2.out⟩
  · have CK := Lib.hid (fun W => check_yes t r q3 W)
    have LO := Lib.hid (fun W => lastOf_any t r m z hz q4 q5 W)
    obtain ⟨q, hq⟩ : ∃ q, may z r = q := ⟨_, rfl⟩
    rw [h, hq]
    have C2 : Hid (∀ W : World, Calls Tryz.prog 82 #[.agg #[.int .u32 (z : Int), .int .u8 (r : Int)]] W fun e w' => e = .returned (.int .i64 (if q = true then 0 else 8)) ∧ Below W.heap.size W w') := fun W => by
      have := check_any z r W
      unfold Stamp.chk at this
      rwa [hq] at this
    clear h q3 hz q4 q5 hq
    cases q
    all_goals
      simp only [Bool.false_eq_true, if_false, if_true] at C2
      go_enter Tryz.func92, Tryz.ntmps92
      go_wp2_with fail
      refine (FO.out _).mono ?_
      rintro e w1 ⟨rfl, b1⟩
      have B1 := Lib.hid (bt B0.out b1)
      have P1 := Lib.hid (P0.out.keeps b1)
      clear b1
      go_wp2_with fail
      refine (CK.out _).mono ?_
      rintro e w2 ⟨rfl, b2⟩
      have B2 := Lib.hid (bt B1.out b2)
      have P2 := Lib.hid (P1.out.keeps b2)
      clear b2
      obtain ⟨g0, g1, g2, g3⟩ := P2.out
      go_wp2_with fail
      refine (LO.out _).mono ?_
      rintro e w3 ⟨rfl, b3⟩
      have B3 := Lib.hid (bt B2.out b3)
      clear b3 g0 g1 g2 g3
      go_wp2_with fail
      refine (C2.out _).mono ?_
      rintro e w4 ⟨rfl, b4⟩
      have B4 := Lib.hid (bt B3.out b4)
      clear b4
      go_wp2
      go_ret
      exact ⟨rfl, B4.out⟩

theorem ptwin_any {v : Value} {l : List Run} {w : World} (hv : Runs w v l) (hl : l.length ≤ 8796093022208) :
    Calls Tryz.prog 65 #[v] w fun e w' => ∃ v', e = .returned v' ∧ w'.ownsRow w.heap.size 49 3 v' l.length (runs l) ∧ Below w.heap.size w w' := by
  obtain ⟨ao, cap, rfl⟩ := hv.shape
  have HV : Hid (Sees w (.slice ao l.length cap) 3 l.length (runs l)) := hv
  have O0 : Hid (w.ownsRow w.heap.size 49 3 (.slice none 0 0) 0 []) := World.ownsRow_nil _ _ _ _
  clear hv
  go_enter Tryz.func65, Tryz.ntmps65
  go_wp2_with (at_builtin; refine wpList_append_sees rfl (.const (.slice none 0 0)) (.tmp 3) 29 49 rfl Tryz.underlying29 run_info rfl (by decide) w.heap.size _ 0 [] rfl O0.out _ l.length _ rfl HV.out (runs_oneCell l) ?k1 ?k2 ?k3 ?_)
  case k1 => omega
  case k2 => omega
  case k3 => simp
  rintro v1 w1 o1 g1 b1
  have HO : Hid (w1.ownsRow w.heap.size 49 3 v1 l.length (runs l)) := by
    have := o1
    unfold Hid
    simpa using this
  have HB := Lib.hid b1
  clear o1 g1 b1
  go_wp2
  go_ret
  exact ⟨_, rfl, HO.out, HB.out⟩

theorem refSame_any {a b : Value} {l m : List Run} {w : World} (ha : Runs w a l) (hb : Runs w b m) :
    Calls Tryz.prog 81 #[a, b] w fun e w' => e = .returned (.bool (decide (l = m))) ∧ Below w.heap.size w w' := by
  by_cases h : l = m
  · subst h
    rw [decide_eq_true rfl]
    exact same_yes ha hb
  · rw [decide_eq_false h]
    exact same_no ha hb h
end Go.Proofs.YtdackenaknieaaaGreat.Place
