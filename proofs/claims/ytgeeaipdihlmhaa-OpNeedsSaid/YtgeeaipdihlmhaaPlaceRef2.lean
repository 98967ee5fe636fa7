/- octavoref06: end, one, Long, Final: what each answers. Conditions: the slices' cells are runs; Long: the sums fit. -/
import Derived.Test.YtgeeaipdihlmhaaPlaceRef
namespace Go.Proofs.Ytgeeaipdihlmhaa.Place
open Go.RowKit Stamp
attribute [local go_sem ↓] Go.wp_at_zero Go.wp_at_succ

theorem end_any (t r : Nat) (m : Int) (ht : t < 4294967296) (hm : 1 ≤ m ∧ m ≤ 4096) (w : World) :
    Calls Try.prog 58 #[.agg #[.int .u32 (t : Int), .int .u8 (r : Int), .int .i64 m]] w fun e w' => e = .returned (.int .i64 ((t : Int) + m - 1)) ∧ Below w.heap.size w w' := by
  obtain ⟨h1, h2⟩ := hm
  go_enter Try.func58, Try.ntmps58
  go_wp2
  go_ret
  exact ⟨rfl, (Below.refl _ _).alloc (Nat.le_refl _) _⟩

/-- May a run be, by itself, as a Bool. -/
def oneB (t r : Nat) (m : Int) : Bool := decide (1 ≤ t ∧ t ≤ 1073741824 ∧ r < 8 ∧ 1 ≤ m ∧ m ≤ 4096 ∧ (t : Int) + m - 1 ≤ 1073741824)
theorem oneB_iff (x : Run) : oneB x.t x.r x.m = true ↔ One x := by unfold oneB One; rw [decide_eq_true_iff]

set_option maxHeartbeats 1000000 in
theorem one_any (t r : Nat) (m : Int) (ht : t < 4294967296) (w : World) :
    Calls Try.prog 57 #[.agg #[.int .u32 (t : Int), .int .u8 (r : Int), .int .i64 m]] w fun e w' => e = .returned (.bool (oneB t r m)) ∧ Below w.heap.size w w' := by
  have q : (decide (1 ≤ (t : Int)) = false ∧ t = 0 ∧ oneB t r m = false) ∨ (decide (1 ≤ (t : Int)) = true ∧ 1 ≤ t ∧ decide ((t : Int) ≤ 1073741824) = false ∧ oneB t r m = false) ∨
      (decide (1 ≤ (t : Int)) = true ∧ 1 ≤ t ∧ decide ((t : Int) ≤ 1073741824) = true ∧ decide ((r : Int) < 8) = false ∧ oneB t r m = false) ∨
      (decide (1 ≤ (t : Int)) = true ∧ 1 ≤ t ∧ decide ((t : Int) ≤ 1073741824) = true ∧ decide ((r : Int) < 8) = true ∧ decide (1 ≤ m) = false ∧ oneB t r m = false) ∨
      (decide (1 ≤ (t : Int)) = true ∧ 1 ≤ t ∧ decide ((t : Int) ≤ 1073741824) = true ∧ decide ((r : Int) < 8) = true ∧ decide (1 ≤ m) = true ∧ decide (m ≤ 4096) = false ∧ oneB t r m = false) ∨
      (decide (1 ≤ (t : Int)) = true ∧ 1 ≤ t ∧ decide ((t : Int) ≤ 1073741824) = true ∧ decide ((r : Int) < 8) = true ∧ decide (1 ≤ m) = true ∧ decide (m ≤ 4096) = true ∧ (1 ≤ m ∧ m ≤ 4096) ∧ oneB t r m = decide ((t : Int) + m - 1 ≤ 1073741824)) := by
    unfold oneB
    by_cases h1 : 1 ≤ t
    · by_cases h2 : t ≤ 1073741824
      · by_cases h3 : r < 8
        · by_cases h4 : 1 ≤ m
          · by_cases h5 : m ≤ 4096
            · refine .inr (.inr (.inr (.inr (.inr ⟨decide_eq_true (by omega), h1, decide_eq_true (by omega), decide_eq_true (by omega), decide_eq_true h4, decide_eq_true h5, ⟨h4, h5⟩, ?_⟩))))
              rw [decide_eq_decide]; omega
            · exact .inr (.inr (.inr (.inr (.inl ⟨decide_eq_true (by omega), h1, decide_eq_true (by omega), decide_eq_true (by omega), decide_eq_true h4, decide_eq_false h5, decide_eq_false (by omega)⟩))))
          · exact .inr (.inr (.inr (.inl ⟨decide_eq_true (by omega), h1, decide_eq_true (by omega), decide_eq_true (by omega), decide_eq_false h4, decide_eq_false (by omega)⟩)))
        · exact .inr (.inr (.inl ⟨decide_eq_true (by omega), h1, decide_eq_true (by omega), decide_eq_false (by omega), decide_eq_false (by omega)⟩))
      · exact .inr (.inl ⟨decide_eq_true (by omega), h1, decide_eq_false (by omega), decide_eq_false (by omega)⟩)
    · exact .inl ⟨decide_eq_false (by omega), by omega, decide_eq_false (by omega)⟩
  rcases q with ⟨q1, g, h⟩ | ⟨q1, g, q2, h⟩ | ⟨q1, g, q2, q3, h⟩ | ⟨q1, g, q2, q3, q4, h⟩ | ⟨q1, g, q2, q3, q4, q5, h⟩ | ⟨q1, g, q2, q3, q4, q5, q6, h⟩
  case inr.inr.inr.inr.inr =>
    have E := Lib.hid (end_any t r m ht q6)
    have P0 := Lib.hid (Tri.keeps (tri_new w (.int .u32 (t : Int)) (.int .u8 (r : Int)) (.int .i64 m) 24) (Below.refl _ _))
    obtain ⟨z, hz⟩ : ∃ z, z = (t : Int) + m - 1 := ⟨_, rfl⟩
    rw [← hz] at E h
    rw [h]
    clear h hz q6
    cases hq : decide (z ≤ 1073741824)
    all_goals
      go_enter Try.func57, Try.ntmps57
      go_wp2_with fail
      refine (E.out _).mono ?_
      rintro e w1 ⟨rfl, b1⟩
      have hb : Below w.heap.size w w1 := ((Below.refl _ _).alloc (Nat.le_refl _) _).trans (b1.mono (by simp))
      clear b1
      go_wp2
      go_ret
      exact ⟨rfl, hb⟩
  all_goals
    rw [h]
    clear h
    go_enter Try.func57, Try.ntmps57
    go_wp2
    go_ret
    exact ⟨rfl, (Below.refl _ _).alloc (Nat.le_refl _) _⟩

theorem long_take (l : List Run) (k : Nat) (h : k < l.length) : long (l.take (k + 1)) = long (l.take k) + (l.getD k zrun).m := by
  have : ∀ (p q : List Run), long (p ++ q) = long p + long q := by
    intro p q
    induction p with
    | nil => simp [long]
    | cons x p ih => simp [long, ih]; omega
  rw [List.take_succ_eq_append_getElem h, this]
  simp [long, List.getD, List.getElem?_eq_getElem h]
/-- Runs each of which may be by itself. -/
def Ones (l : List Run) : Prop := ∀ k, k < l.length → 1 ≤ (l.getD k zrun).m ∧ (l.getD k zrun).m ≤ 4097

set_option maxHeartbeats 1000000 in
theorem long_any {v : Value} {l : List Run} {w : World} (hv : Runs w v l) (hl : l.length ≤ 1000) (h1 : Ones l) :
    Calls Try.prog 59 #[v] w fun e w' => e = .returned (.int .i64 (long l)) ∧ w = w' := by
  obtain ⟨ao, cap, rfl⟩ := hv.shape
  obtain ⟨n, hn⟩ : ∃ n, n = l.length := ⟨_, rfl⟩
  have HV := Lib.hid hv
  have HN := Lib.hid hn
  have HO := Lib.hid h1
  rw [← hn] at hl ⊢
  clear hv hn h1
  go_enter Try.func59, Try.ntmps59
  go_wp2
  go_loop [3, 4] (fun s i => ∃ (k : Nat) (z : Int), k ≤ n ∧ i = .int .i64 (k : Int) ∧ s = .int .i64 z ∧ 0 ≤ z ∧ z ≤ 4097 * (k : Int) ∧ Hid (z = long (l.take k))) (fun _ i => n - (intOf i).toNat)
  case atStart => exact ⟨0, 0, by omega, rfl, rfl, by omega, by omega, Lib.hid rfl⟩
  case round =>
    obtain ⟨k, z, hk, rfl, rfl, z0, z1, hz⟩ := hrel
    by_cases hkn : k < n
    · have q1 : decide (k < n) = true := by simpa using hkn
      obtain ⟨b, off, rfl, hb, hx0, hx1, hx2⟩ := HV.out.at k (by rw [← HN.out]; exact hkn)
      have ho := HO.out k (by rw [← HN.out]; exact hkn)
      have ht := long_take l k (by rw [← HN.out]; exact hkn)
      obtain ⟨m, hm⟩ : ∃ m, m = (l.getD k zrun).m := ⟨_, rfl⟩
      rw [← hm] at hx2 ho ht
      rw [← hz.out] at ht
      have HT := Lib.hid ht
      obtain ⟨o1, o2⟩ := ho
      have q2 : (0 : Int) ≤ (k : Int) := by omega
      have q3 : (k : Int) < (n : Int) := by omega
      have q4 : 0 ≤ z + m := by omega
      have q5 : z + m ≤ 5000000 := by omega
      clear hm ht hx0 hx1
      go_wp2
      go_round
      case rel => exact ⟨k + 1, z + m, by omega, by go_num, rfl, by omega, by omega, Lib.hid HT.out.symm⟩
      case measure => simp [intOf]; omega
    · have q1 : decide (k < n) = false := by simpa using hkn
      have hkk : l.take k = l := List.take_of_length_le (by have := HN.out; omega)
      have hz2 := hz.out
      rw [hkk] at hz2
      have HZ := Lib.hid hz2
      clear hkk hz2
      go_wp2
      go_ret
      exact ⟨by have := HZ.out; subst this; rfl, rfl⟩
end Go.Proofs.Ytgeeaipdihlmhaa.Place
