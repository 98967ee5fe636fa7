/- octavoref05: what May, Check, Less, Top and Next answer. Conditions: the slice's cells are stamps. -/
import Derived.Test.YtpoheimcbfbkdaaStampNextF
namespace Go.Proofs.Ytpoheimcbfbkdaa.Stamp
open Go.RowKit Flo

theorem refMay_any (t r : Nat) (w : World) :
    Calls Try.prog 18 #[.agg #[.int .u32 (t : Int), .int .u8 (r : Int)]] w fun e w' => e = .returned (.bool (may t r)) ∧ Below w.heap.size w w' := by
  have q : (decide (1 ≤ (t : Int)) = false ∧ may t r = false) ∨ (decide (1 ≤ (t : Int)) = true ∧ decide ((t : Int) ≤ 1073741824) = false ∧ may t r = false) ∨
      (decide (1 ≤ (t : Int)) = true ∧ decide ((t : Int) ≤ 1073741824) = true ∧ decide ((r : Int) < 8) = false ∧ may t r = false) ∨
      (decide (1 ≤ (t : Int)) = true ∧ decide ((t : Int) ≤ 1073741824) = true ∧ decide ((r : Int) < 8) = true ∧ may t r = true) := by
    by_cases h1 : 1 ≤ t
    · by_cases h2 : t ≤ 1073741824
      · by_cases h3 : r < 8
        · exact .inr (.inr (.inr ⟨decide_eq_true (by omega), decide_eq_true (by omega), decide_eq_true (by omega), by rw [may_iff]; omega⟩))
        · exact .inr (.inr (.inl ⟨decide_eq_true (by omega), decide_eq_true (by omega), decide_eq_false (by omega), by rw [may_no]; omega⟩))
      · exact .inr (.inl ⟨decide_eq_true (by omega), decide_eq_false (by omega), by rw [may_no]; omega⟩)
    · exact .inl ⟨decide_eq_false (by omega), by rw [may_no]; omega⟩
  have q' : (1 ≤ t) ∨ t = 0 := by omega
  rcases q with ⟨q1, h⟩ | ⟨q1, q2, h⟩ | ⟨q1, q2, q3, h⟩ | ⟨q1, q2, q3, h⟩
  all_goals
    rw [h]
    clear h q'
    go_enter Try.func18, Try.ntmps18
    go_wp2
    go_ret
    exact ⟨rfl, (Below.refl _ _).alloc (Nat.le_refl _) _⟩

theorem refCheck_any (t r : Nat) (w : World) :
    Calls Try.prog 12 #[.agg #[.int .u32 (t : Int), .int .u8 (r : Int)]] w fun e w' => e = .returned (.int .i64 (chk t r)) ∧ Below w.heap.size w w' := by
  unfold chk
  cases h : may t r
  all_goals
    have M : Hid (∀ W : World, Calls Try.prog 18 #[.agg #[.int .u32 (t : Int), .int .u8 (r : Int)]] W (fun e w' => e = .returned (.bool (may t r)) ∧ Below W.heap.size W w')) := fun W => refMay_any t r W
    rw [h] at M
    clear h
    go_enter Try.func12, Try.ntmps12
    go_wp2_with fail
    refine (M.out _).mono ?_
    rintro e w1 ⟨rfl, b1⟩
    have hb := below_of3 b1
    clear b1
    go_wp2
    go_ret
    exact ⟨rfl, hb⟩

theorem refLess_any (t r u s : Nat) (w : World) :
    Calls Try.prog 14 #[.agg #[.int .u32 (t : Int), .int .u8 (r : Int)], .agg #[.int .u32 (u : Int), .int .u8 (s : Int)]] w fun e w' => e = .returned (.bool (less t r u s)) ∧ Below w.heap.size w w' := by
  obtain ⟨q, hq⟩ : ∃ q, q = less t r u s := ⟨_, rfl⟩
  have hl : (decide ((t : Int) < (u : Int)) = true ∧ decide (t < u) = true ∧ true = q) ∨ (decide ((t : Int) < (u : Int)) = false ∧ decide (t < u) = false ∧ ((t : Int) == (u : Int)) = true ∧ decide (t = u) = true ∧ decide (r < s) = q) ∨
      (decide ((t : Int) < (u : Int)) = false ∧ decide (t < u) = false ∧ ((t : Int) == (u : Int)) = false ∧ decide (t = u) = false ∧ false = q) := by
    rw [hq]
    by_cases h1 : t < u
    · exact .inl ⟨decide_eq_true (by omega), decide_eq_true h1, by rw [eq_comm, less_iff]; omega⟩
    · by_cases h2 : t = u
      · refine .inr (.inl ⟨decide_eq_false (by omega), decide_eq_false h1, by simp [h2], decide_eq_true h2, ?_⟩)
        unfold less; congr 1; simp; omega
      · exact .inr (.inr ⟨decide_eq_false (by omega), decide_eq_false h1, by simp; omega, decide_eq_false h2, by rw [eq_comm, less_no]; omega⟩)
  rw [← hq]
  clear hq
  rcases hl with ⟨k1, k2, rfl⟩ | ⟨k1, k2, k3, k4, k5⟩ | ⟨k1, k2, k3, k4, rfl⟩
  all_goals
    go_enter Try.func14, Try.ntmps14
    go_wp2
    go_ret
    exact ⟨by first | rfl | rw [← k5], ((Below.refl _ _).alloc (Nat.le_refl _) _).alloc (by simp) _⟩

set_option maxHeartbeats 1000000 in
theorem refTop_any {v : Value} {l : List Id} {w : World} (hv : Ids w v l) :
    Calls Try.prog 19 #[v] w fun e w' => e = .returned (.int .u32 (top l : Int)) ∧ w = w' := by
  obtain ⟨ao, cap, rfl⟩ := hv.shape
  obtain ⟨n, hn⟩ : ∃ n, n = l.length := ⟨_, rfl⟩
  have hm : n ≤ 9223372036854775807 := by rw [hn]; exact Sees.max hv
  have HV := Lib.hid hv
  have HN := Lib.hid hn
  rw [← hn]
  clear hv hn
  go_enter Try.func19, Try.ntmps19
  go_wp2
  go_loop [3, 4] (fun m i => ∃ k p : Nat, k ≤ n ∧ i = .int .i64 (k : Int) ∧ m = .int .u32 (p : Int) ∧ Hid (p = top (l.take k))) (fun _ i => n - (intOf i).toNat)
  case atStart => exact ⟨0, 0, by omega, rfl, rfl, Lib.hid rfl⟩
  case round =>
    obtain ⟨k, p, hk, rfl, rfl, hp⟩ := hrel
    by_cases hkn : k < n
    · have q1 : decide (k < n) = true := by simpa using hkn
      obtain ⟨b, off, rfl, hb, hx0, hx1⟩ := HV.out.at k (by rw [← HN.out]; exact hkn)
      clear hx1
      have htk := top_take l k (by rw [← HN.out]; exact hkn)
      obtain ⟨x, hx⟩ : ∃ x, x = l.getD k zid := ⟨_, rfl⟩
      rw [← hx] at hx0 htk
      obtain ⟨t, s, ht, hs⟩ := x
      simp only at hx0 htk
      rw [← hp.out] at htk
      have HT := Lib.hid htk
      clear hx htk
      have q2 : (0 : Int) ≤ (k : Int) := by omega
      have q3 : (k : Int) < (n : Int) := by omega
      by_cases h : p < t
      · have t1 : decide ((p : Int) < (t : Int)) = true := decide_eq_true (by omega)
        have t2 : decide (p < t) = true := decide_eq_true h
        go_wp2
        go_round
        case rel => exact ⟨k + 1, t, by omega, by go_num, rfl, Lib.hid (by rw [HT.out]; omega)⟩
        case measure => simp [intOf]; omega
      · have t1 : decide ((p : Int) < (t : Int)) = false := decide_eq_false (by omega)
        have t2 : decide (p < t) = false := decide_eq_false h
        go_wp2
        go_round
        case rel => exact ⟨k + 1, p, by omega, by go_num, rfl, Lib.hid (by rw [HT.out]; omega)⟩
        case measure => simp [intOf]; omega
    · have q1 : decide (k < n) = false := by simpa using hkn
      have hkk : l.take k = l := List.take_of_length_le (by have := HN.out; omega)
      have hpl := hp.out
      rw [hkk] at hpl
      have HP := Lib.hid hpl
      clear hkk hpl
      go_wp2
      go_ret
      exact ⟨by have := HP.out; subst this; rfl, rfl⟩
end Go.Proofs.Ytpoheimcbfbkdaa.Stamp
