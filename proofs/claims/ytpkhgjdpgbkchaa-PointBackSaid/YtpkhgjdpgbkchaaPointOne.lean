/- PointOne answers true, and changes nothing that was there. Conditions: none. -/
import Derived.Test.YtpkhgjdpgbkchaaPointLaws
namespace Go.Proofs.Ytpkhgjdpgbkchaa.Point
open Go.RowKit Go.WideShapes

theorem str_size (l : List UInt8) : (str l).size = l.length := by simp [str, ByteArray.size]
theorem text_is {l : List Int} {S : ByteArray} {c : Int} (h : (str (tr l).1, (tr l).2) = (S, c)) {v : Value} {w : World} (hv : Ints w v l) :
    Calls Try.prog 8 #[v] w (fun e w' => e = .returned (.tuple #[.string S, .int .i64 c]) ∧ Below w.heap.size w w') := by
  have := text_any hv
  obtain ⟨h1, h2⟩ := Prod.mk.inj h
  rw [h1, h2] at this
  exact this

set_option maxHeartbeats 1000000 in
theorem one_yes (n : Int) (hp : IsPt n) (w : World) : Calls Try.prog 7 #[.int .i64 n] w fun e w' => e = .returned (.bool true) ∧ Below w.heap.size w w' := by
  obtain ⟨S, hS⟩ : ∃ S, S = str (enc n) := ⟨_, rfl⟩
  have htr : (str (tr [n]).1, (tr [n]).2) = (S, 0) := by
    have : tr [n] = (enc n, 0) := by
      unfold tr
      rw [if_pos (by simp), if_pos (by simpa [Pts] using hp)]
      simp [flat]
    rw [this, hS]
  have r1 : Hid (∀ w : World, Ints (w.alloc (.cells #[.int .i64 n] 3)) (.slice (some ⟨w.heap.size, 0, none⟩) 1 1) [n]) := fun w => ints_new w [n] 1 rfl (by simp) _
  have HT : Hid (∀ (W : World) (v : Value), Ints W v [n] → Calls Try.prog 8 #[v] W (fun e w' => e = .returned (.tuple #[.string S, .int .i64 0]) ∧ Below W.heap.size W w')) := fun W v h => text_is htr h
  have hsz : (S.size : Int) = ((enc n).length : Int) := by rw [hS, str_size]
  obtain ⟨m, rfl⟩ := Int.eq_ofNat_of_zero_le hp.1
  have hf := enc_form m hp
  have h2 := hp.2.2
  have h3 := hp.2.1
  have q1 : decide (0 ≤ (m : Int)) = true := by simp
  have q4 : decide ((m : Int) ≤ 1114111) = true := by simp; omega
  clear hS htr
  have q2 : decide ((m : Int) < 55296) = true ∨ decide ((m : Int) < 55296) = false ∧ decide ((57343 : Int) < (m : Int)) = true := by
    by_cases h : (m : Int) < 55296
    · exact .inl (decide_eq_true h)
    · exact .inr ⟨decide_eq_false h, decide_eq_true (by omega)⟩
  have q5 : (decide ((m : Int) < 128) = true ∧ ((S.size : Int) == 1) = true) ∨ (decide ((m : Int) < 128) = false ∧ decide ((m : Int) < 2048) = true ∧ ((S.size : Int) == 2) = true) ∨
      (decide ((m : Int) < 128) = false ∧ decide ((m : Int) < 2048) = false ∧ decide ((m : Int) < 65536) = true ∧ ((S.size : Int) == 3) = true) ∨
      (decide ((m : Int) < 128) = false ∧ decide ((m : Int) < 2048) = false ∧ decide ((m : Int) < 65536) = false ∧ ((S.size : Int) == 4) = true) := by
    rw [hsz]
    rcases hf with ⟨g1, e⟩ | ⟨g1, g2, e⟩ | ⟨g1, g2, e⟩ | ⟨g1, g2, e⟩
    · exact .inl ⟨decide_eq_true (by omega), by rw [e]; rfl⟩
    · exact .inr (.inl ⟨decide_eq_false (by omega), decide_eq_true (by omega), by rw [e]; rfl⟩)
    · exact .inr (.inr (.inl ⟨decide_eq_false (by omega), decide_eq_false (by omega), decide_eq_true (by omega), by rw [e]; rfl⟩))
    · exact .inr (.inr (.inr ⟨decide_eq_false (by omega), decide_eq_false (by omega), decide_eq_false (by omega), by rw [e]; rfl⟩))
  clear hf hsz
  have HP := Lib.hid hp
  clear hp h2 h3
  rcases q2 with q2 | ⟨q2, q3⟩ <;> rcases q5 with ⟨t1, t2⟩ | ⟨t1, t2, t3⟩ | ⟨t1, t2, t3, t4⟩ | ⟨t1, t2, t3, t4⟩
  all_goals
    go_enter Try.func7, Try.ntmps7
    go_wp2_with fail
    refine (Point.alive_any _).mono ?_
    rintro e w1 ⟨rfl, b1⟩
    go_wp2_with fail
    refine (HT.out _ _ (r1.out _)).mono ?_
    rintro e w2 ⟨rfl, b2⟩
    have hb2 : Below w.heap.size w w2 := (b1.alloc b1.size _).trans (b2.mono (by have := b1.size; simp; omega))
    clear b1 b2
    go_wp2_with fail
    refine (check_yes _ HP.out _).mono ?_
    rintro e w3 ⟨rfl, rfl⟩
    go_wp2
    go_ret
    exact ⟨rfl, hb2⟩

set_option maxHeartbeats 1000000 in
theorem one_no (n : Int) (hp : ¬ IsPt n) (w : World) : Calls Try.prog 7 #[.int .i64 n] w fun e w' => e = .returned (.bool true) ∧ Below w.heap.size w w' := by
  obtain ⟨S, hS⟩ : ∃ S, S = str [] := ⟨_, rfl⟩
  have htr : (str (tr [n]).1, (tr [n]).2) = (S, 40) := by
    have : tr [n] = ([], 40) := by
      unfold tr
      rw [if_pos (by simp), if_neg (by simpa [Pts] using hp)]
    rw [this, hS]
  have r1 : Hid (∀ w : World, Ints (w.alloc (.cells #[.int .i64 n] 3)) (.slice (some ⟨w.heap.size, 0, none⟩) 1 1) [n]) := fun w => ints_new w [n] 1 rfl (by simp) _
  have HT : Hid (∀ (W : World) (v : Value), Ints W v [n] → Calls Try.prog 8 #[v] W (fun e w' => e = .returned (.tuple #[.string S, .int .i64 40]) ∧ Below W.heap.size W w')) := fun W v h => text_is htr h
  clear hS htr
  have HP := Lib.hid hp
  rw [isPt_iff] at hp
  have q : (decide (0 ≤ n) = false ∧ decide (57343 < n) = false) ∨ (decide (0 ≤ n) = true ∧ decide (n < 55296) = false ∧ decide (57343 < n) = false) ∨ (decide (0 ≤ n) = true ∧ decide (n < 55296) = false ∧ decide (57343 < n) = true ∧ decide (n ≤ 1114111) = false) := by
    by_cases h1 : 0 ≤ n
    · by_cases h2 : 57343 < n
      · exact .inr (.inr ⟨decide_eq_true h1, decide_eq_false (by omega), decide_eq_true h2, decide_eq_false (by omega)⟩)
      · exact .inr (.inl ⟨decide_eq_true h1, decide_eq_false (by omega), decide_eq_false h2⟩)
    · exact .inl ⟨decide_eq_false h1, decide_eq_false (by omega)⟩
  have q' : (decide (n < 128) = true ∨ decide (n < 128) = false ∧ decide (n < 2048) = true) ∨ (decide (n < 128) = false ∧ decide (n < 2048) = false ∧ decide (n < 65536) = true) ∨ (decide (n < 128) = false ∧ decide (n < 2048) = false ∧ decide (n < 65536) = false) := by
    by_cases h1 : n < 128
    · exact .inl (.inl (decide_eq_true h1))
    · by_cases h2 : n < 2048
      · exact .inl (.inr ⟨decide_eq_false h1, decide_eq_true h2⟩)
      · by_cases h3 : n < 65536
        · exact .inr (.inl ⟨decide_eq_false h1, decide_eq_false h2, decide_eq_true h3⟩)
        · exact .inr (.inr ⟨decide_eq_false h1, decide_eq_false h2, decide_eq_false h3⟩)
  clear hp
  rcases q with ⟨q1, q3⟩ | ⟨q1, q2, q3⟩ | ⟨q1, q2, q3, q4⟩ <;> rcases q' with (t1 | ⟨t1, t2⟩) | ⟨t1, t2, t3⟩ | ⟨t1, t2, t3⟩
  all_goals
    go_enter Try.func7, Try.ntmps7
    go_wp2_with fail
    refine (Point.alive_any _).mono ?_
    rintro e w1 ⟨rfl, b1⟩
    go_wp2_with fail
    refine (HT.out _ _ (r1.out _)).mono ?_
    rintro e w2 ⟨rfl, b2⟩
    have hb2 : Below w.heap.size w w2 := (b1.alloc b1.size _).trans (b2.mono (by have := b1.size; simp; omega))
    clear b1 b2
    go_wp2_with fail
    refine (check_no _ HP.out _).mono ?_
    rintro e w3 ⟨rfl, rfl⟩
    go_wp2
    go_ret
    exact ⟨rfl, hb2⟩

theorem one_walk (n : Int) (w : World) : Calls Try.prog 7 #[.int .i64 n] w fun e w' => e = .returned (.bool true) ∧ Below w.heap.size w w' := by
  by_cases hp : IsPt n
  · exact one_yes n hp w
  · exact one_no n hp w
end Go.Proofs.Ytpkhgjdpgbkchaa.Point
