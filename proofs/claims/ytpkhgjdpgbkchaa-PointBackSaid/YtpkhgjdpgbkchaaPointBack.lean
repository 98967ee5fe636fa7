/- PointBack answers true, and changes nothing that was there. Conditions: the slice's cells are numbers. -/
import Derived.Test.YtpkhgjdpgbkchaaPointOne
import Derived.Test.YtpkhgjdpgbkchaaPointJoins
namespace Go.Proofs.Ytpkhgjdpgbkchaa.Point
open Go.RowKit Go.WideShapes

theorem tr_pts {l : List Int} (h : Pts l) (hl : l.length ≤ 1024) : tr l = (flat l, 0) := by unfold tr; rw [if_pos hl, if_pos h]
theorem tr_cases (l : List Int) : (l.length ≤ 1024 ∧ Pts l ∧ tr l = (flat l, 0)) ∨ ∃ c, tr l = ([], c) ∧ c ≠ 0 := by
  unfold tr
  by_cases h1 : l.length ≤ 1024
  · rw [if_pos h1]
    by_cases h2 : Pts l
    · rw [if_pos h2]; exact .inl ⟨h1, h2, rfl⟩
    · rw [if_neg h2]; exact .inr ⟨40, rfl, by decide⟩
  · rw [if_neg h1]; exact .inr ⟨4, rfl, by decide⟩
theorem str_bytes (l : List UInt8) : (str l).data.toList = l := rfl

set_option maxHeartbeats 2000000 in
theorem back_walk (s : ByteArray) (ao : Option Addr) (cap : Nat) (l : List Int) (w : World) (hs0 : s.size ≤ maxLen) (hr : Ints w (.slice ao l.length cap) l) :
    Calls Try.prog 5 #[.string s, .slice ao l.length cap] w fun e w' => e = .returned (.bool true) ∧ Below w.heap.size w w' := by
  unfold maxLen at hs0
  obtain ⟨n, hn⟩ : ∃ n, n = l.length := ⟨_, rfl⟩
  have hm : n ≤ 9223372036854775807 := by rw [hn]; exact Sees.max hr
  rw [← hn] at hr ⊢
  have HR := Lib.hid hr
  have HN := Lib.hid hn
  clear hr hn
  by_cases h1 : 5000 < s.size
  · have t1 : decide ((5000 : Int) < (s.size : Int)) = true := decide_eq_true (by omega)
    go_enter Try.func5, Try.ntmps5
    go_wp2_with fail
    refine (alive_any _).mono ?_
    rintro e w1 ⟨rfl, b1⟩
    go_wp2
    go_ret
    exact ⟨rfl, b1⟩
  have t1 : decide ((5000 : Int) < (s.size : Int)) = false := decide_eq_false (by omega)
  by_cases h2 : 2000 < n
  · have t2 : decide ((2000 : Int) < (n : Int)) = true := decide_eq_true (by omega)
    have t3 : decide (2000 < n) = true := decide_eq_true h2
    go_enter Try.func5, Try.ntmps5
    go_wp2_with fail
    refine (alive_any _).mono ?_
    rintro e w1 ⟨rfl, b1⟩
    go_wp2
    go_ret
    exact ⟨rfl, b1⟩
  have t2 : decide ((2000 : Int) < (n : Int)) = false := decide_eq_false (by omega)
  have t3 : decide (2000 < n) = false := decide_eq_false h2
  obtain ⟨⟨a, ca⟩, ha⟩ : ∃ d, pr s.data.toList = d := ⟨_, rfl⟩
  have K1 := Lib.hid (points_is s (by omega) ha)
  have ea := pr_ok ha
  -- what becomes of the second half
  obtain ⟨S, hS⟩ : ∃ S, S = str (tr l).1 := ⟨_, rfl⟩
  obtain ⟨cl, hcl⟩ : ∃ c, c = (tr l).2 := ⟨_, rfl⟩
  have K3 : Hid (∀ (W : World) (v : Value), Ints W v l → Calls Try.prog 8 #[v] W (fun e w' => e = .returned (.tuple #[.string S, .int .i64 cl]) ∧ Below W.heap.size W w')) := fun W v h => text_is (by rw [hS, hcl]) h
  have half : (cl = 0 ∧ ∀ W : World, Calls Try.prog 9 #[.string S] W (fun e w' => Ans l 0 e W w')) ∨ (((cl : Int) != 0) = true ∧ S.toList.isEmpty = true) := by
    rcases tr_cases l with ⟨g1, g2, g3⟩ | ⟨c, g1, g2⟩
    · left
      rw [hcl, hS, g3]
      refine ⟨rfl, fun W => points_is _ ?_ ?_ W⟩
      · have := (flat_len l).2
        show (str (flat l)).size ≤ _
        rw [str_size]
        omega
      · rw [str_bytes]
        exact pr_some (pts_flat g2) g1
    · right
      rw [hcl, hS, g1]
      exact ⟨by rw [bne_iff_ne]; exact g2, by rw [ByteArray.toList_eq]; rfl⟩
  clear hS hcl ha
  have hca : (ca = 0 ∧ (∀ (W : World) (v : Value), Ints W v a → Calls Try.prog 8 #[v] W (fun e w' => e = .returned (.tuple #[.string s, .int .i64 0]) ∧ Below W.heap.size W w'))) ∨ ((ca : Int) == 0) = false := by
    rcases ea with ⟨rfl, ea, la⟩ | ⟨rfl, _⟩ | ⟨rfl, _⟩
    · left
      obtain ⟨pa, fa⟩ := pts_some ea
      refine ⟨rfl, fun W v h => text_is ?_ h⟩
      rw [tr_pts pa la]
      have : str (flat a) = s := by rw [← fa]; rfl
      simp only [this]
    · right; rfl
    · right; rfl
  clear ea
  rcases hca with ⟨rfl, k2⟩ | t4 <;> rcases half with ⟨rfl, k4⟩ | ⟨t5, t6⟩
  · have K2 := Lib.hid k2
    have K4 := Lib.hid k4
    clear k2 k4
    go_enter Try.func5, Try.ntmps5
    go_wp2_with fail
    refine (alive_any _).mono ?_
    rintro e w1 ⟨rfl, b1⟩
    go_wp2_with fail
    refine (K1.out _).mono ?_
    rintro e w2 ⟨a1, c1, rfl, own1, b2⟩
    have hb2 := bt b1 b2
    have I1 := Lib.hid (Ints.own own1)
    have R2 := Lib.hid (HR.out.keeps hb2)
    clear own1 b1 b2
    go_wp2_with fail
    refine (K2.out _ _ I1.out).mono ?_
    rintro e w3 ⟨rfl, b3⟩
    have hb3 := bt hb2 b3
    have R3 := Lib.hid (R2.out.keeps b3)
    clear hb2 b3 R2
    go_wp2_with fail
    refine (K3.out _ _ R3.out).mono ?_
    rintro e w4 ⟨rfl, b4⟩
    have hb4 := bt hb3 b4
    have R4 := Lib.hid (R3.out.keeps b4)
    clear hb3 b4 R3
    go_wp2_with fail
    refine (K4.out _).mono ?_
    rintro e w5 ⟨a5, c5, rfl, own5, b5⟩
    have hb5 := bt hb4 b5
    have I5 := Lib.hid (Ints.own own5)
    have R5 := Lib.hid (R4.out.keeps b5)
    have HN' := HN.out
    rw [← HN'] at I5 ⊢
    clear own5 hb4 b5 R4 HN'
    go_wp2_with fail
    refine (same_yes I5.out R5.out).mono ?_
    rintro e w6 ⟨rfl, b6⟩
    have hb6 := bt hb5 b6
    clear b6 hb5
    go_wp2
    go_ret
    exact ⟨rfl, hb6⟩
  · have K2 := Lib.hid k2
    clear k2
    go_enter Try.func5, Try.ntmps5
    go_wp2_with fail
    refine (alive_any _).mono ?_
    rintro e w1 ⟨rfl, b1⟩
    go_wp2_with fail
    refine (K1.out _).mono ?_
    rintro e w2 ⟨a1, c1, rfl, own1, b2⟩
    have hb2 := bt b1 b2
    have I1 := Lib.hid (Ints.own own1)
    have R2 := Lib.hid (HR.out.keeps hb2)
    clear own1 b1 b2
    go_wp2_with fail
    refine (K2.out _ _ I1.out).mono ?_
    rintro e w3 ⟨rfl, b3⟩
    have hb3 := bt hb2 b3
    have R3 := Lib.hid (R2.out.keeps b3)
    clear hb2 b3 R2
    go_wp2_with fail
    refine (K3.out _ _ R3.out).mono ?_
    rintro e w4 ⟨rfl, b4⟩
    have hb4 := bt hb3 b4
    clear hb3 b4
    go_wp2
    go_ret
    exact ⟨rfl, hb4⟩
  · have K4 := Lib.hid k4
    clear k4
    go_enter Try.func5, Try.ntmps5
    go_wp2_with fail
    refine (alive_any _).mono ?_
    rintro e w1 ⟨rfl, b1⟩
    go_wp2_with fail
    refine (K1.out _).mono ?_
    rintro e w2 ⟨a1, c1, rfl, own1, b2⟩
    have hb3 := bt b1 b2
    have R3 := Lib.hid (HR.out.keeps hb3)
    clear own1 b1 b2
    go_wp2_with fail
    refine (K3.out _ _ R3.out).mono ?_
    rintro e w4 ⟨rfl, b4⟩
    have hb4 := bt hb3 b4
    have R4 := Lib.hid (R3.out.keeps b4)
    clear hb3 b4 R3
    go_wp2_with fail
    refine (K4.out _).mono ?_
    rintro e w5 ⟨a5, c5, rfl, own5, b5⟩
    have hb5 := bt hb4 b5
    have I5 := Lib.hid (Ints.own own5)
    have R5 := Lib.hid (R4.out.keeps b5)
    have HN' := HN.out
    rw [← HN'] at I5 ⊢
    clear own5 hb4 b5 R4 HN'
    go_wp2_with fail
    refine (same_yes I5.out R5.out).mono ?_
    rintro e w6 ⟨rfl, b6⟩
    have hb6 := bt hb5 b6
    clear b6 hb5
    go_wp2
    go_ret
    exact ⟨rfl, hb6⟩
  · go_enter Try.func5, Try.ntmps5
    go_wp2_with fail
    refine (alive_any _).mono ?_
    rintro e w1 ⟨rfl, b1⟩
    go_wp2_with fail
    refine (K1.out _).mono ?_
    rintro e w2 ⟨a1, c1, rfl, own1, b2⟩
    have hb3 := bt b1 b2
    have R3 := Lib.hid (HR.out.keeps hb3)
    clear own1 b1 b2
    go_wp2_with fail
    refine (K3.out _ _ R3.out).mono ?_
    rintro e w4 ⟨rfl, b4⟩
    have hb4 := bt hb3 b4
    clear hb3 b4
    go_wp2
    go_ret
    exact ⟨rfl, hb4⟩
end Go.Proofs.Ytpkhgjdpgbkchaa.Point
