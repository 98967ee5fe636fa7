/- PointTells answers true, and changes nothing that was there. Conditions: the slice's cells are numbers. -/
import Derived.Test.YtpkhgjdpgbkchaaPointRefPts
import Derived.Test.YtpkhgjdpgbkchaaPointLaws
namespace Go.Proofs.Ytpkhgjdpgbkchaa.Point
open Go.RowKit Go.WideShapes

set_option maxHeartbeats 2000000 in
theorem tells_walk (s : ByteArray) (ao : Option Addr) (cap : Nat) (l : List Int) (x : Int) (w : World) (hs0 : s.size ≤ maxLen) (hr : Ints w (.slice ao l.length cap) l) :
    Calls Try.prog 4 #[.string s, .slice ao l.length cap, .int .i64 x] w fun e w' => e = .returned (.bool true) ∧ Below w.heap.size w w' := by
  unfold maxLen at hs0
  obtain ⟨n, hn⟩ : ∃ n, n = l.length := ⟨_, rfl⟩
  have hm : n ≤ 9223372036854775807 := by rw [hn]; exact Sees.max hr
  rw [← hn] at hr ⊢
  have HR := Lib.hid hr
  have HN := Lib.hid hn
  clear hr hn
  by_cases h1 : 5000 < s.size
  · have t1 : decide ((5000 : Int) < (s.size : Int)) = true := decide_eq_true (by omega)
    go_enter Try.func4, Try.ntmps4
    go_wp2
    go_ret
    exact ⟨rfl, Below.refl _ _⟩
  have t1 : decide ((5000 : Int) < (s.size : Int)) = false := decide_eq_false (by omega)
  by_cases h2 : 5000 < n
  · have t2 : decide ((5000 : Int) < (n : Int)) = true := decide_eq_true (by omega)
    have t3 : decide (5000 < n) = true := decide_eq_true h2
    go_enter Try.func4, Try.ntmps4
    go_wp2
    go_ret
    exact ⟨rfl, Below.refl _ _⟩
  have t2 : decide ((5000 : Int) < (n : Int)) = false := decide_eq_false (by omega)
  have t3 : decide (5000 < n) = false := decide_eq_false h2
  obtain ⟨⟨a, ca⟩, ha⟩ : ∃ d, pr s.data.toList = d := ⟨_, rfl⟩
  obtain ⟨m, hma⟩ : ∃ m, m = a.length := ⟨_, rfl⟩
  have K1 : Hid (∀ W : World, Calls Try.prog 9 #[.string s] W (fun e w' => ∃ ao cap, e = .returned (.tuple #[.slice ao m cap, .int .i64 ca]) ∧ Ints w' (.slice ao m cap) a ∧ Below W.heap.size W w')) := fun W => by
    refine (points_any s W (by omega)).mono ?_
    rintro e w' ⟨ao, cap, rfl, own, hb⟩
    rw [ha] at own ⊢
    rw [hma]
    exact ⟨ao, cap, rfl, Ints.own own, hb⟩
  have K2 : Hid (∀ W : World, Calls Try.prog 14 #[.string s] W (fun e w' => ∃ ao cap, e = .returned (.tuple #[.slice ao m cap, .int .i64 ca]) ∧ Ints w' (.slice ao m cap) a ∧ Below W.heap.size W w')) := fun W => by
    refine (refPoints_any s W (by omega)).mono ?_
    rintro e w' ⟨ao, cap, rfl, own, hb⟩
    rw [ha] at own ⊢
    rw [hma]
    exact ⟨ao, cap, rfl, Ints.own own, hb⟩
  obtain ⟨S, hS⟩ : ∃ S, S = str (tr l).1 := ⟨_, rfl⟩
  obtain ⟨cl, hcl⟩ : ∃ c, c = (tr l).2 := ⟨_, rfl⟩
  have K3 : Hid (∀ (W : World) (v : Value), Ints W v l → Calls Try.prog 8 #[v] W (fun e w' => e = .returned (.tuple #[.string S, .int .i64 cl]) ∧ Below W.heap.size W w')) := fun W v h => by rw [hS, hcl]; exact text_any h
  have K4 : Hid (∀ (W : World) (v : Value), Ints W v l → Calls Try.prog 15 #[v] W (fun e w' => e = .returned (.tuple #[.string S, .int .i64 cl]) ∧ Below W.heap.size W w')) := fun W v h => by rw [hS, hcl]; exact refText_any h
  obtain ⟨cx, hcx⟩ : ∃ c, c = ck x := ⟨_, rfl⟩
  have K5 : Hid (∀ (W : World), Calls Try.prog 12 #[.int .i64 x] W (fun e w' => e = .returned (.int .i64 cx) ∧ W = w')) := fun W => by rw [hcx]; exact check_any x W
  have K6 : Hid (∀ (W : World), Calls Try.prog 17 #[.int .i64 x] W (fun e w' => e = .returned (.int .i64 cx) ∧ W = w')) := fun W => by rw [hcx]; exact refCheck_any x W
  clear hS hcl hcx ha
  have HMA := Lib.hid hma
  have e1 : (ca == ca) = true := by simp
  have e2 : (cl == cl) = true := by simp
  have e3 : (cx == cx) = true := by simp
  have e4 : (S.toList == S.toList) = true := by simp
  have O0 := Lib.hid (own_none w w.heap.size (Nat.le_refl _) 3 1)
  have R0 : Hid (Sees (w.alloc (.cells #[] 3)) (.slice ao n cap) 1 n (is l)) := by
    have := HR.out.keeps ((Below.refl w.heap.size w).alloc (Nat.le_refl _) (.cells #[] 3))
    unfold Ints at this
    rw [← HN.out] at this
    exact this
  clear hma
  go_enter Try.func4, Try.ntmps4
  go_wp2_with (at_builtin; refine wpList_append_sees rfl (.tmp 24) (.tmp 25) 25 3 rfl Try.underlying25 int_info rfl (by decide) w.heap.size _ 0 _ rfl O0.out _ n _ rfl R0.out (is_oneCell l) ?k1 ?k2 ?k3 ?_)
  case k1 => omega
  case k2 => omega
  case k3 => simp
  rintro v1 w1 o1 g1 b1
  obtain ⟨ao1, cap1, rfl⟩ : ∃ ao cap, v1 = .slice ao n cap := by
    obtain ⟨ao, cap, h⟩ := Sees.shape (Sees.own o1)
    exact ⟨ao, cap, by simpa using h⟩
  have hb1 : Below w.heap.size w w1 := ((Below.refl w.heap.size w).alloc (Nat.le_refl _) (.cells #[] 3)).trans b1
  have OW1 : Hid (Ints w1 (.slice ao1 n cap1) l) := by
    have := Sees.own o1
    unfold Hid Ints
    rw [← HN.out]
    simpa using this
  have R1 := Lib.hid (HR.out.keeps hb1)
  clear o1 g1 b1 O0 R0 HR
  go_wp2_with fail
  refine (K1.out _).mono ?_
  rintro e w2 ⟨a2, c2, rfl, i2, b2⟩
  have hb2 := bt hb1 b2
  have OW2 := Lib.hid (OW1.out.keeps b2)
  have R2 := Lib.hid (R1.out.keeps b2)
  have I2 := Lib.hid i2
  clear hb1 b2 OW1 R1 i2
  go_wp2_with fail
  refine (K2.out _).mono ?_
  rintro e w3 ⟨a3, c3, rfl, i3, b3⟩
  have hb3 := bt hb2 b3
  have OW3 := Lib.hid (OW2.out.keeps b3)
  have R3 := Lib.hid (R2.out.keeps b3)
  have I3 := Lib.hid (I2.out.keeps b3)
  have J3 := Lib.hid i3
  clear hb2 b3 OW2 R2 i3 I2
  go_wp2_with fail
  refine (K3.out _ _ OW3.out).mono ?_
  rintro e w4 ⟨rfl, b4⟩
  have hb4 := bt hb3 b4
  have OW4 := Lib.hid (OW3.out.keeps b4)
  have R4 := Lib.hid (R3.out.keeps b4)
  have I4 := Lib.hid (I3.out.keeps b4)
  have J4 := Lib.hid (J3.out.keeps b4)
  clear hb3 b4 OW3 R3 I3 J3
  go_wp2_with fail
  refine (K4.out _ _ R4.out).mono ?_
  rintro e w5 ⟨rfl, b5⟩
  have hb5 := bt hb4 b5
  have OW5 := Lib.hid (OW4.out.keeps b5)
  have R5 := Lib.hid (R4.out.keeps b5)
  have I5 := Lib.hid (I4.out.keeps b5)
  have J5 := Lib.hid (J4.out.keeps b5)
  clear hb4 b5 OW4 R4 I4 J4
  go_wp2_with fail
  refine (same_yes I5.out J5.out).mono ?_
  rintro e w6 ⟨rfl, b6⟩
  have hb6 := bt hb5 b6
  have OW6 := Lib.hid (OW5.out.keeps b6)
  have R6 := Lib.hid (R5.out.keeps b6)
  clear hb5 b6 OW5 R5 I5 J5
  go_wp2_with fail
  refine (K5.out _).mono ?_
  rintro e w7 ⟨rfl, rfl⟩
  go_wp2_with fail
  refine (K6.out _).mono ?_
  rintro e w7 ⟨rfl, rfl⟩
  go_wp2_with fail
  refine (same_yes OW6.out R6.out).mono ?_
  rintro e w7 ⟨rfl, b7⟩
  have hb7 := bt hb6 b7
  go_wp2
  go_ret
  exact ⟨rfl, hb7⟩
end Go.Proofs.Ytpkhgjdpgbkchaa.Point
