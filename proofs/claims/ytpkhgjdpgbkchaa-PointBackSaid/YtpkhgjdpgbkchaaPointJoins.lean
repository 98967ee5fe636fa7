/- PointJoins answers true, and changes nothing that was there. Conditions: none. -/
import Derived.Test.YtpkhgjdpgbkchaaPointLaws
namespace Go.Proofs.Ytpkhgjdpgbkchaa.Point
open Go.RowKit Go.WideShapes

theorem pr_ok {s : List UInt8} {l : List Int} {c : Int} (h : pr s = (l, c)) : (c = 0 ∧ pts s = some l ∧ l.length ≤ 1024) ∨ (c = 4 ∧ l = [] ∧ ∃ m, pts s = some m ∧ 1024 < m.length) ∨ (c = 40 ∧ l = [] ∧ pts s = none) := by
  unfold pr at h
  cases hp : pts s with
  | none =>
    rw [hp] at h
    obtain ⟨rfl, rfl⟩ := Prod.mk.inj h
    exact .inr (.inr ⟨rfl, rfl, rfl⟩)
  | some m =>
    rw [hp] at h
    simp only at h
    split at h
    · rename_i hm
      obtain ⟨rfl, rfl⟩ := Prod.mk.inj h
      exact .inl ⟨rfl, rfl, hm⟩
    · rename_i hm
      obtain ⟨rfl, rfl⟩ := Prod.mk.inj h
      exact .inr (.inl ⟨rfl, rfl, m, rfl, by omega⟩)

set_option maxHeartbeats 2000000 in
theorem joins_walk (s t : ByteArray) (w : World) (hs0 : s.size ≤ maxLen) (ht0 : t.size ≤ maxLen) : Calls Try.prog 6 #[.string s, .string t] w fun e w' => e = .returned (.bool true) ∧ Below w.heap.size w w' := by
  unfold maxLen at hs0 ht0
  by_cases h1 : 2000 < s.size
  · have t1 : decide ((2000 : Int) < (s.size : Int)) = true := decide_eq_true (by omega)
    go_enter Try.func6, Try.ntmps6
    go_wp2_with fail
    refine (alive_any _).mono ?_
    rintro e w1 ⟨rfl, b1⟩
    go_wp2
    go_ret
    exact ⟨rfl, b1⟩
  have t1 : decide ((2000 : Int) < (s.size : Int)) = false := decide_eq_false (by omega)
  by_cases h2 : 2000 < t.size
  · have t2 : decide ((2000 : Int) < (t.size : Int)) = true := decide_eq_true (by omega)
    go_enter Try.func6, Try.ntmps6
    go_wp2_with fail
    refine (alive_any _).mono ?_
    rintro e w1 ⟨rfl, b1⟩
    go_wp2
    go_ret
    exact ⟨rfl, b1⟩
  have t2 : decide ((2000 : Int) < (t.size : Int)) = false := decide_eq_false (by omega)
  obtain ⟨⟨a, ca⟩, ha⟩ : ∃ d, pr s.data.toList = d := ⟨_, rfl⟩
  obtain ⟨⟨b, cb⟩, hb⟩ : ∃ d, pr t.data.toList = d := ⟨_, rfl⟩
  obtain ⟨⟨c, cc⟩, hc⟩ : ∃ d, pr (s ++ t).data.toList = d := ⟨_, rfl⟩
  have K1 := Lib.hid (points_is s (by omega) ha)
  have K2 := Lib.hid (points_is t (by omega) hb)
  have K3 := Lib.hid (points_is (s ++ t) (by rw [ByteArray.size_append]; omega) hc)
  have ea := pr_ok ha
  have eb := pr_ok hb
  have ec := pr_ok hc
  clear ha hb hc
  have key : (ca = 0 ∧ cb = 0 ∧ a.length ≤ 1024 ∧ b.length ≤ 1024 ∧ ((a.length + b.length ≤ 1024 ∧ cc = 0 ∧ c = a ++ b) ∨ (1024 < a.length + b.length ∧ cc = 4))) ∨ (ca ≠ 0 ∨ (ca = 0 ∧ cb ≠ 0)) := by
    rcases ea with ⟨rfl, ea, la⟩ | ⟨rfl, _, _⟩ | ⟨rfl, _, _⟩
    · rcases eb with ⟨rfl, eb, lb⟩ | ⟨rfl, _, _⟩ | ⟨rfl, _, _⟩
      · left
        obtain ⟨pa, fa⟩ := pts_some ea
        obtain ⟨pb, fb⟩ := pts_some eb
        have hpc : pts (s ++ t).data.toList = some (a ++ b) := by
          have : (s ++ t).data.toList = flat (a ++ b) := by
            rw [ByteArray.data_append, Array.toList_append, fa, fb, flat_append]
          rw [this]
          exact pts_flat (pts_append.2 ⟨pa, pb⟩)
        refine ⟨rfl, rfl, la, lb, ?_⟩
        rcases ec with ⟨rfl, ec, lc⟩ | ⟨rfl, _, m, ec, lm⟩ | ⟨rfl, _, ec⟩
        · rw [hpc] at ec
          have := Option.some.inj ec
          left
          rw [← this, List.length_append] at lc
          exact ⟨lc, rfl, this.symm⟩
        · rw [hpc] at ec
          have := Option.some.inj ec
          right
          rw [← this, List.length_append] at lm
          exact ⟨lm, rfl⟩
        · rw [hpc] at ec; cases ec
      · exact .inr (.inr ⟨rfl, by omega⟩)
      · exact .inr (.inr ⟨rfl, by omega⟩)
    · exact .inr (.inl (by omega))
    · exact .inr (.inl (by omega))
  clear ea eb ec
  rcases key with ⟨rfl, rfl, la, lb, ⟨h3, rfl, rfl⟩ | ⟨h3, rfl⟩⟩ | hno | ⟨rfl, hno⟩
  · have t4 : decide ((1024 : Int) < (a.length : Int) + (b.length : Int)) = false := decide_eq_false (by omega)
    have t5 : decide (1024 < a.length + b.length) = false := decide_eq_false (by omega)
    go_enter Try.func6, Try.ntmps6
    go_wp2_with fail
    refine (alive_any _).mono ?_
    rintro e w1 ⟨rfl, b1⟩
    go_wp2_with fail
    refine (K1.out _).mono ?_
    rintro e w2 ⟨a1, c1, rfl, own1, b2⟩
    have hb2 := bt b1 b2
    clear b1 b2
    go_wp2_with fail
    refine (K2.out _).mono ?_
    rintro e w3 ⟨a2, c2, rfl, own2, b3⟩
    have hb3 := bt hb2 b3
    have I1 := Lib.hid ((Ints.own own1).keeps b3)
    clear own1 hb2 b3
    go_wp2_with fail
    refine (K3.out _).mono ?_
    rintro e w4 ⟨a3, c3, rfl, own3, b4⟩
    have hb4 := bt hb3 b4
    have J1 := Lib.hid (I1.out.keeps b4)
    have J2 := Lib.hid ((Ints.own own2).keeps b4)
    have J3 : Hid (Ints w4 (.slice a3 (a.length + b.length) c3) (a ++ b)) := by
      have := Ints.own own3
      rw [List.length_append] at this
      exact this
    clear own2 own3 hb3 b4 I1
    have HE := hb4.alloc hb4.size (.cells #[] 3)
    have O0 := Lib.hid (own_none w4 w4.heap.size (Nat.le_refl _) 3 1)
    have JA1 := Lib.hid (J1.out.keeps ((Below.refl w4.heap.size w4).alloc (Nat.le_refl _) (.cells #[] 3)))
    go_wp2_with (at_builtin; refine wpList_append_sees rfl (.tmp 50) (.tmp 51) 25 3 rfl Try.underlying25 int_info rfl (by decide) w4.heap.size _ 0 _ rfl O0.out _ a.length _ rfl JA1.out (is_oneCell a) ?k1 ?k2 ?k3 ?_)
    case k1 => omega
    case k2 => omega
    case k3 => simp
    rintro v5 w5 o5 g5 b5
    obtain ⟨ao5, cap5, rfl⟩ : ∃ ao cap, v5 = .slice ao a.length cap := Sees.shape (Sees.own o5)
    have hb5 : Below w4.heap.size w4 w5 := ((Below.refl w4.heap.size w4).alloc (Nat.le_refl _) (.cells #[] 3)).trans b5
    have O5 := Lib.hid o5
    have JB2 := Lib.hid (J2.out.keeps hb5)
    have JC3 := Lib.hid (J3.out.keeps hb5)
    have hs5 := hb5.size
    clear o5 g5 b5 O0 JA1 HE
    go_wp2_with (at_builtin; refine wpList_append_sees rfl (.tmp 52) (.tmp 53) 25 3 rfl Try.underlying25 int_info rfl (by decide) w4.heap.size _ a.length _ rfl O5.out _ b.length _ rfl JB2.out (is_oneCell b) ?k1 ?k2 ?k3 ?_)
    case k1 => omega
    case k2 => omega
    case k3 => exact hs5
    rintro v6 w6 o6 g6 b6
    obtain ⟨ao6, cap6, rfl⟩ : ∃ ao cap, v6 = .slice ao (a.length + b.length) cap := Sees.shape (Sees.own o6)
    have hb6 : Below w4.heap.size w4 w6 := hb5.trans b6
    have hfin : Below w.heap.size w w6 := bt hb4 hb6
    have O6 : Hid (Ints w6 (.slice ao6 (a.length + b.length) cap6) (a ++ b)) := by
      have := Sees.own o6
      rw [← is_append] at this
      have e : a.length + b.length = (a ++ b).length := by simp
      rw [e] at this ⊢
      exact this
    have J6 := Lib.hid (J3.out.keeps hb6)
    clear o6 g6 b6 hb6 hb5 hb4
    go_wp2_with fail
    refine (same_yes J6.out O6.out).mono ?_
    rintro e w7 ⟨rfl, b7⟩
    have hfin2 := bt hfin b7
    go_wp2
    go_ret
    exact ⟨rfl, hfin2⟩
  · have t4 : decide ((1024 : Int) < (a.length : Int) + (b.length : Int)) = true := decide_eq_true (by omega)
    have t5 : decide (1024 < a.length + b.length) = true := decide_eq_true (by omega)
    go_enter Try.func6, Try.ntmps6
    go_wp2_with fail
    refine (alive_any _).mono ?_
    rintro e w1 ⟨rfl, b1⟩
    go_wp2_with fail
    refine (K1.out _).mono ?_
    rintro e w2 ⟨a1, c1, rfl, own1, b2⟩
    have hb2 := bt b1 b2
    clear b1 b2
    go_wp2_with fail
    refine (K2.out _).mono ?_
    rintro e w3 ⟨a2, c2, rfl, own2, b3⟩
    have hb3 := bt hb2 b3
    have I1 := Lib.hid ((Ints.own own1).keeps b3)
    clear own1 hb2 b3
    go_wp2_with fail
    refine (K3.out _).mono ?_
    rintro e w4 ⟨a3, c3, rfl, own3, b4⟩
    have hb4 := bt hb3 b4
    have J1 := Lib.hid (I1.out.keeps b4)
    have J2 := Lib.hid ((Ints.own own2).keeps b4)
    have J3 := Lib.hid (Ints.own own3)
    clear own2 own3 hb3 b4 I1
    have HE := hb4.alloc hb4.size (.cells #[] 3)
    have O0 := Lib.hid (own_none w4 w4.heap.size (Nat.le_refl _) 3 1)
    have JA1 := Lib.hid (J1.out.keeps ((Below.refl w4.heap.size w4).alloc (Nat.le_refl _) (.cells #[] 3)))
    go_wp2_with (at_builtin; refine wpList_append_sees rfl (.tmp 50) (.tmp 51) 25 3 rfl Try.underlying25 int_info rfl (by decide) w4.heap.size _ 0 _ rfl O0.out _ a.length _ rfl JA1.out (is_oneCell a) ?k1 ?k2 ?k3 ?_)
    case k1 => omega
    case k2 => omega
    case k3 => simp
    rintro v5 w5 o5 g5 b5
    obtain ⟨ao5, cap5, rfl⟩ : ∃ ao cap, v5 = .slice ao a.length cap := Sees.shape (Sees.own o5)
    have hb5 : Below w4.heap.size w4 w5 := ((Below.refl w4.heap.size w4).alloc (Nat.le_refl _) (.cells #[] 3)).trans b5
    have O5 := Lib.hid o5
    have JB2 := Lib.hid (J2.out.keeps hb5)
    have JC3 := Lib.hid (J3.out.keeps hb5)
    have hs5 := hb5.size
    clear o5 g5 b5 O0 JA1 HE
    go_wp2_with (at_builtin; refine wpList_append_sees rfl (.tmp 52) (.tmp 53) 25 3 rfl Try.underlying25 int_info rfl (by decide) w4.heap.size _ a.length _ rfl O5.out _ b.length _ rfl JB2.out (is_oneCell b) ?k1 ?k2 ?k3 ?_)
    case k1 => omega
    case k2 => omega
    case k3 => exact hs5
    rintro v6 w6 o6 g6 b6
    obtain ⟨ao6, cap6, rfl⟩ : ∃ ao cap, v6 = .slice ao (a.length + b.length) cap := Sees.shape (Sees.own o6)
    have hb6 : Below w4.heap.size w4 w6 := hb5.trans b6
    have hfin : Below w.heap.size w w6 := bt hb4 hb6
    clear o6 g6 b6 hb6 hb5 hb4
    go_wp2
    go_ret
    exact ⟨rfl, hfin⟩
  · have t3 : (ca != 0) = true := by rw [bne_iff_ne]; exact hno
    go_enter Try.func6, Try.ntmps6
    go_wp2_with fail
    refine (alive_any _).mono ?_
    rintro e w1 ⟨rfl, b1⟩
    go_wp2_with fail
    refine (K1.out _).mono ?_
    rintro e w2 ⟨a1, c1, rfl, own1, b2⟩
    have hb2 := bt b1 b2
    clear own1 b1 b2
    go_wp2_with fail
    refine (K2.out _).mono ?_
    rintro e w3 ⟨a2, c2, rfl, own2, b3⟩
    have hb3 := bt hb2 b3
    clear own2 hb2 b3
    go_wp2_with fail
    refine (K3.out _).mono ?_
    rintro e w4 ⟨a3, c3, rfl, own3, b4⟩
    have hb4 := bt hb3 b4
    clear own3 hb3 b4
    go_wp2
    go_ret
    exact ⟨rfl, hb4⟩
  · have t3 : (cb != 0) = true := by rw [bne_iff_ne]; exact hno
    go_enter Try.func6, Try.ntmps6
    go_wp2_with fail
    refine (alive_any _).mono ?_
    rintro e w1 ⟨rfl, b1⟩
    go_wp2_with fail
    refine (K1.out _).mono ?_
    rintro e w2 ⟨a1, c1, rfl, own1, b2⟩
    have hb2 := bt b1 b2
    clear own1 b1 b2
    go_wp2_with fail
    refine (K2.out _).mono ?_
    rintro e w3 ⟨a2, c2, rfl, own2, b3⟩
    have hb3 := bt hb2 b3
    clear own2 hb2 b3
    go_wp2_with fail
    refine (K3.out _).mono ?_
    rintro e w4 ⟨a3, c3, rfl, own3, b4⟩
    have hb4 := bt hb3 b4
    clear own3 hb3 b4
    go_wp2
    go_ret
    exact ⟨rfl, hb4⟩
end Go.Proofs.Ytpkhgjdpgbkchaa.Point
