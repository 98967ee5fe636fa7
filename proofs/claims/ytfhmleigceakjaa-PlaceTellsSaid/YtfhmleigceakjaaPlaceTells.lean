/- The law PlaceTells: its walk. Conditions: the slices' cells are runs. -/
import Derived.Test.YtfhmleigceakjaaPlaceLaws
namespace Go.Proofs.Ytfhmleigceakjaa.Place
open Go.RowKit Stamp
attribute [local go_sem ↓] Go.wp_at_zero Go.wp_at_succ

set_option maxRecDepth 100000 in
set_option maxHeartbeats 8000000 in
theorem tells_walk (ao0 : Option Addr) (cap0 : Nat) (l0 : List Run) (ao1 : Option Addr) (cap1 : Nat) (l1 : List Run) (w : World)
    (hr0 : Runs w (.slice ao0 l0.length cap0) l0) (hr1 : Runs w (.slice ao1 l1.length cap1) l1) :
    Calls Try.prog 4 #[.slice ao0 l0.length cap0, .slice ao1 l1.length cap1] w fun e w' => e = .returned (.bool true) ∧ Below w.heap.size w w' := by
  obtain ⟨n0, hn0⟩ : ∃ n, n = l0.length := ⟨_, rfl⟩
  obtain ⟨n1, hn1⟩ : ∃ n, n = l1.length := ⟨_, rfl⟩
  rw [← hn0] at hr0
  rw [← hn1] at hr1
  rw [← hn0, ← hn1]
  have H0 := Lib.hid hr0
  have H1 := Lib.hid hr1
  have N0 := Lib.hid hn0
  have N1 := Lib.hid hn1
  clear hr0 hr1 hn0 hn1
  by_cases g0 : 300 < n0
  · have t0 : decide ((300 : Int) < (n0 : Int)) = true := decide_eq_true (by omega)
    have u0 : decide (300 < n0) = true := decide_eq_true g0
    go_enter Try.func4, Try.ntmps4
    go_wp2
    go_ret
    exact ⟨rfl, Below.refl _ _⟩
  have t0 : decide ((300 : Int) < (n0 : Int)) = false := decide_eq_false (by omega)
  have u0 : decide (300 < n0) = false := decide_eq_false g0
  by_cases g1 : 300 < n1
  · have t1 : decide ((300 : Int) < (n1 : Int)) = true := decide_eq_true (by omega)
    have u1 : decide (300 < n1) = true := decide_eq_true g1
    go_enter Try.func4, Try.ntmps4
    go_wp2
    go_ret
    exact ⟨rfl, Below.refl _ _⟩
  have t1 : decide ((300 : Int) < (n1 : Int)) = false := decide_eq_false (by omega)
  have u1 : decide (300 < n1) = false := decide_eq_false g1
  have TW0 := Lib.hid (twin_any H0.out (by have := N0.out; omega))
  have TW1 : Hid (∀ W : World, Below w.heap.size w W → Calls Try.prog 18 #[.slice ao1 n1 cap1] W fun e w' => ∃ v', e = .returned v' ∧ w'.ownsRow W.heap.size 29 3 v' l1.length (runs l1) ∧ Below W.heap.size W w') := fun W hW => twin_any (H1.out.keeps hW) (by have := N1.out; omega)
  go_enter Try.func4, Try.ntmps4
  go_wp2_with fail
  refine TW0.out.mono ?_
  rintro e w1 ⟨vx, rfl, ox, b1⟩
  have HX1 := Lib.hid (Runs.own ox)
  have B1 := Lib.hid b1
  clear ox b1
  go_wp2_with fail
  refine (TW1.out _ B1.out).mono ?_
  rintro e w2 ⟨vy, rfl, oy, b2⟩
  have HX2 := Lib.hid (HX1.out.keeps b2)
  have HY2 := Lib.hid (Runs.own oy)
  have B2 := Lib.hid (bt B1.out b2)
  clear oy b2
  have HA2 := Lib.hid (H0.out.keeps B2.out)
  have HB2 := Lib.hid (H1.out.keeps B2.out)
  go_wp2_with fail
  refine (ptwin_any HX2.out (by have := N0.out; omega)).mono ?_
  rintro e w3 ⟨vt, rfl, ot, b3⟩
  obtain ⟨aoT, capT, rfl⟩ := Sees.shape (Sees.own ot)
  have OT3 := Lib.hid ot
  rw [← N0.out] at OT3 ⊢
  have Bw3 := Lib.hid b3
  clear ot b3
  obtain ⟨c, hc⟩ : ∃ c, c = chk l0 := ⟨_, rfl⟩
  obtain ⟨m, hm⟩ : ∃ m, m = cmp l0 l1 := ⟨_, rfl⟩
  obtain ⟨bg, hbg⟩ : ∃ bg, bg = beg l0 l1 := ⟨_, rfl⟩
  obtain ⟨sm, hsm⟩ : ∃ sm, sm = decide (l0 = l1) := ⟨_, rfl⟩
  have K1 : Hid (∀ W : World, Below w2.heap.size w2 W → Calls Try.prog 14 #[vx] W fun e w' => e = .returned (.int .i64 c) ∧ Below W.heap.size W w') := fun W hW => check_is (HX2.out.keeps hW) hc.symm
  have K2 : Hid (∀ W : World, Below w2.heap.size w2 W → Calls Try.prog 20 #[.slice ao0 n0 cap0] W fun e w' => e = .returned (.int .i64 c) ∧ Below W.heap.size W w') := fun W hW => by rw [hc]; exact refCheck_any (HA2.out.keeps hW)
  have K3 : Hid (∀ W : World, Below w2.heap.size w2 W → Calls Try.prog 13 #[vx, vy] W fun e w' => e = .returned (.int .i64 m) ∧ Below W.heap.size W w') := fun W hW => by rw [hm]; exact pCompare_any (HX2.out.keeps hW) (HY2.out.keeps hW)
  have K4 : Hid (∀ W : World, Below w2.heap.size w2 W → Calls Try.prog 21 #[.slice ao0 n0 cap0, .slice ao1 n1 cap1] W fun e w' => e = .returned (.int .i64 m) ∧ Below W.heap.size W w') := fun W hW => by rw [hm]; exact refCompare_any (HA2.out.keeps hW) (HB2.out.keeps hW)
  have K5 : Hid (∀ W : World, Below w2.heap.size w2 W → Calls Try.prog 16 #[vx, vy] W fun e w' => e = .returned (.bool bg) ∧ Below W.heap.size W w') := fun W hW => by rw [hbg]; exact pBegins_any (HX2.out.keeps hW) (HY2.out.keeps hW)
  have K6 : Hid (∀ W : World, Below w2.heap.size w2 W → Calls Try.prog 22 #[.slice ao0 n0 cap0, .slice ao1 n1 cap1] W fun e w' => e = .returned (.bool bg) ∧ Below W.heap.size W w') := fun W hW => by rw [hbg]; exact refBegins_any (HA2.out.keeps hW) (HB2.out.keeps hW)
  have K7 : Hid (∀ W : World, Below w2.heap.size w2 W → Calls Try.prog 23 #[vx, vy] W fun e w' => e = .returned (.bool sm) ∧ Below W.heap.size W w') := fun W hW => by rw [hsm]; exact psame_any (HX2.out.keeps hW) (HY2.out.keeps hW)
  have K8 : Hid (∀ W : World, Below w2.heap.size w2 W → Calls Try.prog 12 #[.slice ao0 n0 cap0, .slice ao1 n1 cap1] W fun e w' => e = .returned (.bool sm) ∧ Below W.heap.size W w') := fun W hW => by rw [hsm]; exact refSame_any (HA2.out.keeps hW) (HB2.out.keeps hW)
  have K9 : Hid (∀ W : World, Below w2.heap.size w2 W → Calls Try.prog 23 #[vx, .slice ao0 n0 cap0] W fun e w' => e = .returned (.bool true) ∧ Below W.heap.size W w') := fun W hW => by
    have := psame_any (HX2.out.keeps hW) (HA2.out.keeps hW)
    rwa [decide_eq_true rfl] at this
  have KA : Hid (∀ W : World, Below w3.heap.size w3 W → Calls Try.prog 12 #[.slice aoT n0 capT, .slice ao0 n0 cap0] W fun e w' => e = .returned (.bool true) ∧ Below W.heap.size W w') := fun W hW => same_yes ((Runs.own OT3.out).keeps hW) (HA2.out.keeps (bt Bw3.out hW))
  have KB : Hid (∀ W : World, Below w2.heap.size w2 W → Calls Try.prog 12 #[vx, .slice ao0 n0 cap0] W fun e w' => e = .returned (.bool true) ∧ Below W.heap.size W w') := fun W hW => same_yes (HX2.out.keeps hW) (HA2.out.keeps hW)
  have KC : Hid (∀ W : World, Below w2.heap.size w2 W → Calls Try.prog 12 #[vy, .slice ao1 n1 cap1] W fun e w' => e = .returned (.bool true) ∧ Below W.heap.size W w') := fun W hW => same_yes (HY2.out.keeps hW) (HB2.out.keeps hW)
  clear hc hm hbg hsm TW0 TW1 HX1 H0 H1
  go_wp2_with fail
  refine (K1.out _ Bw3.out).mono ?_
  rintro e w4 ⟨rfl, bw4⟩
  have BT := Lib.hid bw4
  have Bw4 := Lib.hid (bt Bw3.out bw4)
  clear bw4
  go_wp2_with fail
  refine (K2.out _ Bw4.out).mono ?_
  rintro e w5 ⟨rfl, bw5⟩
  have BT := Lib.hid (bt BT.out bw5)
  have Bw5 := Lib.hid (bt Bw4.out bw5)
  clear bw5
  go_wp2_with fail
  refine (K3.out _ Bw5.out).mono ?_
  rintro e w6 ⟨rfl, bw6⟩
  have BT := Lib.hid (bt BT.out bw6)
  have Bw6 := Lib.hid (bt Bw5.out bw6)
  clear bw6
  go_wp2_with fail
  refine (K4.out _ Bw6.out).mono ?_
  rintro e w7 ⟨rfl, bw7⟩
  have BT := Lib.hid (bt BT.out bw7)
  have Bw7 := Lib.hid (bt Bw6.out bw7)
  clear bw7
  go_wp2_with fail
  refine (K5.out _ Bw7.out).mono ?_
  rintro e w8 ⟨rfl, bw8⟩
  have BT := Lib.hid (bt BT.out bw8)
  have Bw8 := Lib.hid (bt Bw7.out bw8)
  clear bw8
  go_wp2_with fail
  refine (K6.out _ Bw8.out).mono ?_
  rintro e w9 ⟨rfl, bw9⟩
  have BT := Lib.hid (bt BT.out bw9)
  have Bw9 := Lib.hid (bt Bw8.out bw9)
  clear bw9
  go_wp2_with fail
  refine (K7.out _ Bw9.out).mono ?_
  rintro e w10 ⟨rfl, bw10⟩
  have BT := Lib.hid (bt BT.out bw10)
  have Bw10 := Lib.hid (bt Bw9.out bw10)
  clear bw10
  go_wp2_with fail
  refine (K8.out _ Bw10.out).mono ?_
  rintro e w11 ⟨rfl, bw11⟩
  have BT := Lib.hid (bt BT.out bw11)
  have Bw11 := Lib.hid (bt Bw10.out bw11)
  clear bw11
  go_wp2_with fail
  refine (K9.out _ Bw11.out).mono ?_
  rintro e w12 ⟨rfl, bw12⟩
  have BT := Lib.hid (bt BT.out bw12)
  have Bw12 := Lib.hid (bt Bw11.out bw12)
  clear bw12
  go_wp2_with fail
  refine (KA.out _ ?hka).mono ?_
  case hka => exact BT.out
  rintro e w13 ⟨rfl, b13⟩
  have Bw13 := Lib.hid (bt Bw12.out b13)
  have OT13 := Lib.hid (own_stays (own_stays OT3.out BT.out) b13)
  clear b13
  have OTL : Hid (∃ cs, w13.ownsRow w2.heap.size 29 3 (.slice aoT n0 capT) n0 cs) := ⟨_, OT13.out⟩
  go_wp2
  go_loopw [9] (fun i wr => ∃ k : Nat, k ≤ n0 ∧ i = .int .i64 (k : Int) ∧ Hid (∃ cs, wr.ownsRow w2.heap.size 29 3 (.slice aoT n0 capT) n0 cs) ∧ Hid (Below w2.heap.size w2 wr)) (fun i _ => n0 - (intOf i).toNat)
  case atStart => exact ⟨0, by omega, rfl, OTL, Bw13⟩
  case round =>
    obtain ⟨k, hk, rfl, ⟨cs, ow⟩, hbel⟩ := hrel
    by_cases hkn : k < n0
    · have q1 : decide (k < n0) = true := by simpa using hkn
      obtain ⟨g, rfl⟩ : ∃ g, aoT = some ⟨g, 0, none⟩ := by
        rcases ow.2 with ⟨h, _⟩ | ⟨g, c, cur, h, _⟩
        · cases h; omega
        · cases h; exact ⟨g, rfl⟩
      have hg : w2.heap.size ≤ g := by
        rcases ow.2 with ⟨h, _⟩ | ⟨g', c, cur, h, h2, _⟩
        · cases h
        · cases h; exact h2
      have hcs : k * 3 + 2 < cs.length := by have := ow.1; omega
      obtain ⟨u, hu⟩ : ∃ u, cs[k * 3 + 2]? = some u := ⟨_, List.getElem?_eq_getElem hcs⟩
      have xm : wr.cell? ⟨g, k * 3 + 2, none⟩ = some u := by rw [ow.cellAt (k * 3 + 2) (by omega), hu]
      have xf : wr.frozen? ⟨g, k * 3 + 2, none⟩ = false := ow.frozenAt _
      have OW2 : Hid (∃ cs, (wr.setCell ⟨g, k * 3 + 2, none⟩ (.int .i64 (-7))).ownsRow w2.heap.size 29 3 (.slice (some ⟨g, 0, none⟩) n0 capT) n0 cs) := ⟨_, (ow.stored (k * 3 + 2) (.int .i64 (-7))).1⟩
      have BW2 : Hid (Below w2.heap.size w2 (wr.setCell ⟨g, k * 3 + 2, none⟩ (.int .i64 (-7)))) := hbel.out.setCell (p := ⟨g, k * 3 + 2, none⟩) hg _
      have w0 : (0 : Int) ≤ (k : Int) := by omega
      have w1' : (k : Int) < (n0 : Int) := by omega
      clear hu hcs ow
      go_wp2
      go_roundw
      case rel => exact ⟨k + 1, by omega, by go_num, OW2, BW2⟩
      case measure => simp [intOf]; omega
    · have q1 : decide (k < n0) = false := by simpa using hkn
      clear ow
      go_wp2_with fail
      refine (KB.out _ hbel.out).mono ?_
      rintro e w14 ⟨rfl, b14⟩
      have B14 := Lib.hid (bt hbel.out b14)
      clear b14
      go_wp2_with fail
      refine (KC.out _ B14.out).mono ?_
      rintro e w15 ⟨rfl, b15⟩
      have B15 := Lib.hid (bt B14.out b15)
      clear b15
      go_wp2
      go_ret
      exact ⟨rfl, bt B2.out B15.out⟩
end Go.Proofs.Ytfhmleigceakjaa.Place
