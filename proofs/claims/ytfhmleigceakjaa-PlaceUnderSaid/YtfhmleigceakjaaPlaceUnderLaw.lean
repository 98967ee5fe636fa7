/- The law PlaceUnder: its walk. Conditions: the slice's cells are runs. -/
import Derived.Test.YtfhmleigceakjaaPlaceLaws
namespace Go.Proofs.Ytfhmleigceakjaa.Place
open Go.RowKit Stamp
attribute [local go_sem ↓] Go.wp_at_zero Go.wp_at_succ

set_option maxRecDepth 100000 in
set_option maxHeartbeats 8000000 in
theorem under_walk (ao0 : Option Addr) (cap0 : Nat) (l0 : List Run) (a : Id) (w : World) (hr0 : Runs w (.slice ao0 l0.length cap0) l0) :
    Calls Try.prog 5 #[.slice ao0 l0.length cap0, .agg #[.int .u32 (a.t : Int), .int .u8 (a.r : Int)]] w fun e w' => e = .returned (.bool true) ∧ Below w.heap.size w w' := by
  obtain ⟨n0, hn0⟩ : ∃ n, n = l0.length := ⟨_, rfl⟩
  rw [← hn0] at hr0
  rw [← hn0]
  obtain ⟨L, c, hund⟩ : ∃ L c, und l0 a = (L, c) := ⟨_, _, rfl⟩
  have U0 := Lib.hid (fun (W : World) (v : Value) (h : Runs W v l0) => pUnder_any (a := a) h)
  have R0 := Lib.hid (fun (W : World) (v : Value) (h : Runs W v l0) => refUnder_any (a := a) h)
  rw [hund] at U0 R0
  simp only at U0 R0
  obtain ⟨t, r, ht, hr⟩ := a
  simp only at U0 R0 ⊢
  have H0 := Lib.hid hr0
  have N0 := Lib.hid hn0
  obtain ⟨I, hI⟩ : ∃ I, idsOf l0 = I := ⟨_, rfl⟩
  obtain ⟨ic, hic⟩ : ∃ ic, idsE l0 = ic := ⟨_, rfl⟩
  obtain ⟨z1, hz1⟩ : ∃ z, (lastV l0).1 = z := ⟨_, rfl⟩
  obtain ⟨z2, hz2⟩ : ∃ z, (lastV l0).2 = z := ⟨_, rfl⟩
  have I1 := Lib.hid (fun (W : World) (v : Value) (h : Runs W v l0) => pIds_any h)
  have I2 := Lib.hid (fun (W : World) (v : Value) (h : Runs W v l0) => refIds_any h)
  have L1 := Lib.hid (fun (W : World) (v : Value) (h : Runs W v l0) => pLast_any h)
  have L2 := Lib.hid (fun (W : World) (v : Value) (h : Runs W v l0) => refLast_any h)
  rw [hI, hic] at I1 I2
  rw [hz1, hz2] at L1 L2
  clear hund hr0 hn0 hI hic hz1 hz2
  by_cases g0 : 300 < n0
  · have t0 : decide ((300 : Int) < (n0 : Int)) = true := decide_eq_true (by omega)
    have u0 : decide (300 < n0) = true := decide_eq_true g0
    go_enter Try.func5, Try.ntmps5
    go_wp2
    go_ret
    exact ⟨rfl, (Below.refl _ _).alloc (Nat.le_refl _) _⟩
  have t0 : decide ((300 : Int) < (n0 : Int)) = false := decide_eq_false (by omega)
  have u0 : decide (300 < n0) = false := decide_eq_false g0
  have BX := Lib.hid ((Below.refl w.heap.size w).alloc (Nat.le_refl _) (.cells #[.int .u32 (t : Int), .int .u8 (r : Int)] 32))
  have HP := Lib.hid (H0.out.keeps BX.out)
  have TW0 := Lib.hid (twin_any HP.out (by have := N0.out; omega))
  go_enter Try.func5, Try.ntmps5
  go_wp2_with fail
  refine TW0.out.mono ?_
  rintro e w1 ⟨vx, rfl, ox, b1⟩
  have HX1 := Lib.hid (Runs.own ox)
  have HP1 := Lib.hid (HP.out.keeps b1)
  have PB1 := Lib.hid ((pair_new w (.int .u32 (t : Int)) (.int .u8 (r : Int)) 32).keeps b1)
  have B1 := Lib.hid (bt BX.out b1)
  clear ox b1
  obtain ⟨_, x0, x1⟩ := PB1.out
  go_wp2_with fail
  refine (U0.out _ _ HX1.out).mono ?_
  rintro e w2 ⟨aoA, capA, rfl, oa, b2⟩
  have OA2 := Lib.hid oa
  have BB2 := Lib.hid b2
  clear oa b2 x0 x1
  obtain ⟨_, x0, x1⟩ := PB1.out.keeps BB2.out
  go_wp2_with fail
  refine (R0.out _ _ (HP1.out.keeps BB2.out)).mono ?_
  rintro e w3 ⟨aoB, capB, rfl, rb, b3⟩
  have RB3 := Lib.hid rb
  have OA3 := Lib.hid (own_stays OA2.out b3)
  have BB3 := Lib.hid (bt BB2.out b3)
  clear rb b3 x0 x1
  go_wp2_with fail
  refine (I1.out _ _ (HX1.out.keeps BB3.out)).mono ?_
  rintro e w4 ⟨aoL, capL, rfl, il, b4⟩
  have IL4 := Lib.hid il
  have RB4 := Lib.hid (RB3.out.keeps b4)
  have OA4 := Lib.hid (own_stays OA3.out b4)
  have BB4 := Lib.hid (bt BB3.out b4)
  clear il b4
  go_wp2_with fail
  refine (I2.out _ _ (HP1.out.keeps BB4.out)).mono ?_
  rintro e w5 ⟨aoM, capM, rfl, im, b5⟩
  have IM5 := Lib.hid im
  have IL5 := Lib.hid (IL4.out.keeps b5)
  have RB5 := Lib.hid (RB4.out.keeps b5)
  have OA5 := Lib.hid (own_stays OA4.out b5)
  have BB5 := Lib.hid (bt BB4.out b5)
  clear im b5
  go_wp2_with fail
  refine (same_yes (Runs.own OA5.out) RB5.out).mono ?_
  rintro e w6 ⟨rfl, b6⟩
  have IM6 := Lib.hid (IM5.out.keeps b6)
  have IL6 := Lib.hid (IL5.out.keeps b6)
  have OA6 := Lib.hid (own_stays OA5.out b6)
  have BB6 := Lib.hid (bt BB5.out b6)
  clear b6
  go_wp2_with fail
  refine (L1.out _ _ (HX1.out.keeps BB6.out)).mono ?_
  rintro e w7 ⟨rfl, b7⟩
  have IM7 := Lib.hid (IM6.out.keeps b7)
  have IL7 := Lib.hid (IL6.out.keeps b7)
  have OA7 := Lib.hid (own_stays OA6.out b7)
  have BB7 := Lib.hid (bt BB6.out b7)
  clear b7
  go_wp2_with fail
  refine (L2.out _ _ (HP1.out.keeps BB7.out)).mono ?_
  rintro e w8 ⟨rfl, b8⟩
  have IM8 := Lib.hid (IM7.out.keeps b8)
  have IL8 := Lib.hid (IL7.out.keeps b8)
  have OA8 := Lib.hid (own_stays OA7.out b8)
  have BB8 := Lib.hid (bt BB7.out b8)
  clear b8
  go_wp2_with fail
  refine (sameIds_yes IL8.out IM8.out).mono ?_
  rintro e w9 ⟨rfl, b9⟩
  have OA9 := Lib.hid (own_stays OA8.out b9)
  have BB9 := Lib.hid (bt BB8.out b9)
  clear b9
  have OTL : Hid (∃ cs, w9.ownsRow w1.heap.size 29 3 (.slice aoA L.length capA) L.length cs) := ⟨_, OA9.out⟩
  obtain ⟨n, hn⟩ : ∃ n, n = L.length := ⟨_, rfl⟩
  rw [← hn] at OTL ⊢
  have hn64 : n ≤ 9223372036854775807 := by rw [hn]; exact Sees.max (Sees.own OA9.out)
  clear U0 R0 I1 I2 L1 L2 OA2 OA3 OA4 OA5 OA6 OA7 OA8 OA9 RB3 RB4 RB5 IL4 IL5 IL6 IL7 IL8 IM5 IM6 IM7 IM8 BB2 BB3 BB4 BB5 BB6 BB7 BB8 TW0 HP hn
  go_wp2
  go_loopw [15] (fun i wr => ∃ k : Nat, k ≤ n ∧ i = .int .i64 (k : Int) ∧ Hid (∃ cs, wr.ownsRow w1.heap.size 29 3 (.slice aoA n capA) n cs) ∧ Hid (Below w1.heap.size w1 wr)) (fun i _ => n - (intOf i).toNat)
  case atStart => exact ⟨0, by omega, rfl, OTL, BB9⟩
  case round =>
    obtain ⟨k, hk, rfl, ⟨cs, ow⟩, hbel⟩ := hrel
    by_cases hkn : k < n
    · have q1 : decide (k < n) = true := by simpa using hkn
      obtain ⟨g, rfl⟩ : ∃ g, aoA = some ⟨g, 0, none⟩ := by
        rcases ow.2 with ⟨h, _⟩ | ⟨g, c, cur, h, _⟩
        · cases h; omega
        · cases h; exact ⟨g, rfl⟩
      have hg : w1.heap.size ≤ g := by
        rcases ow.2 with ⟨h, _⟩ | ⟨g', c, cur, h, h2, _⟩
        · cases h
        · cases h; exact h2
      have hcs : k * 3 + 2 < cs.length := by have := ow.1; omega
      obtain ⟨u, hu⟩ : ∃ u, cs[k * 3 + 2]? = some u := ⟨_, List.getElem?_eq_getElem hcs⟩
      have xm : wr.cell? ⟨g, k * 3 + 2, none⟩ = some u := by rw [ow.cellAt (k * 3 + 2) (by omega), hu]
      have xf : wr.frozen? ⟨g, k * 3 + 2, none⟩ = false := ow.frozenAt _
      have OW2 : Hid (∃ cs, (wr.setCell ⟨g, k * 3 + 2, none⟩ (.int .i64 (-7))).ownsRow w1.heap.size 29 3 (.slice (some ⟨g, 0, none⟩) n capA) n cs) := ⟨_, (ow.stored (k * 3 + 2) (.int .i64 (-7))).1⟩
      have BW2 : Hid (Below w1.heap.size w1 (wr.setCell ⟨g, k * 3 + 2, none⟩ (.int .i64 (-7)))) := hbel.out.setCell (p := ⟨g, k * 3 + 2, none⟩) hg _
      have w0 : (0 : Int) ≤ (k : Int) := by omega
      have w1' : (k : Int) < (n : Int) := by omega
      clear hu hcs ow
      go_wp2
      go_roundw
      case rel => exact ⟨k + 1, by omega, by go_num, OW2, BW2⟩
      case measure => simp [intOf]; omega
    · have q1 : decide (k < n) = false := by simpa using hkn
      clear ow
      go_wp2_with fail
      refine (same_yes (HX1.out.keeps hbel.out) (HP1.out.keeps hbel.out)).mono ?_
      rintro e w14 ⟨rfl, b14⟩
      have B14 := Lib.hid (bt hbel.out b14)
      clear b14
      go_wp2
      go_ret
      exact ⟨rfl, bt B1.out B14.out⟩
end Go.Proofs.Ytfhmleigceakjaa.Place
