/- octavoref08: May, Check, Spans, In, Has, Many, Count, Top: what each answers. Conditions: the slices' cells are replicas' spans. -/
import Derived.Test.YtinglfhndlklaaaClockMath3
import Derived.Test.YtinglfhndlklaaaTimes
import Derived.Test.YtinglfhndlklaaaSpanMay
namespace Go.Proofs.Ytinglfhndlklaaa.Clocks
open Go.RowKit Go.Proofs.Ytinglfhndlklaaa.Spans
attribute [local go_sem ↓] Go.wp_at_zero Go.wp_at_succ

theorem drawn_below {w w' : World} (h : ∃ m, w' = w.drewN m) : Below w.heap.size w w' := by
  obtain ⟨m, rfl⟩ := h
  exact below_draw (Below.refl _ _) m
theorem Tms.drawn {w : World} {v : Value} {c : List Tm} (h : Tms w v c) (n : Nat) : Tms (w.drewN n) v c := h.keeps (below_draw (Below.refl _ _) n)

set_option maxRecDepth 100000 in
set_option maxHeartbeats 2000000 in
theorem refMayC_drawn {v : Value} {c : List Tm} {w : World} (hv : Tms w v c) :
    Calls Try.prog 48 #[v] w fun e w' => e = .returned (.bool (mayC c)) ∧ ∃ m, w' = w.drewN m := by
  obtain ⟨ao, cap, rfl⟩ := hv.shape
  obtain ⟨n, hn⟩ : ∃ n, n = c.length := ⟨_, rfl⟩
  have hm : n ≤ 9223372036854775807 := by rw [hn]; exact Tms.max hv
  have HV := Lib.hid hv
  have HN := Lib.hid hn
  obtain ⟨R, hR⟩ : ∃ R, R = mayC c := ⟨_, rfl⟩
  have HNo : Hid (¬ Cok c → R = false) := fun h => by rw [hR]; exact mayC_no h
  have HYes : Hid (Cok c → R = true) := fun h => by rw [hR]; exact (mayC_iff c).2 h
  rw [← hn, ← hR]
  clear hv hn hR
  go_enter Try.func48, Try.ntmps48
  go_wp2
  go_loopw [3] (fun i wr => ∃ k : Nat, k ≤ n ∧ i = .int .i64 (k : Int) ∧ Hid (Up 0 (c.take k)) ∧ ∃ q, wr = w.drewN q) (fun i _ => n - (intOf i).toNat)
  case atStart => exact ⟨0, by omega, rfl, Lib.hid trivial, 0, rfl⟩
  case round =>
    obtain ⟨k, hk, rfl, hch, q, rfl⟩ := hrel
    by_cases hkn : k < n
    · have q1 : decide (k < n) = true := by simpa using hkn
      have q2 : (0 : Int) ≤ (k : Int) := by omega
      have q3 : (k : Int) < (n : Int) := by omega
      have hkl : k < c.length := by rw [← HN.out]; exact hkn
      obtain ⟨b1, o1, u, rfl, hb1, ha0, ha1, hr256, hsp⟩ := HV.out.at k hkl
      obtain ⟨x, hx⟩ : ∃ x, x = c.getD k ztm := ⟨_, rfl⟩
      have hx' : c.getD k (0, []) = x := hx.symm
      rw [hx'] at ha0 hr256 hsp
      have hno : ¬ (x.1 < 8 ∧ x.2 ≠ [] ∧ mayB x.2 = true) → R = false := fun h => HNo.out (fun hc => h (by
        have := up_all hc (c.getD k ztm) (tm_mem hkl)
        rw [← hx] at this
        exact this.2))
      have hyes : x.1 < 8 → x.2 ≠ [] → mayB x.2 = true → (k = 0 ∨ (c.getD (k - 1) ztm).1 < x.1) → Up 0 (c.take (k + 1)) := fun h1 h2 h3 h4 =>
        up_take_succ hkl hch.out (by rw [← hx]; exact h1) (by rw [← hx]; exact h2) (by rw [← hx]; exact h3) (by rw [← hx]; exact h4)
      have hnx : ∀ j, k = j + 1 → ¬ (c.getD j ztm).1 < x.1 → R = false := fun j hj h => HNo.out (fun hc => h (by
        have := up_next hc (k := j) (by rw [← hj]; exact hkl)
        rw [← hj, ← hx] at this
        exact this))
      have HNo2 := Lib.hid hno
      have HYes2 := Lib.hid hyes
      have HNx := Lib.hid hnx
      obtain ⟨so, sc, rfl⟩ := hsp.shape
      obtain ⟨xr, xs⟩ := x
      simp only at ha0 ha1 hr256 hsp HNo2 HYes2 HNx
      obtain ⟨sl, hsl⟩ : ∃ sl, sl = xs.length := ⟨_, rfl⟩
      rw [← hsl] at ha1 hsp
      have HSL := Lib.hid hsl
      have HSP := Lib.hid hsp
      clear hx hx' hno hyes hnx hsp hsl
      by_cases h1 : 8 ≤ xr
      · have s1 : decide ((8 : Int) ≤ (xr : Int)) = true := decide_eq_true (by omega)
        have s2 : decide (8 ≤ xr) = true := decide_eq_true h1
        obtain rfl : R = false := HNo2.out (by omega)
        go_wp2
        go_quiet (fail)
        go_wp2
        go_ret
        exact ⟨rfl, _, by rw [World.drewN_drewN]⟩
      have s1 : decide ((8 : Int) ≤ (xr : Int)) = false := decide_eq_false (by omega)
      have s2 : decide (8 ≤ xr) = false := decide_eq_false h1
      obtain ⟨mb, hmb⟩ : ∃ mb, mayB xs = mb := ⟨_, rfl⟩
      have MD2 : Hid (∀ a, Calls Try.prog 71 #[.slice so sl sc] (w.drewN (q + a)) fun e w' => e = .returned (.bool mb) ∧ ∃ m, w' = w.drewN (q + m)) := fun a => by
        rw [← hmb]
        refine (refMay_drawn (HSP.out.keeps (below_draw (Below.refl _ _) (q + a)))).mono ?_
        rintro e w' ⟨he, m, hm⟩
        exact ⟨he, a + m, by rw [hm, World.drewN_drewN, Nat.add_assoc]⟩
      have HMB := Lib.hid hmb
      clear hmb
      have hzero : k = 0 ∨ ∃ j, k = j + 1 := by
        cases k with
        | zero => exact .inl rfl
        | succ j => exact .inr ⟨j, rfl⟩
      rcases hzero with h0 | ⟨j, hj⟩
      · have g1 : decide ((0 : Int) < (k : Int)) = false := decide_eq_false (by omega)
        have g2 : decide (0 < k) = false := decide_eq_false (by omega)
        by_cases hs0 : sl < 1
        · have s3 : decide ((sl : Int) < 1) = true := decide_eq_true (by omega)
          have s4 : ¬ 1 ≤ sl := by omega
          obtain rfl : R = false := HNo2.out (fun h => h.2.1 (List.length_eq_zero_iff.1 (by have := HSL.out; omega)))
          obtain rfl : sl = 0 := by omega
          clear h0
          go_wp2
          go_quiet (fail)
          go_wp2
          go_ret
          exact ⟨rfl, _, by rw [World.drewN_drewN]⟩
        have s3 : decide ((sl : Int) < 1) = false := decide_eq_false (by omega)
        have s4 : ¬ sl = 0 := by omega
        cases mb
        · obtain rfl : R = false := HNo2.out (fun h => by rw [HMB.out] at h; cases h.2.2)
          clear h0
          go_wp2
          go_quiet ((go_at_call 71; exact MD2.out _))
          go_wp2
          go_ret
          exact ⟨rfl, _, by rw [World.drewN_drewN]⟩
        · have HC : Hid (Up 0 (c.take (k + 1))) := HYes2.out (by omega) (fun h => s4 (by rw [HSL.out, h]; rfl)) HMB.out (.inl h0)
          clear h0
          go_wp2
          go_quiet ((go_at_call 71; exact MD2.out _))
          go_wp2
          go_roundw
          case rel => exact ⟨k + 1, by omega, by go_num, HC, _, rfl⟩
          case measure => simp [intOf]; omega
      · have g1 : decide ((0 : Int) < (k : Int)) = true := decide_eq_true (by omega)
        have g2 : decide (0 < k) = true := decide_eq_true (by omega)
        have i1 : (k : Int) - 1 = (j : Int) := by omega
        have i2 : IntKind.i64.wrap (j : Int) = (j : Int) := IntWalk.i64_in _ (by omega)
        have i3 : (0 : Int) ≤ (j : Int) := by omega
        have i4 : (j : Int) < (n : Int) := by omega
        obtain ⟨b2, o2, u2, he, hb2, hy0, hy1, hy256, hysp⟩ := HV.out.at j (by rw [← HN.out]; omega)
        obtain ⟨rfl, rfl⟩ : b1 = b2 ∧ o1 = o2 := by simpa using he
        obtain ⟨yr, hyr⟩ : ∃ yr, yr = (c.getD j ztm).1 := ⟨_, rfl⟩
        have hyr' : (c.getD j (0, [])).1 = yr := hyr.symm
        rw [hyr'] at hy0
        have HY1 : Hid (¬ yr < xr → R = false) := fun h => HNx.out j hj (by rw [← hyr]; exact h)
        have HY2 : Hid (xs ≠ [] → mb = true → yr < xr → Up 0 (c.take (k + 1))) := fun h1 h2 h3 => HYes2.out (by omega) h1 (HMB.out.trans h2) (.inr (by rw [show k - 1 = j by omega, ← hyr]; exact h3))
        clear hyr hyr' he hy1 hy256 hysp HNx HYes2 hj
        by_cases h2 : xr ≤ yr
        · have s5 : decide ((xr : Int) ≤ (yr : Int)) = true := decide_eq_true (by omega)
          have s6 : decide (xr ≤ yr) = true := decide_eq_true h2
          obtain rfl : R = false := HY1.out (by omega)
          go_wp2
          go_quiet (fail)
          go_wp2
          go_ret
          exact ⟨rfl, _, by rw [World.drewN_drewN]⟩
        have s5 : decide ((xr : Int) ≤ (yr : Int)) = false := decide_eq_false (by omega)
        have s6 : decide (xr ≤ yr) = false := decide_eq_false h2
        by_cases hs0 : sl < 1
        · have s3 : decide ((sl : Int) < 1) = true := decide_eq_true (by omega)
          obtain rfl : R = false := HNo2.out (fun h => h.2.1 (List.length_eq_zero_iff.1 (by have := HSL.out; omega)))
          obtain rfl : sl = 0 := by omega
          go_wp2
          go_quiet (fail)
          go_wp2
          go_ret
          exact ⟨rfl, _, by rw [World.drewN_drewN]⟩
        have s3 : decide ((sl : Int) < 1) = false := decide_eq_false (by omega)
        have s4 : ¬ sl = 0 := by omega
        cases mb
        · obtain rfl : R = false := HNo2.out (fun h => by rw [HMB.out] at h; cases h.2.2)
          go_wp2
          go_quiet ((go_at_call 71; exact MD2.out _))
          go_wp2
          go_ret
          exact ⟨rfl, _, by rw [World.drewN_drewN]⟩
        · have HC : Hid (Up 0 (c.take (k + 1))) := HY2.out (fun h => s4 (by rw [HSL.out, h]; rfl)) rfl (by omega)
          go_wp2
          go_quiet ((go_at_call 71; exact MD2.out _))
          go_wp2
          go_roundw
          case rel => exact ⟨k + 1, by omega, by go_num, HC, _, rfl⟩
          case measure => simp [intOf]; omega
    · have q1 : decide (k < n) = false := by simpa using hkn
      have hkk : c.take k = c := List.take_of_length_le (by have := HN.out; omega)
      obtain rfl : R = true := HYes.out (by have := hch.out; rwa [hkk] at this)
      clear hkk
      go_wp2
      go_ret
      exact ⟨rfl, _, rfl⟩
theorem refMayC_any {v : Value} {c : List Tm} {w : World} (hv : Tms w v c) :
    Calls Try.prog 48 #[v] w fun e w' => e = .returned (.bool (mayC c)) ∧ Below w.heap.size w w' :=
  (refMayC_drawn hv).mono fun _ _ ⟨he, hm⟩ => ⟨he, drawn_below hm⟩
theorem refMayC_is {v : Value} {c : List Tm} {w : World} (hv : Tms w v c) {b : Bool} (h : mayC c = b) :
    Calls Try.prog 48 #[v] w fun e w' => e = .returned (.bool b) ∧ Below w.heap.size w w' := by
  rw [← h]; exact refMayC_any hv
end Go.Proofs.Ytinglfhndlklaaa.Clocks
