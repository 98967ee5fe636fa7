/- octavo/clock: Check, Count, Top, and stamp.Check: what each answers. Conditions: the slices' cells are replicas' spans. -/
import Derived.Test.YtinglfhndlklaaaClockLaws
import Derived.Test.YtinglfhndlklaaaSpanFn
namespace Go.Proofs.Ytinglfhndlklaaa.Clocks
open Go.RowKit Go.Proofs.Ytinglfhndlklaaa.Spans
attribute [local go_sem ↓] Go.wp_at_zero Go.wp_at_succ

def chkI (a : Id) : Int := if mayI a then 0 else 8
theorem stCheck_any (a : Id) (w : World) :
    Calls Try.prog 41 #[idv a] w fun e w' => e = .returned (.int .i64 (chkI a)) ∧ Below w.heap.size w w' := by
  obtain ⟨t, r, ht, hr⟩ := a
  unfold idv
  simp only
  obtain ⟨c, hc⟩ : ∃ c, c = chkI ⟨t, r, ht, hr⟩ := ⟨_, rfl⟩
  rw [← hc]
  have q : (decide ((t : Int) < 1) = true ∧ c = 8) ∨ (decide ((t : Int) < 1) = false ∧ decide ((1073741824 : Int) < (t : Int)) = true ∧ c = 8) ∨
      (decide ((t : Int) < 1) = false ∧ decide ((1073741824 : Int) < (t : Int)) = false ∧ decide ((8 : Int) ≤ (r : Int)) = true ∧ c = 8) ∨
      (decide ((t : Int) < 1) = false ∧ decide ((1073741824 : Int) < (t : Int)) = false ∧ decide ((8 : Int) ≤ (r : Int)) = false ∧ c = 0) := by
    rw [hc]
    unfold chkI mayI
    simp only
    by_cases h1 : t < 1
    · exact .inl ⟨decide_eq_true (by omega), if_neg (by omega)⟩
    · by_cases h2 : 1073741824 < t
      · exact .inr (.inl ⟨decide_eq_false (by omega), decide_eq_true (by omega), if_neg (by omega)⟩)
      · by_cases h3 : 8 ≤ r
        · exact .inr (.inr (.inl ⟨decide_eq_false (by omega), decide_eq_false (by omega), decide_eq_true (by omega), if_neg (by omega)⟩))
        · exact .inr (.inr (.inr ⟨decide_eq_false (by omega), decide_eq_false (by omega), decide_eq_false (by omega), if_pos (by omega)⟩))
  clear hc
  rcases q with ⟨q1, rfl⟩ | ⟨q1, q2, rfl⟩ | ⟨q1, q2, q3, rfl⟩ | ⟨q1, q2, q3, rfl⟩
  all_goals
    go_enter Try.func41, Try.ntmps41
    go_wp2
    go_ret
    exact ⟨rfl, (Below.refl _ _).alloc (Nat.le_refl _) _⟩

theorem chkC_no {c : List Tm} (h : ¬ Cok c) : chkC c = 8 := by unfold chkC; rw [mayC_no h]; rfl
theorem chkC_yes {c : List Tm} (h : Cok c) : chkC c = 0 := by unfold chkC; rw [(mayC_iff c).2 h]; rfl

set_option maxRecDepth 100000 in
set_option maxHeartbeats 4000000 in
theorem cCheck_any {v : Value} {c : List Tm} {w : World} (hv : Tms w v c) :
    Calls Try.prog 20 #[v] w fun e w' => e = .returned (.int .i64 (chkC c)) ∧ Below w.heap.size w w' := by
  obtain ⟨ao, cap, rfl⟩ := hv.shape
  obtain ⟨n, hn⟩ : ∃ n, n = c.length := ⟨_, rfl⟩
  have hm : n ≤ 9223372036854775807 := by rw [hn]; exact Tms.max hv
  have HV := Lib.hid hv
  have HN := Lib.hid hn
  obtain ⟨R, hR⟩ : ∃ R, R = chkC c := ⟨_, rfl⟩
  have HNo : Hid (¬ Cok c → R = 8) := fun h => by rw [hR]; exact chkC_no h
  have HYes : Hid (Cok c → R = 0) := fun h => by rw [hR]; exact chkC_yes h
  have B0 := Lib.hid (Below.refl w.heap.size w)
  rw [← hn, ← hR]
  clear hv hn hR
  go_enter Try.func20, Try.ntmps20
  go_wp2
  go_loopw [3, 8] (fun m i wr => ∃ k b : Nat, k ≤ n ∧ i = .int .i64 (k : Int) ∧ m = .int .u8 (b : Int) ∧ b ≤ 8 ∧ Hid ((k = 0 ∧ b = 0) ∨ ∃ j, k = j + 1 ∧ b = (c.getD j ztm).1 + 1) ∧ Hid (Up 0 (c.take k)) ∧ Hid (Below w.heap.size w wr)) (fun _ i _ => n - (intOf i).toNat)
  case atStart => exact ⟨0, 0, by omega, rfl, rfl, by omega, Lib.hid (.inl ⟨rfl, rfl⟩), Lib.hid trivial, B0⟩
  case round =>
    obtain ⟨k, b, hk, rfl, rfl, hb8, hlast, hch, hbel⟩ := hrel
    by_cases hkn : k < n
    · have q1 : decide (k < n) = true := by simpa using hkn
      have q2 : (0 : Int) ≤ (k : Int) := by omega
      have q3 : (k : Int) < (n : Int) := by omega
      have hkl : k < c.length := by rw [← HN.out]; exact hkn
      obtain ⟨b1, o1, u, rfl, hb1, ha0, ha1, -, hsp⟩ := (HV.out.keeps hbel.out).at k hkl
      obtain ⟨x, hx⟩ : ∃ x, x = c.getD k ztm := ⟨_, rfl⟩
      have hx' : c.getD k (0, []) = x := hx.symm
      rw [hx'] at ha0 hsp
      have hno : ¬ (x.1 < 8 ∧ x.2 ≠ [] ∧ mayB x.2 = true) → R = 8 := fun h => HNo.out (fun hc => h (by
        have := up_all hc (c.getD k ztm) (tm_mem hkl)
        rw [← hx] at this
        exact this.2))
      have hno2 : x.1 < b → R = 8 := fun h => by
        rcases hlast.out with ⟨h1, h2⟩ | ⟨j, h1, h2⟩
        · omega
        · refine HNo.out (fun hc => ?_)
          have := up_next hc (k := j) (by rw [← h1]; exact hkl)
          rw [← h1, ← hx] at this
          omega
      have hyes : x.1 < 8 → x.2 ≠ [] → mayB x.2 = true → b ≤ x.1 → Up 0 (c.take (k + 1)) := fun h1 h2 h3 h4 => by
        refine up_take_succ hkl hch.out (by rw [← hx]; exact h1) (by rw [← hx]; exact h2) (by rw [← hx]; exact h3) ?_
        rw [← hx]
        rcases hlast.out with ⟨g1, -⟩ | ⟨j, g1, g2⟩
        · exact .inl g1
        · refine .inr ?_
          rw [show k - 1 = j by omega]
          omega
      have HX : Hid (x.1 = (c.getD k ztm).1) := by rw [hx]; rfl
      have HNo1 := Lib.hid hno
      have HNo2 := Lib.hid hno2
      have HYes2 := Lib.hid hyes
      have XB := Lib.hid (fun o : Obj => hbel.out.alloc hbel.out.size o)
      obtain ⟨so, sc, rfl⟩ := hsp.shape
      obtain ⟨xr, xs⟩ := x
      simp only at ha0 ha1 hsp HX HNo1 HNo2 HYes2
      obtain ⟨sl, hsl⟩ : ∃ sl, sl = xs.length := ⟨_, rfl⟩
      rw [← hsl] at ha1 hsp
      have HSL := Lib.hid hsl
      obtain ⟨wo, rfl⟩ : ∃ wo : World, wo = wr := ⟨_, rfl⟩
      have CK : Hid (∀ o : Obj, Calls Try.prog 46 #[.slice so sl sc] (wo.alloc o) fun e w' => e = .returned (.int .i64 (chk xs)) ∧ Below (wo.alloc o).heap.size (wo.alloc o) w') := fun o =>
        pCheck_any (hsp.keeps ((Below.refl _ _).alloc (Nat.le_refl _) o))
      obtain ⟨q, hq⟩ : ∃ q, chk xs = q := ⟨_, rfl⟩
      rw [hq] at CK
      have HQ : Hid ((q = 0 ∧ mayB xs = true) ∨ (q = 8 ∧ mayB xs = false)) := by
        show _ ∨ _
        rw [← hq]
        unfold chk
        cases mayB xs <;> simp
      clear hx hx' hno hno2 hyes hsp hsl hq
      by_cases h1 : xr < b
      · have s1 : decide ((xr : Int) < (b : Int)) = true := decide_eq_true (by omega)
        have s2 : decide (xr < b) = true := decide_eq_true h1
        obtain rfl : R = 8 := HNo2.out h1
        go_wp2
        go_ret
        exact ⟨rfl, XB.out _⟩
      have s1 : decide ((xr : Int) < (b : Int)) = false := decide_eq_false (by omega)
      have s2 : decide (xr < b) = false := decide_eq_false h1
      by_cases h2 : 8 ≤ xr
      · have s3 : decide ((8 : Int) ≤ (xr : Int)) = true := decide_eq_true (by omega)
        have s4 : decide (8 ≤ xr) = true := decide_eq_true h2
        obtain rfl : R = 8 := HNo1.out (by omega)
        go_wp2
        go_ret
        exact ⟨rfl, XB.out _⟩
      have s3 : decide ((8 : Int) ≤ (xr : Int)) = false := decide_eq_false (by omega)
      have s4 : decide (8 ≤ xr) = false := decide_eq_false h2
      by_cases h3 : sl = 0
      · obtain rfl : R = 8 := HNo1.out (fun h => h.2.1 (List.length_eq_zero_iff.1 (by rw [← HSL.out]; exact h3)))
        subst h3
        go_wp2
        go_ret
        exact ⟨rfl, XB.out _⟩
      have s5 : ((sl : Int) == 0) = false := by simpa using h3
      rcases HQ.out with ⟨rfl, hmb⟩ | ⟨rfl, hmb⟩
      · have HUp : Hid (Up 0 (c.take (k + 1))) := HYes2.out (by omega) (fun h => h3 (by rw [HSL.out, h]; rfl)) hmb (by omega)
        have eT : IntKind.u8.wrap ((xr : Int) + 1) = (xr : Int) + 1 := by rw [IntKind.wrap_u8]; omega
        have hb2 : xr + 1 ≤ 8 := by omega
        have HL2 : Hid ((k + 1 = 0 ∧ xr + 1 = 0) ∨ ∃ j, k + 1 = j + 1 ∧ xr + 1 = (c.getD j ztm).1 + 1) := .inr ⟨k, rfl, by rw [HX.out]⟩
        clear HNo1 HNo2 HYes2 hmb HX hlast hch
        go_wp2_with fail
        refine (CK.out _).mono ?_
        rintro e w2 ⟨rfl, b2⟩
        have B2 := Lib.hid (bt (XB.out _) b2)
        have c2 := (b2.cell (p := ⟨wo.heap.size, 0, none⟩) (by simp)).trans (cell_of_row _ wo.heap.size 0 _ _ _ (heap_alloc_new wo _))
        clear b2
        go_wp2
        go_roundw
        case rel => exact ⟨k + 1, xr + 1, by omega, by go_num, by go_num, hb2, HL2, HUp, B2⟩
        case measure => simp [intOf]; omega
      · obtain rfl : R = 8 := HNo1.out (fun h => by rw [hmb] at h; cases h.2.2)
        clear HNo1 HNo2 HYes2 hmb HX hlast hch
        go_wp2_with fail
        refine (CK.out _).mono ?_
        rintro e w2 ⟨rfl, b2⟩
        go_wp2
        go_ret
        exact ⟨rfl, bt (XB.out _) b2⟩
    · have q1 : decide (k < n) = false := by simpa using hkn
      have hkk : c.take k = c := List.take_of_length_le (by have := HN.out; omega)
      obtain rfl : R = 0 := HYes.out (by have := hch.out; rwa [hkk] at this)
      clear hkk
      go_wp2
      go_ret
      exact ⟨rfl, hbel.out⟩
theorem cCheck_is {v : Value} {c : List Tm} {w : World} (hv : Tms w v c) {k : Int} (h : chkC c = k) :
    Calls Try.prog 20 #[v] w fun e w' => e = .returned (.int .i64 k) ∧ Below w.heap.size w w' := by
  rw [← h]; exact cCheck_any hv
end Go.Proofs.Ytinglfhndlklaaa.Clocks
