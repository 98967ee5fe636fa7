/- octavoref07: Twin, Same, In, Many, May, Check, Has, Count: what each answers. Conditions: the slices' cells are spans. -/
import Derived.Test.YtinglfhndlklaaaSpanMath2
import Derived.Test.YtinglfhndlklaaaSpans
import Derived.WalkKit
import Derived.WalkSpells
import Derived.WalkLawsBesides
import Derived.RegionTactic
import Derived.Deep.DrawnRows
import Derived.Deep.QuietTactic
import Derived.BigQuiet
import Derived.IntWalk
namespace Go.Proofs.Ytinglfhndlklaaa.Spans
open Go.RowKit
attribute [local go_sem ↓] Go.wp_at_zero Go.wp_at_succ

theorem twin_any {v : Value} {l : List Sp} {w : World} (hv : Sps w v l) (hl : l.length ≤ 1000000) :
    Calls Try.prog 47 #[v] w fun e w' => ∃ v', e = .returned v' ∧ w'.ownsRow w.heap.size 63 2 v' l.length (sps l) ∧ Below w.heap.size w w' := by
  obtain ⟨ao, cap, rfl⟩ := hv.shape
  have HV : Hid (Sees w (.slice ao l.length cap) 2 l.length (sps l)) := hv
  have O0 : Hid (w.ownsRow w.heap.size 63 2 (.slice none 0 0) 0 []) := World.ownsRow_nil _ _ _ _
  clear hv
  go_enter Try.func47, Try.ntmps47
  go_wp2_with (at_builtin; refine wpList_append_sees rfl (.tmp 4) (.tmp 5) 26 63 rfl Try.underlying26 span_info rfl (by decide) w.heap.size _ 0 [] rfl O0.out _ l.length _ rfl HV.out (sps_oneCell l) ?k1 ?k2 ?k3 ?_)
  case k1 => omega
  case k2 => omega
  case k3 => simp
  rintro v1 w1 o1 g1 b1
  have HO : Hid (w1.ownsRow w.heap.size 63 2 v1 l.length (sps l)) := o1
  have HB := Lib.hid b1
  clear o1 g1 b1
  go_wp2
  go_ret
  exact ⟨_, rfl, HO.out, HB.out⟩

theorem sps_ne : ∀ {a b : List Sp}, a.length = b.length → a ≠ b → ∃ k, k < a.length ∧ a.getD k zsp ≠ b.getD k zsp
  | [], [], _, h => absurd rfl h
  | x :: a, y :: b, hl, h => by
    by_cases hxy : x = y
    · subst hxy
      obtain ⟨k, h1, h2⟩ := sps_ne (a := a) (b := b) (by simpa using hl) (fun e => h (by rw [e]))
      exact ⟨k + 1, by simpa using h1, by simpa using h2⟩
    · exact ⟨0, by simp, by simpa using hxy⟩
  | [], _ :: _, hl, _ => by simp at hl
  | _ :: _, [], hl, _ => by simp at hl

set_option maxHeartbeats 1000000 in
theorem same_yes_drawn {a b : Value} {l : List Sp} {w : World} (ha : Sps w a l) (hb : Sps w b l) :
    Calls Try.prog 40 #[a, b] w fun e w' => e = .returned (.bool true) ∧ ∃ m, w' = w.drewN m := by
  obtain ⟨ao, ca, rfl⟩ := ha.shape
  obtain ⟨bo, cb, rfl⟩ := hb.shape
  obtain ⟨n, hn⟩ : ∃ n, n = l.length := ⟨_, rfl⟩
  have hm : n ≤ 9223372036854775807 := by rw [hn]; exact Sees.max ha
  have HA := Lib.hid ha
  have HB := Lib.hid hb
  have HN := Lib.hid hn
  rw [← hn]
  clear ha hb hn
  have t1 : ((n : Int) != (n : Int)) = false := by simp
  go_enter Try.func40, Try.ntmps40
  go_wp2
  go_loopw [5] (fun i wr => ∃ k : Nat, k ≤ n ∧ i = .int .i64 (k : Int) ∧ ∃ q, wr = w.drewN q) (fun i _ => n - (intOf i).toNat)
  case atStart => exact ⟨0, by omega, rfl, 0, rfl⟩
  case round =>
    obtain ⟨k, hk, rfl, q, rfl⟩ := hrel
    by_cases hkn : k < n
    · have q1 : decide (k < n) = true := by simpa using hkn
      obtain ⟨b1, o1, rfl, hb1, ha0, ha1⟩ := HA.out.at k (by rw [← HN.out]; exact hkn)
      obtain ⟨b2, o2, rfl, hb2, hb0, hb1'⟩ := HB.out.at k (by rw [← HN.out]; exact hkn)
      obtain ⟨x, hx⟩ : ∃ x, x = l.getD k zsp := ⟨_, rfl⟩
      rw [← hx] at ha0 ha1 hb0 hb1'
      obtain ⟨xt, xr, _, _⟩ := x
      simp only at ha0 ha1 hb0 hb1'
      have q2 : (0 : Int) ≤ (k : Int) := by omega
      have q3 : (k : Int) < (n : Int) := by omega
      clear hx
      go_wp2
      go_quiet (fail)
      go_wp2
      go_roundw
      case rel => exact ⟨k + 1, by omega, by go_num, _, rfl⟩
      case measure => simp [intOf]; omega
    · have q1 : decide (k < n) = false := by simpa using hkn
      go_wp2
      go_ret
      exact ⟨rfl, _, rfl⟩

set_option maxHeartbeats 1000000 in
theorem same_no_drawn {a b : Value} {l m : List Sp} {w : World} (ha : Sps w a l) (hb : Sps w b m) (hlm : l ≠ m) :
    Calls Try.prog 40 #[a, b] w fun e w' => e = .returned (.bool false) ∧ ∃ m, w' = w.drewN m := by
  obtain ⟨ao, ca, rfl⟩ := ha.shape
  obtain ⟨bo, cb, rfl⟩ := hb.shape
  obtain ⟨n, hn⟩ : ∃ n, n = l.length := ⟨_, rfl⟩
  obtain ⟨n2, hn2⟩ : ∃ n, n = m.length := ⟨_, rfl⟩
  have hm : n ≤ 9223372036854775807 := by rw [hn]; exact Sees.max ha
  have HA := Lib.hid ha
  have HB := Lib.hid hb
  have HN := Lib.hid hn
  have HN2 := Lib.hid hn2
  have HL := Lib.hid hlm
  rw [← hn, ← hn2]
  clear ha hb hn hn2 hlm
  by_cases hlen : n = n2
  · subst hlen
    have t1 : ((n : Int) != (n : Int)) = false := by simp
    go_enter Try.func40, Try.ntmps40
    go_wp2
    go_loopw [5] (fun i wr => ∃ k : Nat, k ≤ n ∧ i = .int .i64 (k : Int) ∧ Hid (∀ j, j < k → l.getD j zsp = m.getD j zsp) ∧ ∃ q, wr = w.drewN q) (fun i _ => n - (intOf i).toNat)
    case atStart => exact ⟨0, by omega, rfl, Lib.hid (by omega), 0, rfl⟩
    case round =>
      obtain ⟨k, hk, rfl, hal, q, rfl⟩ := hrel
      by_cases hkn : k < n
      · have q1 : decide (k < n) = true := by simpa using hkn
        obtain ⟨b1, o1, rfl, hb1, ha0, ha1⟩ := HA.out.at k (by rw [← HN.out]; exact hkn)
        obtain ⟨b2, o2, rfl, hb2, hb0, hb1'⟩ := HB.out.at k (by rw [← HN2.out]; exact hkn)
        obtain ⟨x, hx⟩ : ∃ x, x = l.getD k zsp := ⟨_, rfl⟩
        obtain ⟨y, hy⟩ : ∃ y, y = m.getD k zsp := ⟨_, rfl⟩
        rw [← hx] at ha0 ha1
        rw [← hy] at hb0 hb1'
        have q2 : (0 : Int) ≤ (k : Int) := by omega
        have q3 : (k : Int) < (n : Int) := by omega
        by_cases hxy : x = y
        · have HX := Lib.hid (show l.getD k zsp = m.getD k zsp by rw [← hx, ← hy, hxy])
          subst hxy
          obtain ⟨xt, xr, _, _⟩ := x
          simp only at ha0 ha1 hb0 hb1'
          clear hx hy
          go_wp2
          go_quiet (fail)
          go_wp2
          go_roundw
          case rel =>
            refine ⟨k + 1, by omega, by go_num, Lib.hid (fun j hj => ?_), _, rfl⟩
            by_cases e : j = k
            · rw [e]; exact HX.out
            · exact hal.out j (by omega)
          case measure => simp [intOf]; omega
        · have hparts : ¬ x.f = y.f ∨ (x.f = y.f ∧ ¬ x.t = y.t) := by
            by_cases h1 : x.f = y.f
            · exact .inr ⟨h1, fun h2 => hxy (Sp.ext' h1 h2)⟩
            · exact .inl h1
          obtain ⟨xt, xr, _, _⟩ := x
          obtain ⟨yt, yr, _, _⟩ := y
          simp only at ha0 ha1 hb0 hb1' hparts
          clear hx hy hxy
          rcases hparts with h1 | ⟨rfl, h2⟩
          · go_wp2
            go_quiet (fail)
            go_wp2
            go_ret
            exact ⟨rfl, _, by rw [World.drewN_drewN]⟩
          · have h4 : ((xr : Int) == (yr : Int)) = false := by simp; omega
            have h5 : decide (xr = yr) = false := decide_eq_false h2
            go_wp2
            go_quiet (fail)
            go_wp2
            go_ret
            exact ⟨rfl, _, by rw [World.drewN_drewN]⟩
      · exfalso
        obtain ⟨j, h1, h2⟩ := sps_ne (by rw [← HN.out, ← HN2.out]) HL.out
        exact h2 (hal.out j (by have := HN.out; omega))
  · have t1 : ((n : Int) != (n2 : Int)) = true := by simp; omega
    have t2 : ¬ n = n2 := hlen
    go_enter Try.func40, Try.ntmps40
    go_wp2
    go_ret
    exact ⟨rfl, 0, rfl⟩
theorem same_yes {a b : Value} {l : List Sp} {w : World} (ha : Sps w a l) (hb : Sps w b l) :
    Calls Try.prog 40 #[a, b] w fun e w' => e = .returned (.bool true) ∧ Below w.heap.size w w' :=
  (same_yes_drawn ha hb).mono fun _ _ ⟨he, m, hm⟩ => ⟨he, by rw [hm]; exact below_draw (Below.refl _ _) m⟩
theorem same_no {a b : Value} {l m : List Sp} {w : World} (ha : Sps w a l) (hb : Sps w b m) (hlm : l ≠ m) :
    Calls Try.prog 40 #[a, b] w fun e w' => e = .returned (.bool false) ∧ Below w.heap.size w w' :=
  (same_no_drawn ha hb hlm).mono fun _ _ ⟨he, m, hm⟩ => ⟨he, by rw [hm]; exact below_draw (Below.refl _ _) m⟩
theorem refSame_drawn {a b : Value} {l m : List Sp} {w : World} (ha : Sps w a l) (hb : Sps w b m) :
    Calls Try.prog 40 #[a, b] w fun e w' => e = .returned (.bool (decide (l = m))) ∧ ∃ k, w' = w.drewN k := by
  by_cases h : l = m
  · subst h
    rw [decide_eq_true rfl]
    exact same_yes_drawn ha hb
  · rw [decide_eq_false h]
    exact same_no_drawn ha hb h
theorem refSame_any {a b : Value} {l m : List Sp} {w : World} (ha : Sps w a l) (hb : Sps w b m) :
    Calls Try.prog 40 #[a, b] w fun e w' => e = .returned (.bool (decide (l = m))) ∧ Below w.heap.size w w' := by
  by_cases h : l = m
  · subst h
    rw [decide_eq_true rfl]
    exact same_yes ha hb
  · rw [decide_eq_false h]
    exact same_no ha hb h

set_option maxHeartbeats 1000000 in
theorem refIn_any {v : Value} {l : List Sp} (t : Nat) {w : World} (hv : Sps w v l) :
    Calls Try.prog 80 #[v, .int .u32 (t : Int)] w fun e w' => e = .returned (.bool (inB l t)) ∧ w = w' := by
  obtain ⟨ao, cap, rfl⟩ := hv.shape
  obtain ⟨n, hn⟩ : ∃ n, n = l.length := ⟨_, rfl⟩
  have hm : n ≤ 9223372036854775807 := by rw [hn]; exact Sees.max hv
  have HV := Lib.hid hv
  have HN := Lib.hid hn
  obtain ⟨b0, hb0⟩ : ∃ b, inB l t = b := ⟨_, rfl⟩
  have HB := Lib.hid hb0
  rw [← hn, hb0]
  clear hv hn hb0
  go_enter Try.func80, Try.ntmps80
  go_wp2
  go_loop [5] (fun i => ∃ k : Nat, k ≤ n ∧ i = .int .i64 (k : Int) ∧ Hid (inB (l.take k) t = false)) (fun i => n - (intOf i).toNat)
  case atStart => exact ⟨0, by omega, rfl, Lib.hid rfl⟩
  case round =>
    obtain ⟨k, hk, rfl, hno⟩ := hrel
    by_cases hkn : k < n
    · have q1 : decide (k < n) = true := by simpa using hkn
      obtain ⟨b1, o1, rfl, hb1, ha0, ha1⟩ := HV.out.at k (by rw [← HN.out]; exact hkn)
      have hs := take_snoc l k (by rw [← HN.out]; exact hkn)
      obtain ⟨x, hx⟩ : ∃ x, x = l.getD k zsp := ⟨_, rfl⟩
      rw [← hx] at ha0 ha1 hs
      have hsn := inB_snoc (l.take k) x t
      rw [← hs, hno.out, Bool.false_or] at hsn
      have hin : x.f ≤ t ∧ t ≤ x.t → b0 = true := fun h => by
        rw [← HB.out]
        exact (inB_iff l t).2 ⟨x, by rw [hx, List.getD, List.getElem?_eq_getElem (by rw [← HN.out]; exact hkn)]; exact List.getElem_mem _, h.1, h.2⟩
      have HIn := Lib.hid hin
      have HSn := Lib.hid hsn
      obtain ⟨xf, xt, _, _⟩ := x
      simp only at ha0 ha1 HIn HSn
      have q2 : (0 : Int) ≤ (k : Int) := by omega
      have q3 : (k : Int) < (n : Int) := by omega
      clear hx hs hsn hin
      by_cases h1 : xf ≤ t
      · have s1 : decide ((xf : Int) ≤ (t : Int)) = true := decide_eq_true (by omega)
        have s2 : decide (xf ≤ t) = true := decide_eq_true h1
        by_cases h2 : t ≤ xt
        · have s3 : decide ((t : Int) ≤ (xt : Int)) = true := decide_eq_true (by omega)
          have s4 : decide (t ≤ xt) = true := decide_eq_true h2
          obtain rfl : b0 = true := HIn.out ⟨h1, h2⟩
          go_wp2
          go_ret
          exact ⟨rfl, rfl⟩
        · have s3 : decide ((t : Int) ≤ (xt : Int)) = false := decide_eq_false (by omega)
          have s4 : decide (t ≤ xt) = false := decide_eq_false h2
          have HNo : Hid (inB (l.take (k + 1)) t = false) := by show _ = _; rw [HSn.out]; exact decide_eq_false (by omega)
          go_wp2
          go_round
          case rel => exact ⟨k + 1, by omega, by go_num, HNo⟩
          case measure => simp [intOf]; omega
      · have s1 : decide ((xf : Int) ≤ (t : Int)) = false := decide_eq_false (by omega)
        have s2 : decide (xf ≤ t) = false := decide_eq_false h1
        have HNo : Hid (inB (l.take (k + 1)) t = false) := by show _ = _; rw [HSn.out]; exact decide_eq_false (by omega)
        go_wp2
        go_round
        case rel => exact ⟨k + 1, by omega, by go_num, HNo⟩
        case measure => simp [intOf]; omega
    · have q1 : decide (k < n) = false := by simpa using hkn
      have hkk : l.take k = l := List.take_of_length_le (by have := HN.out; omega)
      have hf : b0 = false := by rw [← HB.out, ← hkk]; exact hno.out
      subst hf
      clear hkk
      go_wp2
      go_ret
      exact ⟨rfl, rfl⟩
end Go.Proofs.Ytinglfhndlklaaa.Spans
