/- octavoref07: Twin, Same, In, Many, May, Check, Has, Count: what each answers. Conditions: the slices' cells are spans. -/
import Derived.WalkKit
import Derived.WalkSpells
import Derived.WalkLawsBesides
import Derived.RegionTactic
import Derived.Deep.DrawnRows
import Derived.Deep.QuietTactic
import Derived.BigQuiet
import Derived.IntWalk
import Derived.Deep.RegionHeld3
import Derived.Test.YtocjkegkgnbboaaPk07
import Derived.Test.YtocjkegkgnbboaaPk10

namespace Go.Proofs.Ytocjkegkgnbboaa.Spans
open Go.RowKit
attribute [local go_sem ↓] Go.wp_at_zero Go.wp_at_succ

theorem twin_any {v : Value} {l : List Sp} {w : World} (hv : Sps w v l) (hl : l.length ≤ 1000000) :
    Calls Try.prog 117 #[v] w fun e w' => ∃ v', e = .returned v' ∧ w'.ownsRow w.heap.size 33 2 v' l.length (sps l) ∧ Below w.heap.size w w' := by
  obtain ⟨ao, cap, rfl⟩ := hv.shape
  have HV : Hid (Sees w (.slice ao l.length cap) 2 l.length (sps l)) := hv
  have O0 : Hid (w.ownsRow w.heap.size 33 2 (.slice none 0 0) 0 []) := World.ownsRow_nil _ _ _ _
  clear hv
  go_enter Try.func117, Try.ntmps117
  go_wp2_with (at_builtin; refine wpList_append_sees rfl (.tmp 4) (.tmp 5) 34 33 rfl Try.underlying34 span_info rfl (by decide) w.heap.size _ 0 [] rfl O0.out _ l.length _ rfl HV.out (sps_oneCell l) ?k1 ?k2 ?k3 ?_)
  case k1 => omega
  case k2 => omega
  case k3 => simp
  rintro v1 w1 o1 g1 b1
  have HO : Hid (w1.ownsRow w.heap.size 33 2 v1 l.length (sps l)) := o1
  have HB := Lib.hid b1
  clear o1 g1 b1
  go_wp2
  go_ret
  exact ⟨_, rfl, HO.out, HB.out⟩

theorem sps_ne : ∀ {a b : List Sp}, a.length = b.length → a ≠ b → ∃ k, k < a.length ∧ a.getD k zsp ≠ b.getD k zsp
  | [], [], _, h => absurd rfl h
  | x :: a, y :: b, hl, h => by
    by_cases hxy : x = y
    · subst hxy
      obtain ⟨k, h1, h2⟩ := sps_ne (a := a) (b := b) (by simpa using hl) (fun e => h (by rw [e]))
      exact ⟨k + 1, by simpa using h1, by simpa using h2⟩
    · exact ⟨0, by simp, by simpa using hxy⟩
  | [], _ :: _, hl, _ => by simp at hl
  | _ :: _, [], hl, _ => by simp at hl

set_option maxHeartbeats 1000000 in
theorem same_yes_drawn {a b : Value} {l : List Sp} {w : World} (ha : Sps w a l) (hb : Sps w b l) :
    Calls Try.prog 44 #[a, b] w fun e w' => e = .returned (.bool true) ∧ ∃ m, w' = w.drewN m := by
  obtain ⟨ao, ca, rfl⟩ := ha.shape
  obtain ⟨bo, cb, rfl⟩ := hb.shape
  obtain ⟨n, hn⟩ : ∃ n, n = l.length := ⟨_, rfl⟩
  have hm : n ≤ 9223372036854775807 := by rw [hn]; exact Sees.max ha
  have HA := Lib.hid ha
  have HB := Lib.hid hb
  have HN := Lib.hid hn
  rw [← hn]
  clear ha hb hn
  have t1 : ((n : Int) != (n : Int)) = false := by simp
  go_enter Try.func44, Try.ntmps44
  go_wp2
  go_loopw [5] (fun i wr => ∃ k : Nat, k ≤ n ∧ i = .int .i64 (k : Int) ∧ ∃ q, wr = w.drewN q) (fun i _ => n - (intOf i).toNat)
  case atStart => exact ⟨0, by omega, rfl, 0, rfl⟩
  case round =>
    obtain ⟨k, hk, rfl, q, rfl⟩ := hrel
    by_cases hkn : k < n
    · have q1 : decide (k < n) = true := by simpa using hkn
      obtain ⟨b1, o1, rfl, hb1, ha0, ha1⟩ := HA.out.at k (by rw [← HN.out]; exact hkn)
      obtain ⟨b2, o2, rfl, hb2, hb0, hb1'⟩ := HB.out.at k (by rw [← HN.out]; exact hkn)
      obtain ⟨x, hx⟩ : ∃ x, x = l.getD k zsp := ⟨_, rfl⟩
      rw [← hx] at ha0 ha1 hb0 hb1'
      obtain ⟨xt, xr, _, _⟩ := x
      simp only at ha0 ha1 hb0 hb1'
      have q2 : (0 : Int) ≤ (k : Int) := by omega
      have q3 : (k : Int) < (n : Int) := by omega
      clear hx
      go_wp2
      go_quiet (fail)
      go_wp2
      go_roundw
      case rel => exact ⟨k + 1, by omega, by go_num, _, rfl⟩
      case measure => simp [intOf]; omega
    · have q1 : decide (k < n) = false := by simpa using hkn
      go_wp2
      go_ret
      exact ⟨rfl, _, rfl⟩

set_option maxHeartbeats 1000000 in
theorem same_no_drawn {a b : Value} {l m : List Sp} {w : World} (ha : Sps w a l) (hb : Sps w b m) (hlm : l ≠ m) :
    Calls Try.prog 44 #[a, b] w fun e w' => e = .returned (.bool false) ∧ ∃ m, w' = w.drewN m := by
  obtain ⟨ao, ca, rfl⟩ := ha.shape
  obtain ⟨bo, cb, rfl⟩ := hb.shape
  obtain ⟨n, hn⟩ : ∃ n, n = l.length := ⟨_, rfl⟩
  obtain ⟨n2, hn2⟩ : ∃ n, n = m.length := ⟨_, rfl⟩
  have hm : n ≤ 9223372036854775807 := by rw [hn]; exact Sees.max ha
  have HA := Lib.hid ha
  have HB := Lib.hid hb
  have HN := Lib.hid hn
  have HN2 := Lib.hid hn2
  have HL := Lib.hid hlm
  rw [← hn, ← hn2]
  clear ha hb hn hn2 hlm
  by_cases hlen : n = n2
  · subst hlen
    have t1 : ((n : Int) != (n : Int)) = false := by simp
    go_enter Try.func44, Try.ntmps44
    go_wp2
    go_loopw [5] (fun i wr => ∃ k : Nat, k ≤ n ∧ i = .int .i64 (k : Int) ∧ Hid (∀ j, j < k → l.getD j zsp = m.getD j zsp) ∧ ∃ q, wr = w.drewN q) (fun i _ => n - (intOf i).toNat)
    case atStart => exact ⟨0, by omega, rfl, Lib.hid (by omega), 0, rfl⟩
    case round =>
      obtain ⟨k, hk, rfl, hal, q, rfl⟩ := hrel
      by_cases hkn : k < n
      · have q1 : decide (k < n) = true := by simpa using hkn
        obtain ⟨b1, o1, rfl, hb1, ha0, ha1⟩ := HA.out.at k (by rw [← HN.out]; exact hkn)
        obtain ⟨b2, o2, rfl, hb2, hb0, hb1'⟩ := HB.out.at k (by rw [← HN2.out]; exact hkn)
        obtain ⟨x, hx⟩ : ∃ x, x = l.getD k zsp := ⟨_, rfl⟩
        obtain ⟨y, hy⟩ : ∃ y, y = m.getD k zsp := ⟨_, rfl⟩
        rw [← hx] at ha0 ha1
        rw [← hy] at hb0 hb1'
        have q2 : (0 : Int) ≤ (k : Int) := by omega
        have q3 : (k : Int) < (n : Int) := by omega
        by_cases hxy : x = y
        · have HX := Lib.hid (show l.getD k zsp = m.getD k zsp by rw [← hx, ← hy, hxy])
          subst hxy
          obtain ⟨xt, xr, _, _⟩ := x
          simp only at ha0 ha1 hb0 hb1'
          clear hx hy
          go_wp2
          go_quiet (fail)
          go_wp2
          go_roundw
          case rel =>
            refine ⟨k + 1, by omega, by go_num, Lib.hid (fun j hj => ?_), _, rfl⟩
            by_cases e : j = k
            · rw [e]; exact HX.out
            · exact hal.out j (by omega)
          case measure => simp [intOf]; omega
        · have hparts : ¬ x.f = y.f ∨ (x.f = y.f ∧ ¬ x.t = y.t) := by
            by_cases h1 : x.f = y.f
            · exact .inr ⟨h1, fun h2 => hxy (Sp.ext' h1 h2)⟩
            · exact .inl h1
          obtain ⟨xt, xr, _, _⟩ := x
          obtain ⟨yt, yr, _, _⟩ := y
          simp only at ha0 ha1 hb0 hb1' hparts
          clear hx hy hxy
          rcases hparts with h1 | ⟨rfl, h2⟩
          · go_wp2
            go_quiet (fail)
            go_wp2
            go_ret
            exact ⟨rfl, _, by rw [World.drewN_drewN]⟩
          · have h4 : ((xr : Int) == (yr : Int)) = false := by simp; omega
            have h5 : decide (xr = yr) = false := decide_eq_false h2
            go_wp2
            go_quiet (fail)
            go_wp2
            go_ret
            exact ⟨rfl, _, by rw [World.drewN_drewN]⟩
      · exfalso
        obtain ⟨j, h1, h2⟩ := sps_ne (by rw [← HN.out, ← HN2.out]) HL.out
        exact h2 (hal.out j (by have := HN.out; omega))
  · have t1 : ((n : Int) != (n2 : Int)) = true := by simp; omega
    have t2 : ¬ n = n2 := hlen
    go_enter Try.func44, Try.ntmps44
    go_wp2
    go_ret
    exact ⟨rfl, 0, rfl⟩
theorem same_yes {a b : Value} {l : List Sp} {w : World} (ha : Sps w a l) (hb : Sps w b l) :
    Calls Try.prog 44 #[a, b] w fun e w' => e = .returned (.bool true) ∧ Below w.heap.size w w' :=
  (same_yes_drawn ha hb).mono fun _ _ ⟨he, m, hm⟩ => ⟨he, by rw [hm]; exact below_draw (Below.refl _ _) m⟩
theorem same_no {a b : Value} {l m : List Sp} {w : World} (ha : Sps w a l) (hb : Sps w b m) (hlm : l ≠ m) :
    Calls Try.prog 44 #[a, b] w fun e w' => e = .returned (.bool false) ∧ Below w.heap.size w w' :=
  (same_no_drawn ha hb hlm).mono fun _ _ ⟨he, m, hm⟩ => ⟨he, by rw [hm]; exact below_draw (Below.refl _ _) m⟩
theorem refSame_drawn {a b : Value} {l m : List Sp} {w : World} (ha : Sps w a l) (hb : Sps w b m) :
    Calls Try.prog 44 #[a, b] w fun e w' => e = .returned (.bool (decide (l = m))) ∧ ∃ k, w' = w.drewN k := by
  by_cases h : l = m
  · subst h
    rw [decide_eq_true rfl]
    exact same_yes_drawn ha hb
  · rw [decide_eq_false h]
    exact same_no_drawn ha hb h
theorem refSame_any {a b : Value} {l m : List Sp} {w : World} (ha : Sps w a l) (hb : Sps w b m) :
    Calls Try.prog 44 #[a, b] w fun e w' => e = .returned (.bool (decide (l = m))) ∧ Below w.heap.size w w' := by
  by_cases h : l = m
  · subst h
    rw [decide_eq_true rfl]
    exact same_yes ha hb
  · rw [decide_eq_false h]
    exact same_no ha hb h

set_option maxHeartbeats 1000000 in
theorem refIn_any {v : Value} {l : List Sp} (t : Nat) {w : World} (hv : Sps w v l) :
    Calls Try.prog 107 #[v, .int .u32 (t : Int)] w fun e w' => e = .returned (.bool (inB l t)) ∧ w = w' := by
  obtain ⟨ao, cap, rfl⟩ := hv.shape
  obtain ⟨n, hn⟩ : ∃ n, n = l.length := ⟨_, rfl⟩
  have hm : n ≤ 9223372036854775807 := by rw [hn]; exact Sees.max hv
  have HV := Lib.hid hv
  have HN := Lib.hid hn
  obtain ⟨b0, hb0⟩ : ∃ b, inB l t = b := ⟨_, rfl⟩
  have HB := Lib.hid hb0
  rw [← hn, hb0]
  clear hv hn hb0
  go_enter Try.func107, Try.ntmps107
  go_wp2
  go_loop [5] (fun i => ∃ k : Nat, k ≤ n ∧ i = .int .i64 (k : Int) ∧ Hid (inB (l.take k) t = false)) (fun i => n - (intOf i).toNat)
  case atStart => exact ⟨0, by omega, rfl, Lib.hid rfl⟩
  case round =>
    obtain ⟨k, hk, rfl, hno⟩ := hrel
    by_cases hkn : k < n
    · have q1 : decide (k < n) = true := by simpa using hkn
      obtain ⟨b1, o1, rfl, hb1, ha0, ha1⟩ := HV.out.at k (by rw [← HN.out]; exact hkn)
      have hs := take_snoc l k (by rw [← HN.out]; exact hkn)
      obtain ⟨x, hx⟩ : ∃ x, x = l.getD k zsp := ⟨_, rfl⟩
      rw [← hx] at ha0 ha1 hs
      have hsn := inB_snoc (l.take k) x t
      rw [← hs, hno.out, Bool.false_or] at hsn
      have hin : x.f ≤ t ∧ t ≤ x.t → b0 = true := fun h => by
        rw [← HB.out]
        exact (inB_iff l t).2 ⟨x, by rw [hx, List.getD, List.getElem?_eq_getElem (by rw [← HN.out]; exact hkn)]; exact List.getElem_mem _, h.1, h.2⟩
      have HIn := Lib.hid hin
      have HSn := Lib.hid hsn
      obtain ⟨xf, xt, _, _⟩ := x
      simp only at ha0 ha1 HIn HSn
      have q2 : (0 : Int) ≤ (k : Int) := by omega
      have q3 : (k : Int) < (n : Int) := by omega
      clear hx hs hsn hin
      by_cases h1 : xf ≤ t
      · have s1 : decide ((xf : Int) ≤ (t : Int)) = true := decide_eq_true (by omega)
        have s2 : decide (xf ≤ t) = true := decide_eq_true h1
        by_cases h2 : t ≤ xt
        · have s3 : decide ((t : Int) ≤ (xt : Int)) = true := decide_eq_true (by omega)
          have s4 : decide (t ≤ xt) = true := decide_eq_true h2
          obtain rfl : b0 = true := HIn.out ⟨h1, h2⟩
          go_wp2
          go_ret
          exact ⟨rfl, rfl⟩
        · have s3 : decide ((t : Int) ≤ (xt : Int)) = false := decide_eq_false (by omega)
          have s4 : decide (t ≤ xt) = false := decide_eq_false h2
          have HNo : Hid (inB (l.take (k + 1)) t = false) := by show _ = _; rw [HSn.out]; exact decide_eq_false (by omega)
          go_wp2
          go_round
          case rel => exact ⟨k + 1, by omega, by go_num, HNo⟩
          case measure => simp [intOf]; omega
      · have s1 : decide ((xf : Int) ≤ (t : Int)) = false := decide_eq_false (by omega)
        have s2 : decide (xf ≤ t) = false := decide_eq_false h1
        have HNo : Hid (inB (l.take (k + 1)) t = false) := by show _ = _; rw [HSn.out]; exact decide_eq_false (by omega)
        go_wp2
        go_round
        case rel => exact ⟨k + 1, by omega, by go_num, HNo⟩
        case measure => simp [intOf]; omega
    · have q1 : decide (k < n) = false := by simpa using hkn
      have hkk : l.take k = l := List.take_of_length_le (by have := HN.out; omega)
      have hf : b0 = false := by rw [← HB.out, ← hkk]; exact hno.out
      subst hf
      clear hkk
      go_wp2
      go_ret
      exact ⟨rfl, rfl⟩
end Go.Proofs.Ytocjkegkgnbboaa.Spans

/- octavoref07: Many, May, Check, Has, Count, told: what each answers. Conditions: the slices' cells are spans. -/
namespace Go.Proofs.Ytocjkegkgnbboaa.Spans
open Go.RowKit
attribute [local go_sem ↓] Go.wp_at_zero Go.wp_at_succ

set_option maxRecDepth 100000 in
set_option maxHeartbeats 4000000 in
theorem refMay_drawn {v : Value} {l : List Sp} {w : World} (hv : Sps w v l) :
    Calls Try.prog 90 #[v] w fun e w' => e = .returned (.bool (mayB l)) ∧ ∃ m, w' = w.drewN m := by
  obtain ⟨ao, cap, rfl⟩ := hv.shape
  obtain ⟨n, hn⟩ : ∃ n, n = l.length := ⟨_, rfl⟩
  have hm : n ≤ 9223372036854775807 := by rw [hn]; exact Sees.max hv
  have HV := Lib.hid hv
  have HN := Lib.hid hn
  rw [← hn]
  clear hv hn
  go_enter Try.func90, Try.ntmps90
  go_wp2
  go_loopw [3] (fun i wr => ∃ k : Nat, k ≤ n ∧ i = .int .i64 (k : Int) ∧ Hid (Fine (l.take k)) ∧ ∃ q, wr = w.drewN q) (fun i _ => n - (intOf i).toNat)
  case atStart => exact ⟨0, by omega, rfl, Lib.hid (by simp [Fine]), 0, rfl⟩
  case round =>
    obtain ⟨k, hk, rfl, hch, q, rfl⟩ := hrel
    by_cases hkn : k < n
    · have q1 : decide (k < n) = true := by simpa using hkn
      have q2 : (0 : Int) ≤ (k : Int) := by omega
      have q3 : (k : Int) < (n : Int) := by omega
      obtain ⟨b1, o1, rfl, hb1, ha0, ha1⟩ := HV.out.at k (by rw [← HN.out]; exact hkn)
      obtain ⟨x, hx⟩ : ∃ x, x = l.getD k zsp := ⟨_, rfl⟩
      rw [← hx] at ha0 ha1
      have hno1 : ¬ Ok x → mayB l = false := fun h => mayB_no (fun hF => h (by rw [hx]; exact fine_ok hF (by rw [← HN.out]; exact hkn)))
      have HNo1 := Lib.hid hno1
      have HX := Lib.hid hx
      obtain ⟨xf, xt, hxf, hxt⟩ := x
      simp only at ha0 ha1
      clear hno1 hx
      by_cases h1 : xf < 1
      · have s1 : decide ((xf : Int) < 1) = true := decide_eq_true (by omega)
        have HR : Hid (mayB l = false) := HNo1.out (fun h => by unfold Ok at h; simp only at h; omega)
        obtain rfl : xf = 0 := by omega
        go_wp2
        go_quiet (fail)
        go_wp2
        go_ret
        exact ⟨by rw [HR.out]; rfl, _, by rw [World.drewN_drewN]⟩
      have s1 : decide ((xf : Int) < 1) = false := decide_eq_false (by omega)
      have s1' : ¬ xf = 0 := by omega
      by_cases h2 : xt < xf
      · have s2 : decide ((xt : Int) < (xf : Int)) = true := decide_eq_true (by omega)
        have s3 : decide (xt < xf) = true := decide_eq_true h2
        have HR : Hid (mayB l = false) := HNo1.out (fun h => by unfold Ok at h; simp only at h; omega)
        go_wp2
        go_quiet (fail)
        go_wp2
        go_ret
        exact ⟨by rw [HR.out]; rfl, _, by rw [World.drewN_drewN]⟩
      have s2 : decide ((xt : Int) < (xf : Int)) = false := decide_eq_false (by omega)
      have s3 : decide (xt < xf) = false := decide_eq_false h2
      by_cases h3 : 1073741824 < xt
      · have s4 : decide ((1073741824 : Int) < (xt : Int)) = true := decide_eq_true (by omega)
        have s5 : decide (1073741824 < xt) = true := decide_eq_true h3
        have HR : Hid (mayB l = false) := HNo1.out (fun h => by unfold Ok at h; simp only at h; omega)
        go_wp2
        go_quiet (fail)
        go_wp2
        go_ret
        exact ⟨by rw [HR.out]; rfl, _, by rw [World.drewN_drewN]⟩
      have s4 : decide ((1073741824 : Int) < (xt : Int)) = false := decide_eq_false (by omega)
      have s5 : decide (1073741824 < xt) = false := decide_eq_false h3
      have hOk : Ok (l.getD k zsp) := by rw [← HX.out]; unfold Ok; simp only; omega
      by_cases h0 : k = 0
      · have g1 : decide ((0 : Int) < (k : Int)) = false := decide_eq_false (by omega)
        have g2 : decide (0 < k) = false := decide_eq_false (by omega)
        have HC : Hid (Fine (l.take (k + 1))) := fine_take_succ (by rw [← HN.out]; exact hkn) hch.out hOk (.inl h0)
        clear h0 hOk
        go_wp2
        go_quiet (fail)
        go_wp2
        go_roundw
        case rel => exact ⟨k + 1, by omega, by go_num, HC, _, rfl⟩
        case measure => simp [intOf]; omega
      · obtain ⟨j, hj⟩ : ∃ j, k = j + 1 := ⟨k - 1, by omega⟩
        have g1 : decide ((0 : Int) < (k : Int)) = true := decide_eq_true (by omega)
        have g2 : decide (0 < k) = true := decide_eq_true (by omega)
        obtain ⟨b2, o2, he, hb2, hy0, hy1⟩ := HV.out.at j (by rw [← HN.out]; omega)
        obtain ⟨rfl, rfl⟩ : b1 = b2 ∧ o1 = o2 := by simpa using he
        obtain ⟨y, hy⟩ : ∃ y, y = l.getD j zsp := ⟨_, rfl⟩
        rw [← hy] at hy0 hy1
        have hyes : y.t + 2 ≤ xf → Fine (l.take (k + 1)) := fun h => by
          refine fine_take_succ (by rw [← HN.out]; exact hkn) hch.out hOk (.inr ?_)
          rw [show k - 1 = j by omega, ← hy, ← HX.out]
          exact h
        have hno : ¬ y.t + 2 ≤ xf → mayB l = false := fun h => mayB_no (fun hF => h (by
          have := fine_next hF (k := j) (by rw [← HN.out]; omega)
          rw [← hj, ← hy, ← HX.out] at this
          exact this))
        have HYes := Lib.hid hyes
        have HNo := Lib.hid hno
        obtain ⟨yf, yt, hyf, hyt⟩ := y
        simp only at hy0 hy1 HYes HNo
        have i1 : (k : Int) - 1 = (j : Int) := by omega
        have i2 : IntKind.i64.wrap (j : Int) = (j : Int) := IntWalk.i64_in _ (by omega)
        have i3 : (0 : Int) ≤ (j : Int) := by omega
        have i4 : (j : Int) < (n : Int) := by omega
        have e1 : IntKind.i64.wrap (xf : Int) = (xf : Int) := IntWalk.i64_in _ (by omega)
        have e2 : IntKind.i64.wrap (yt : Int) = (yt : Int) := IntWalk.i64_in _ (by omega)
        have e3 : IntKind.i64.wrap ((yt : Int) + 2) = (yt : Int) + 2 := IntWalk.i64_in _ (by omega)
        clear h0 hOk hj he hy hyes hno
        by_cases h5 : xf < yt + 2
        · have s6 : decide ((xf : Int) < (yt : Int) + 2) = true := decide_eq_true (by omega)
          have HR : Hid (mayB l = false) := HNo.out (by omega)
          clear HYes HNo
          go_wp2
          go_quiet (fail)
          go_wp2
          go_ret
          exact ⟨by rw [HR.out]; rfl, _, by rw [World.drewN_drewN]⟩
        · have s6 : decide ((xf : Int) < (yt : Int) + 2) = false := decide_eq_false (by omega)
          have HC : Hid (Fine (l.take (k + 1))) := HYes.out (by omega)
          clear HYes HNo
          go_wp2
          go_quiet (fail)
          go_wp2
          go_roundw
          case rel => exact ⟨k + 1, by omega, by go_num, HC, _, rfl⟩
          case measure => simp [intOf]; omega
    · have q1 : decide (k < n) = false := by simpa using hkn
      have hkk : l.take k = l := List.take_of_length_le (by have := HN.out; omega)
      have hF : fineB l = true := (fineB_iff l).2 (by have := hch.out; rwa [hkk] at this)
      obtain ⟨qb, hqb⟩ : ∃ qb, decide (n ≤ 1024) = qb := ⟨_, rfl⟩
      have HR : Hid (mayB l = qb) := by show _ = _; unfold mayB; rw [hF, ← HN.out, hqb]; rfl
      have t1 : decide ((n : Int) ≤ 1024) = qb := by rw [← hqb, decide_eq_decide]; omega
      clear hkk hF
      cases qb
      · go_wp2
        go_ret
        exact ⟨by rw [HR.out]; rfl, _, rfl⟩
      · go_wp2
        go_ret
        exact ⟨by rw [HR.out]; rfl, _, rfl⟩
theorem refMay_any {v : Value} {l : List Sp} {w : World} (hv : Sps w v l) :
    Calls Try.prog 90 #[v] w fun e w' => e = .returned (.bool (mayB l)) ∧ Below w.heap.size w w' :=
  (refMay_drawn hv).mono fun _ _ ⟨he, m, hm⟩ => ⟨he, by rw [hm]; exact below_draw (Below.refl _ _) m⟩
theorem refMay_is {v : Value} {l : List Sp} {w : World} (hv : Sps w v l) {b : Bool} (h : mayB l = b) :
    Calls Try.prog 90 #[v] w fun e w' => e = .returned (.bool b) ∧ Below w.heap.size w w' := by
  rw [← h]; exact refMay_any hv

def chk (l : List Sp) : Int := if mayB l = true then 0 else 8
def has (l : List Sp) (t : Nat) : Bool := mayB l && inB l t
def count (l : List Sp) : Nat := if mayB l = true then many l else 0
end Go.Proofs.Ytocjkegkgnbboaa.Spans

/- octavoref08: May, Check, Spans, In, Has, Many, Count, Top: what each answers. Conditions: the slices' cells are replicas' spans. -/
namespace Go.Proofs.Ytocjkegkgnbboaa.Clocks
open Go.RowKit Go.Proofs.Ytocjkegkgnbboaa.Spans
attribute [local go_sem ↓] Go.wp_at_zero Go.wp_at_succ

theorem drawn_below {w w' : World} (h : ∃ m, w' = w.drewN m) : Below w.heap.size w w' := by
  obtain ⟨m, rfl⟩ := h
  exact below_draw (Below.refl _ _) m
set_option maxRecDepth 100000 in
set_option maxHeartbeats 2000000 in
theorem refMayC_drawn {v : Value} {c : List Tm} {w : World} (hv : Tms w v c) :
    Calls Try.prog 52 #[v] w fun e w' => e = .returned (.bool (mayC c)) ∧ ∃ m, w' = w.drewN m := by
  obtain ⟨ao, cap, rfl⟩ := hv.shape
  obtain ⟨n, hn⟩ : ∃ n, n = c.length := ⟨_, rfl⟩
  have hm : n ≤ 9223372036854775807 := by rw [hn]; exact Tms.max hv
  have HV := Lib.hid hv
  have HN := Lib.hid hn
  obtain ⟨R, hR⟩ : ∃ R, R = mayC c := ⟨_, rfl⟩
  have HNo : Hid (¬ Cok c → R = false) := fun h => by rw [hR]; exact mayC_no h
  have HYes : Hid (Cok c → R = true) := fun h => by rw [hR]; exact (mayC_iff c).2 h
  rw [← hn, ← hR]
  clear hv hn hR
  go_enter Try.func52, Try.ntmps52
  go_wp2
  go_loopw [3] (fun i wr => ∃ k : Nat, k ≤ n ∧ i = .int .i64 (k : Int) ∧ Hid (Up 0 (c.take k)) ∧ ∃ q, wr = w.drewN q) (fun i _ => n - (intOf i).toNat)
  case atStart => exact ⟨0, by omega, rfl, Lib.hid trivial, 0, rfl⟩
  case round =>
    obtain ⟨k, hk, rfl, hch, q, rfl⟩ := hrel
    by_cases hkn : k < n
    · have q1 : decide (k < n) = true := by simpa using hkn
      have q2 : (0 : Int) ≤ (k : Int) := by omega
      have q3 : (k : Int) < (n : Int) := by omega
      have hkl : k < c.length := by rw [← HN.out]; exact hkn
      obtain ⟨b1, o1, u, rfl, hb1, ha0, ha1, hr256, hsp⟩ := HV.out.at k hkl
      obtain ⟨x, hx⟩ : ∃ x, x = c.getD k ztm := ⟨_, rfl⟩
      have hx' : c.getD k (0, []) = x := hx.symm
      rw [hx'] at ha0 hr256 hsp
      have hno : ¬ (x.1 < 8 ∧ x.2 ≠ [] ∧ mayB x.2 = true) → R = false := fun h => HNo.out (fun hc => h (by
        have := up_all hc (c.getD k ztm) (tm_mem hkl)
        rw [← hx] at this
        exact this.2))
      have hyes : x.1 < 8 → x.2 ≠ [] → mayB x.2 = true → (k = 0 ∨ (c.getD (k - 1) ztm).1 < x.1) → Up 0 (c.take (k + 1)) := fun h1 h2 h3 h4 =>
        up_take_succ hkl hch.out (by rw [← hx]; exact h1) (by rw [← hx]; exact h2) (by rw [← hx]; exact h3) (by rw [← hx]; exact h4)
      have hnx : ∀ j, k = j + 1 → ¬ (c.getD j ztm).1 < x.1 → R = false := fun j hj h => HNo.out (fun hc => h (by
        have := up_next hc (k := j) (by rw [← hj]; exact hkl)
        rw [← hj, ← hx] at this
        exact this))
      have HNo2 := Lib.hid hno
      have HYes2 := Lib.hid hyes
      have HNx := Lib.hid hnx
      obtain ⟨so, sc, rfl⟩ := hsp.shape
      obtain ⟨xr, xs⟩ := x
      simp only at ha0 ha1 hr256 hsp HNo2 HYes2 HNx
      obtain ⟨sl, hsl⟩ : ∃ sl, sl = xs.length := ⟨_, rfl⟩
      rw [← hsl] at ha1 hsp
      have HSL := Lib.hid hsl
      have HSP := Lib.hid hsp
      clear hx hx' hno hyes hnx hsp hsl
      by_cases h1 : 8 ≤ xr
      · have s1 : decide ((8 : Int) ≤ (xr : Int)) = true := decide_eq_true (by omega)
        have s2 : decide (8 ≤ xr) = true := decide_eq_true h1
        obtain rfl : R = false := HNo2.out (by omega)
        go_wp2
        go_quiet (fail)
        go_wp2
        go_ret
        exact ⟨rfl, _, by rw [World.drewN_drewN]⟩
      have s1 : decide ((8 : Int) ≤ (xr : Int)) = false := decide_eq_false (by omega)
      have s2 : decide (8 ≤ xr) = false := decide_eq_false h1
      obtain ⟨mb, hmb⟩ : ∃ mb, mayB xs = mb := ⟨_, rfl⟩
      have MD2 : Hid (∀ a, Calls Try.prog 90 #[.slice so sl sc] (w.drewN (q + a)) fun e w' => e = .returned (.bool mb) ∧ ∃ m, w' = w.drewN (q + m)) := fun a => by
        rw [← hmb]
        refine (refMay_drawn (HSP.out.keeps (below_draw (Below.refl _ _) (q + a)))).mono ?_
        rintro e w' ⟨he, m, hm⟩
        exact ⟨he, a + m, by rw [hm, World.drewN_drewN, Nat.add_assoc]⟩
      have HMB := Lib.hid hmb
      clear hmb
      have hzero : k = 0 ∨ ∃ j, k = j + 1 := by
        cases k with
        | zero => exact .inl rfl
        | succ j => exact .inr ⟨j, rfl⟩
      rcases hzero with h0 | ⟨j, hj⟩
      · have g1 : decide ((0 : Int) < (k : Int)) = false := decide_eq_false (by omega)
        have g2 : decide (0 < k) = false := decide_eq_false (by omega)
        by_cases hs0 : sl < 1
        · have s3 : decide ((sl : Int) < 1) = true := decide_eq_true (by omega)
          have s4 : ¬ 1 ≤ sl := by omega
          obtain rfl : R = false := HNo2.out (fun h => h.2.1 (List.length_eq_zero_iff.1 (by have := HSL.out; omega)))
          obtain rfl : sl = 0 := by omega
          clear h0
          go_wp2
          go_quiet (fail)
          go_wp2
          go_ret
          exact ⟨rfl, _, by rw [World.drewN_drewN]⟩
        have s3 : decide ((sl : Int) < 1) = false := decide_eq_false (by omega)
        have s4 : ¬ sl = 0 := by omega
        cases mb
        · obtain rfl : R = false := HNo2.out (fun h => by rw [HMB.out] at h; cases h.2.2)
          clear h0
          go_wp2
          go_quiet ((go_at_call 90; exact MD2.out _))
          go_wp2
          go_ret
          exact ⟨rfl, _, by rw [World.drewN_drewN]⟩
        · have HC : Hid (Up 0 (c.take (k + 1))) := HYes2.out (by omega) (fun h => s4 (by rw [HSL.out, h]; rfl)) HMB.out (.inl h0)
          clear h0
          go_wp2
          go_quiet ((go_at_call 90; exact MD2.out _))
          go_wp2
          go_roundw
          case rel => exact ⟨k + 1, by omega, by go_num, HC, _, rfl⟩
          case measure => simp [intOf]; omega
      · have g1 : decide ((0 : Int) < (k : Int)) = true := decide_eq_true (by omega)
        have g2 : decide (0 < k) = true := decide_eq_true (by omega)
        have i1 : (k : Int) - 1 = (j : Int) := by omega
        have i2 : IntKind.i64.wrap (j : Int) = (j : Int) := IntWalk.i64_in _ (by omega)
        have i3 : (0 : Int) ≤ (j : Int) := by omega
        have i4 : (j : Int) < (n : Int) := by omega
        obtain ⟨b2, o2, u2, he, hb2, hy0, hy1, hy256, hysp⟩ := HV.out.at j (by rw [← HN.out]; omega)
        obtain ⟨rfl, rfl⟩ : b1 = b2 ∧ o1 = o2 := by simpa using he
        obtain ⟨yr, hyr⟩ : ∃ yr, yr = (c.getD j ztm).1 := ⟨_, rfl⟩
        have hyr' : (c.getD j (0, [])).1 = yr := hyr.symm
        rw [hyr'] at hy0
        have HY1 : Hid (¬ yr < xr → R = false) := fun h => HNx.out j hj (by rw [← hyr]; exact h)
        have HY2 : Hid (xs ≠ [] → mb = true → yr < xr → Up 0 (c.take (k + 1))) := fun h1 h2 h3 => HYes2.out (by omega) h1 (HMB.out.trans h2) (.inr (by rw [show k - 1 = j by omega, ← hyr]; exact h3))
        clear hyr hyr' he hy1 hy256 hysp HNx HYes2 hj
        by_cases h2 : xr ≤ yr
        · have s5 : decide ((xr : Int) ≤ (yr : Int)) = true := decide_eq_true (by omega)
          have s6 : decide (xr ≤ yr) = true := decide_eq_true h2
          obtain rfl : R = false := HY1.out (by omega)
          go_wp2
          go_quiet (fail)
          go_wp2
          go_ret
          exact ⟨rfl, _, by rw [World.drewN_drewN]⟩
        have s5 : decide ((xr : Int) ≤ (yr : Int)) = false := decide_eq_false (by omega)
        have s6 : decide (xr ≤ yr) = false := decide_eq_false h2
        by_cases hs0 : sl < 1
        · have s3 : decide ((sl : Int) < 1) = true := decide_eq_true (by omega)
          obtain rfl : R = false := HNo2.out (fun h => h.2.1 (List.length_eq_zero_iff.1 (by have := HSL.out; omega)))
          obtain rfl : sl = 0 := by omega
          go_wp2
          go_quiet (fail)
          go_wp2
          go_ret
          exact ⟨rfl, _, by rw [World.drewN_drewN]⟩
        have s3 : decide ((sl : Int) < 1) = false := decide_eq_false (by omega)
        have s4 : ¬ sl = 0 := by omega
        cases mb
        · obtain rfl : R = false := HNo2.out (fun h => by rw [HMB.out] at h; cases h.2.2)
          go_wp2
          go_quiet ((go_at_call 90; exact MD2.out _))
          go_wp2
          go_ret
          exact ⟨rfl, _, by rw [World.drewN_drewN]⟩
        · have HC : Hid (Up 0 (c.take (k + 1))) := HY2.out (fun h => s4 (by rw [HSL.out, h]; rfl)) rfl (by omega)
          go_wp2
          go_quiet ((go_at_call 90; exact MD2.out _))
          go_wp2
          go_roundw
          case rel => exact ⟨k + 1, by omega, by go_num, HC, _, rfl⟩
          case measure => simp [intOf]; omega
    · have q1 : decide (k < n) = false := by simpa using hkn
      have hkk : c.take k = c := List.take_of_length_le (by have := HN.out; omega)
      obtain rfl : R = true := HYes.out (by have := hch.out; rwa [hkk] at this)
      clear hkk
      go_wp2
      go_ret
      exact ⟨rfl, _, rfl⟩
theorem refMayC_any {v : Value} {c : List Tm} {w : World} (hv : Tms w v c) :
    Calls Try.prog 52 #[v] w fun e w' => e = .returned (.bool (mayC c)) ∧ Below w.heap.size w w' :=
  (refMayC_drawn hv).mono fun _ _ ⟨he, hm⟩ => ⟨he, drawn_below hm⟩
end Go.Proofs.Ytocjkegkgnbboaa.Clocks

/- octavoref08: Check, Spans, In, Has, Many, Count, Top: what each answers. Conditions: the slices' cells are replicas' spans. -/
namespace Go.Proofs.Ytocjkegkgnbboaa.Clocks
open Go.RowKit Go.Proofs.Ytocjkegkgnbboaa.Spans
attribute [local go_sem ↓] Go.wp_at_zero Go.wp_at_succ

/-- The first one of a replica, or none. -/
theorem spn_find (c : List Tm) (r : Nat) : (∃ k, k < c.length ∧ (∀ j, j < k → (c.getD j ztm).1 ≠ r) ∧ (c.getD k ztm).1 = r) ∨ ∀ j, j < c.length → (c.getD j ztm).1 ≠ r := by
  have go : ∀ n, n ≤ c.length → (∃ k, k < n ∧ (∀ j, j < k → (c.getD j ztm).1 ≠ r) ∧ (c.getD k ztm).1 = r) ∨ ∀ j, j < n → (c.getD j ztm).1 ≠ r := by
    intro n
    induction n with
    | zero => intro _; exact .inr (fun j hj => by omega)
    | succ n ih =>
      intro h
      rcases ih (by omega) with ⟨k, h1, h2, h3⟩ | h1
      · exact .inl ⟨k, by omega, h2, h3⟩
      · by_cases q : (c.getD n ztm).1 = r
        · exact .inl ⟨n, by omega, h1, q⟩
        · refine .inr (fun j hj => ?_)
          by_cases e : j = n
          · rw [e]; exact q
          · exact h1 j (by omega)
  exact go c.length (Nat.le_refl _)

set_option maxRecDepth 100000 in
set_option maxHeartbeats 1000000 in
theorem refSpans_at {v : Value} {c : List Tm} {w : World} (hv : Tms w v c) (r : Nat) :
    ∃ u, Sps w u (spn c r) ∧ ∀ W, Below w.heap.size w W → Calls Try.prog 108 #[v, .int .u8 (r : Int)] W fun e w' => e = .returned u ∧ w' = W := by
  obtain ⟨ao, cap, rfl⟩ := hv.shape
  rcases spn_find c r with ⟨K, hK, hmin, hr⟩ | hmiss
  · obtain ⟨b1, o1, u, rfl, hb1, ha0, ha1, _, hsp⟩ := hv.at K hK
    refine ⟨u, by rw [spn_hit hmin hK hr]; exact hsp, fun W hW => ?_⟩
    have hW1 := (hW.cell (p := ⟨b1, o1 + K * 2 + 1, none⟩) hb1).trans ha1
    obtain ⟨so, sc, rfl⟩ := hsp.shape
    have HV := Lib.hid (hv.keeps hW)
    obtain ⟨n, hn⟩ : ∃ n, n = c.length := ⟨_, rfl⟩
    have hm : n ≤ 9223372036854775807 := by rw [hn]; exact Tms.max hv
    have HN := Lib.hid hn
    have HMin := Lib.hid hmin
    have HR := Lib.hid hr
    obtain ⟨sl, hsl⟩ : ∃ sl, sl = (c.getD K (0, [])).2.length := ⟨_, rfl⟩
    rw [← hsl] at hW1 ⊢
    rw [← hn] at hK ⊢
    clear hv hn hW ha0 ha1 hsp hmin hr hsl
    go_enter Try.func108, Try.ntmps108
    go_wp2
    go_loop [5] (fun i => ∃ k : Nat, k ≤ n ∧ i = .int .i64 (k : Int) ∧ Hid (∀ j, j < k → (c.getD j ztm).1 ≠ r)) (fun i => n - (intOf i).toNat)
    case atStart => exact ⟨0, by omega, rfl, Lib.hid (fun j hj => by omega)⟩
    case round =>
      obtain ⟨k, hk, rfl, hno⟩ := hrel
      have hkK : k ≤ K := by
        by_cases q : k ≤ K
        · exact q
        · exact absurd HR.out (hno.out K (by omega))
      have hkn : k < n := by omega
      have q1 : decide (k < n) = true := by simpa using hkn
      have q2 : (0 : Int) ≤ (k : Int) := by omega
      have q3 : (k : Int) < (n : Int) := by omega
      obtain ⟨b2, o2, u2, he, -, hx0, -, -, -⟩ := HV.out.at k (by rw [← HN.out]; exact hkn)
      obtain ⟨rfl, rfl⟩ : b1 = b2 ∧ o1 = o2 := by simpa using he
      obtain ⟨x, hx⟩ : ∃ x, x = (c.getD k ztm).1 := ⟨_, rfl⟩
      have hx' : (c.getD k (0, [])).1 = x := hx.symm
      rw [hx'] at hx0
      by_cases e : x = r
      · obtain rfl : k = K := by
          by_cases q : k = K
          · exact q
          · exact absurd (hx.symm.trans e) (HMin.out k (by omega))
        subst e
        clear hx hx' he hkK
        have t1 : ((x : Int) == (x : Int)) = true := by simp
        go_wp2
        go_ret
        exact ⟨rfl, rfl⟩
      · have t1 : ((x : Int) == (r : Int)) = false := by rw [beq_eq_false_iff_ne]; omega
        have t2 : decide (x = r) = false := decide_eq_false e
        have HNo : Hid (∀ j, j < k + 1 → (c.getD j ztm).1 ≠ r) := fun j hj => by
          by_cases q : j = k
          · rw [q, ← hx]; exact e
          · exact hno.out j (by omega)
        clear hx hx' he hkK
        go_wp2
        go_round
        case rel => exact ⟨k + 1, by omega, by go_num, HNo⟩
        case measure => simp [intOf]; omega
  · refine ⟨.slice none 0 0, by rw [spn_miss hmiss]; exact Sps.nil w, fun W hW => ?_⟩
    have HV := Lib.hid (hv.keeps hW)
    obtain ⟨n, hn⟩ : ∃ n, n = c.length := ⟨_, rfl⟩
    have hm : n ≤ 9223372036854775807 := by rw [hn]; exact Tms.max hv
    have HN := Lib.hid hn
    have HMiss := Lib.hid hmiss
    rw [← hn]
    clear hv hn hW hmiss
    go_enter Try.func108, Try.ntmps108
    go_wp2
    go_loop [5] (fun i => ∃ k : Nat, k ≤ n ∧ i = .int .i64 (k : Int)) (fun i => n - (intOf i).toNat)
    case atStart => exact ⟨0, by omega, rfl⟩
    case round =>
      obtain ⟨k, hk, rfl⟩ := hrel
      by_cases hkn : k < n
      · have q1 : decide (k < n) = true := by simpa using hkn
        have q2 : (0 : Int) ≤ (k : Int) := by omega
        have q3 : (k : Int) < (n : Int) := by omega
        obtain ⟨b1, o1, u2, rfl, _, hx0, _, _, _⟩ := HV.out.at k (by rw [← HN.out]; exact hkn)
        have e := HMiss.out k (by rw [← HN.out]; exact hkn)
        obtain ⟨x, hx⟩ : ∃ x, x = (c.getD k ztm).1 := ⟨_, rfl⟩
        have hx' : (c.getD k (0, [])).1 = x := hx.symm
        rw [hx'] at hx0
        rw [← hx] at e
        have t1 : ((x : Int) == (r : Int)) = false := by rw [beq_eq_false_iff_ne]; omega
        have t2 : decide (x = r) = false := decide_eq_false e
        clear hx hx'
        go_wp2
        go_round
        case rel => exact ⟨k + 1, by omega, by go_num⟩
        case measure => simp [intOf]; omega
      · have q1 : decide (k < n) = false := by simpa using hkn
        go_wp2
        go_ret
        exact ⟨rfl, rfl⟩

set_option maxHeartbeats 1000000 in
theorem refInC_any {v : Value} {c : List Tm} (a : Id) {w : World} (hv : Tms w v c) :
    Calls Try.prog 91 #[v, .agg #[.int .u32 (a.t : Int), .int .u8 (a.r : Int)]] w fun e w' => e = .returned (.bool (inB (spn c a.r) a.t)) ∧ Below w.heap.size w w' := by
  obtain ⟨u, hu, hc⟩ := refSpans_at hv a.r
  obtain ⟨t, r, ht, hr⟩ := a
  simp only at hu hc ⊢
  obtain ⟨X, hX⟩ : ∃ X, X = w.alloc (.cells #[.int .u32 (t : Int), .int .u8 (r : Int)] 27) := ⟨_, rfl⟩
  have BX : Hid (Below w.heap.size w X) := by rw [hX]; exact (Below.refl _ _).alloc (Nat.le_refl _) _
  have CS : Hid (∀ n, Calls Try.prog 108 #[v, .int .u8 (r : Int)] (X.drewN n) fun e w' => e = .returned u ∧ w' = X.drewN n) := fun n => hc _ (below_draw BX.out n)
  have CI : Hid (∀ n, Calls Try.prog 107 #[u, .int .u32 (t : Int)] (X.drewN n) fun e w' => e = .returned (.bool (inB (spn c r) t)) ∧ w' = X.drewN n) := fun n =>
    (refIn_any t (hu.keeps (below_draw BX.out n))).mono fun _ _ ⟨h1, h2⟩ => ⟨h1, h2.symm⟩
  obtain ⟨q, hq⟩ : ∃ q, inB (spn c r) t = q := ⟨_, rfl⟩
  rw [hq] at CI ⊢
  obtain ⟨so, sc, rfl⟩ := hu.shape
  rw [hX] at CS CI BX
  clear hu hc hX hv hq
  go_enter Try.func91, Try.ntmps91
  go_wp2
  go_quiet (first | (go_at_call 108; exact Calls.quiet_of_same (CS.out _)) | (go_at_call 107; exact Calls.quiet_of_same (CI.out _)))
  go_wp2
  go_ret
  exact ⟨rfl, below_draw BX.out _⟩
end Go.Proofs.Ytocjkegkgnbboaa.Clocks

/- octavoref07.Without: what it answers. Conditions: the slice's cells are spans that may be. -/
namespace Go.Proofs.Ytocjkegkgnbboaa.Spans
open Go.RowKit
attribute [local go_sem ↓] Go.wp_at_zero Go.wp_at_succ

theorem two_blk {X : World} {g : Nat} {c0 c1 : Value} {e : TypeId} {fr : Nat × Nat} (h : X.heap[g]? = some (.cells #[c0, c1] e fr)) : X.cell? ⟨g, 0, none⟩ = some c0 ∧ X.cell? ⟨g, 1, none⟩ = some c1 :=
  ⟨cell_of_row _ g 0 #[c0, c1] e _ h, cell_of_row _ g 1 #[c0, c1] e _ h⟩
theorem two_free {X : World} {g : Nat} {c0 c1 : Value} {e : TypeId} (h : X.heap[g]? = some (.cells #[c0, c1] e)) : X.frozen? ⟨g, 0, none⟩ = false ∧ X.frozen? ⟨g, 1, none⟩ = false := by
  constructor <;> simp [World.frozen?, h]
theorem sees_sp {X : World} {g : Nat} {a : Sp} {F T : Int} {e : TypeId} (h : X.heap[g]? = some (.cells #[.int .u32 F, .int .u32 T] e)) (hF : F = (a.f : Int)) (hT : T = (a.t : Int)) : Sees X (.slice (some ⟨g, 0, none⟩) 1 1) 2 1 (sps [a]) := by
  subst hF hT
  refine ⟨rfl, _, _, rfl, Nat.le_refl _, by decide, by simp, .inr ⟨g, 0, rfl, (Array.getElem?_eq_some_iff.1 h).1, fun j u hj => ?_⟩⟩
  rw [cell_of_row X g (0 + j) _ e _ h, Nat.zero_add]
  simpa [sps] using hj
theorem own_base {w : World} {b b' : Nat} {e : TypeId} {v : Value} {sz n : Nat} {cs : List Value} (h : w.ownsRow b e sz v n cs) (hb : b' ≤ b) : w.ownsRow b' e sz v n cs :=
  ⟨h.1, h.2.imp_right fun ⟨g, c, cur, h1, h2, h3⟩ => ⟨g, c, cur, h1, Nat.le_trans hb h2, h3⟩⟩

theorem kb_new {X : World} {g : Nat} {o : Obj} (h : X.heap.size = g) : (X.alloc o).heap[g]? = some o := by
  subst h; exact heap_alloc_new X o
end Go.Proofs.Ytocjkegkgnbboaa.Spans
