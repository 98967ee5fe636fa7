/- octavo/span: Check, Count, Twin, Same: what each answers. Conditions: the slices' cells are spans. -/
import Derived.Shelf.Abstract
import Derived.RangeFuncBox
import Derived.RangeFuncLeaves
import Derived.Test.YtmgdbgloacbacaaPk04
import Derived.Test.YtmgdbgloacbacaaPk05

namespace Go.Proofs.Ytmgdbgloacbacaa.Spans
open Go.RowKit
attribute [local go_sem ↓] Go.wp_at_zero Go.wp_at_succ

theorem chk_no {l : List Sp} (h : ¬ (Fine l ∧ l.length ≤ 1024)) : chk l = 8 := by
  unfold chk
  rw [if_neg (fun hb => h ((mayB_iff l).1 hb))]
theorem chk_yes {l : List Sp} (h : Fine l ∧ l.length ≤ 1024) : chk l = 0 := by
  unfold chk
  rw [if_pos ((mayB_iff l).2 h)]
theorem chk_is {l : List Sp} : chk l = 0 ↔ mayB l = true := by
  unfold chk
  cases mayB l <;> simp

set_option maxRecDepth 100000 in
set_option maxHeartbeats 4000000 in
theorem pCheck_any {v : Value} {l : List Sp} {w : World} (hv : Sps w v l) :
    Calls Try.prog 37 #[v] w fun e w' => e = .returned (.int .i64 (chk l)) ∧ Below w.heap.size w w' := by
  obtain ⟨ao, cap, rfl⟩ := hv.shape
  obtain ⟨n, hn⟩ : ∃ n, n = l.length := ⟨_, rfl⟩
  have hm : n ≤ 9223372036854775807 := by rw [hn]; exact Sees.max hv
  have HV := Lib.hid hv
  have HN := Lib.hid hn
  have HBad := Lib.hid (chk_no (l := l))
  have HGood := Lib.hid (chk_yes (l := l))
  obtain ⟨c, hc⟩ : ∃ c, c = chk l := ⟨_, rfl⟩
  rw [← hc] at HBad HGood ⊢
  rw [← hn] at HBad HGood ⊢
  clear hv hn hc
  by_cases hbig : 1024 < n
  · have t1 : decide ((1024 : Int) < (n : Int)) = true := decide_eq_true (by omega)
    have t2 : decide (1024 < n) = true := decide_eq_true hbig
    obtain rfl : c = 8 := HBad.out (fun h => by omega)
    go_enter Try.func37, Try.ntmps37
    go_wp2
    go_ret
    exact ⟨rfl, Below.refl _ _⟩
  have t1 : decide ((1024 : Int) < (n : Int)) = false := decide_eq_false (by omega)
  have t2 : decide (1024 < n) = false := decide_eq_false hbig
  have B0 := Lib.hid (Below.refl w.heap.size w)
  go_enter Try.func37, Try.ntmps37
  go_wp2
  go_loopw [3, 11] (fun m i wr => ∃ k b : Nat, k ≤ n ∧ i = .int .i64 (k : Int) ∧ m = .int .u32 (b : Int) ∧ 1 ≤ b ∧ Hid ((k = 0 ∧ b = 1) ∨ ∃ j, k = j + 1 ∧ b = (l.getD j zsp).t + 2) ∧ Hid (Fine (l.take k)) ∧ Hid (Below w.heap.size w wr)) (fun _ i _ => n - (intOf i).toNat)
  case atStart => exact ⟨0, 1, by omega, rfl, rfl, by omega, Lib.hid (.inl ⟨rfl, rfl⟩), Lib.hid (by simp [Fine]), B0⟩
  case round =>
    obtain ⟨k, b, hk, rfl, rfl, hb1, hlast, hfin, hbel⟩ := hrel
    by_cases hkn : k < n
    · have q1 : decide (k < n) = true := by simpa using hkn
      have q2 : (0 : Int) ≤ (k : Int) := by omega
      have q3 : (k : Int) < (n : Int) := by omega
      obtain ⟨b1, o1, rfl, hb1', ha0, ha1⟩ := (HV.out.keeps hbel.out).at k (by rw [← HN.out]; exact hkn)
      obtain ⟨x, hx⟩ : ∃ x, x = l.getD k zsp := ⟨_, rfl⟩
      rw [← hx] at ha0 ha1
      have hno1 : ¬ Ok x → c = 8 := fun h => HBad.out (fun hF => h (by rw [hx]; exact fine_ok hF.1 (by rw [← HN.out]; exact hkn)))
      have hno2 : x.f < b → c = 8 := fun h => by
        rcases hlast.out with ⟨rfl, rfl⟩ | ⟨j, rfl, rfl⟩
        · exact hno1 (fun hok => by unfold Ok at hok; omega)
        · refine HBad.out (fun hF => ?_)
          have h3 := fine_next hF.1 (k := j) (by rw [← HN.out]; exact hkn)
          rw [← hx] at h3
          omega
      have hyes : Ok x → b ≤ x.f → Fine (l.take (k + 1)) := fun h1 h2 => by
        refine fine_take_succ (by rw [← HN.out]; exact hkn) hfin.out (by rw [← hx]; exact h1) ?_
        rcases hlast.out with ⟨h3, -⟩ | ⟨j, rfl, rfl⟩
        · exact .inl h3
        · refine .inr ?_
          rw [← hx]
          exact h2
      have HX := Lib.hid (congrArg Sp.t hx.symm)
      have HNo1 := Lib.hid hno1
      have HNo2 := Lib.hid hno2
      have HYes := Lib.hid hyes
      have XB := Lib.hid (fun o : Obj => hbel.out.alloc hbel.out.size o)
      obtain ⟨xf, xt, hxf, hxt⟩ := x
      simp only at ha0 ha1 HX HNo2 HYes
      clear hx hno1 hno2 hyes
      by_cases h1 : xf < b
      · have s1 : decide ((xf : Int) < (b : Int)) = true := decide_eq_true (by omega)
        have s2 : decide (xf < b) = true := decide_eq_true h1
        obtain rfl : c = 8 := HNo2.out h1
        go_wp2
        go_ret
        exact ⟨rfl, XB.out _⟩
      have s1 : decide ((xf : Int) < (b : Int)) = false := decide_eq_false (by omega)
      have s2 : decide (xf < b) = false := decide_eq_false h1
      by_cases h2 : xt < xf
      · have s3 : decide ((xt : Int) < (xf : Int)) = true := decide_eq_true (by omega)
        have s4 : decide (xt < xf) = true := decide_eq_true h2
        obtain rfl : c = 8 := HNo1.out (fun h => by unfold Ok at h; simp only at h; omega)
        go_wp2
        go_ret
        exact ⟨rfl, XB.out _⟩
      have s3 : decide ((xt : Int) < (xf : Int)) = false := decide_eq_false (by omega)
      have s4 : decide (xt < xf) = false := decide_eq_false h2
      by_cases h3 : 1073741824 < xt
      · have s5 : decide ((1073741824 : Int) < (xt : Int)) = true := decide_eq_true (by omega)
        have s6 : decide (1073741824 < xt) = true := decide_eq_true h3
        obtain rfl : c = 8 := HNo1.out (fun h => by unfold Ok at h; simp only at h; omega)
        go_wp2
        go_ret
        exact ⟨rfl, XB.out _⟩
      have s5 : decide ((1073741824 : Int) < (xt : Int)) = false := decide_eq_false (by omega)
      have s6 : decide (1073741824 < xt) = false := decide_eq_false h3
      have HF2 : Hid (Fine (l.take (k + 1))) := HYes.out (by unfold Ok; simp only; omega) (by omega)
      have eT : IntKind.u32.wrap ((xt : Int) + 2) = (xt : Int) + 2 := by rw [IntKind.wrap_u32]; omega
      have hb2 : 1 ≤ xt + 2 := by omega
      clear HNo1 HNo2 HYes
      go_wp2
      go_roundw
      case rel => exact ⟨k + 1, xt + 2, by omega, by go_num, by go_num, hb2, Lib.hid (.inr ⟨k, rfl, by rw [HX.out]⟩), HF2, Lib.hid (XB.out _)⟩
      case measure => simp [intOf]; omega
    · have q1 : decide (k < n) = false := by simpa using hkn
      have hkk : l.take k = l := List.take_of_length_le (by have := HN.out; omega)
      obtain rfl : c = 0 := HGood.out ⟨by have := hfin.out; rwa [hkk] at this, by omega⟩
      clear hkk
      go_wp2
      go_ret
      exact ⟨rfl, hbel.out⟩
theorem pCheck_is {v : Value} {l : List Sp} {w : World} (hv : Sps w v l) {c : Int} (h : chk l = c) :
    Calls Try.prog 37 #[v] w fun e w' => e = .returned (.int .i64 c) ∧ Below w.heap.size w w' := by
  rw [← h]; exact pCheck_any hv

theorem pTwin_any {v : Value} {l : List Sp} {w : World} (hv : Sps w v l) (hl : l.length ≤ 1000000) :
    Calls Try.prog 26 #[v] w fun e w' => ∃ v', e = .returned v' ∧ w'.ownsRow w.heap.size 53 2 v' l.length (sps l) ∧ Below w.heap.size w w' := by
  obtain ⟨ao, cap, rfl⟩ := hv.shape
  have HV : Hid (Sees w (.slice ao l.length cap) 2 l.length (sps l)) := hv
  have O0 : Hid (w.ownsRow w.heap.size 53 2 (.slice none 0 0) 0 []) := World.ownsRow_nil _ _ _ _
  clear hv
  go_enter Try.func26, Try.ntmps26
  go_wp2_with (at_builtin; refine wpList_append_sees rfl (.const (.slice none 0 0)) (.tmp 3) 48 53 rfl Try.underlying48 span_info rfl (by decide) w.heap.size _ 0 [] rfl O0.out _ l.length _ rfl HV.out (sps_oneCell l) ?k1 ?k2 ?k3 ?_)
  case k1 => omega
  case k2 => omega
  case k3 => simp
  rintro v1 w1 o1 g1 b1
  have HO : Hid (w1.ownsRow w.heap.size 53 2 v1 l.length (sps l)) := by
    have := o1
    unfold Hid
    simpa using this
  have HB := Lib.hid b1
  clear o1 g1 b1
  go_wp2
  go_ret
  exact ⟨_, rfl, HO.out, HB.out⟩

set_option maxHeartbeats 1000000 in
theorem slEq_yes {a b : Value} {l : List Sp} {w : World} (ha : Sps w a l) (hb : Sps w b l) :
    Calls Try.prog 59 #[a, b] w fun e w' => e = .returned (.bool true) ∧ Below w.heap.size w w' := by
  obtain ⟨ao, ca, rfl⟩ := ha.shape
  obtain ⟨bo, cb, rfl⟩ := hb.shape
  obtain ⟨n, hn⟩ : ∃ n, n = l.length := ⟨_, rfl⟩
  have hm : n ≤ 9223372036854775807 := by rw [hn]; exact Sees.max ha
  have HA := Lib.hid ha
  have HB := Lib.hid hb
  have HN := Lib.hid hn
  rw [← hn]
  clear ha hb hn
  have t1 : ((n : Int) != (n : Int)) = false := by simp
  go_enter Try.func59, Try.ntmps59
  go_wp2
  go_loopw [13] (fun i wr => ∃ k : Nat, k ≤ n ∧ i = .int .i64 (k : Int) ∧ ∃ q, wr = w.drewN q) (fun i _ => n - (intOf i).toNat)
  case atStart => exact ⟨0, by omega, rfl, 0, rfl⟩
  case round =>
    obtain ⟨k, hk, rfl, q, rfl⟩ := hrel
    by_cases hkn : k < n
    · have q1 : decide (k < n) = true := by simpa using hkn
      obtain ⟨b1, o1, rfl, hb1, ha0, ha1⟩ := HA.out.at k (by rw [← HN.out]; exact hkn)
      obtain ⟨b2, o2, rfl, hb2, hb0, hb1'⟩ := HB.out.at k (by rw [← HN.out]; exact hkn)
      obtain ⟨x, hx⟩ : ∃ x, x = l.getD k zsp := ⟨_, rfl⟩
      rw [← hx] at ha0 ha1 hb0 hb1'
      obtain ⟨xt, xr, _, _⟩ := x
      simp only at ha0 ha1 hb0 hb1'
      have q2 : (0 : Int) ≤ (k : Int) := by omega
      have q3 : (k : Int) < (n : Int) := by omega
      clear hx
      go_wp2
      go_quiet (fail)
      go_wp2
      go_roundw
      case rel => exact ⟨k + 1, by omega, by go_num, _, rfl⟩
      case measure => simp [intOf]; omega
    · have q1 : decide (k < n) = false := by simpa using hkn
      go_wp2
      go_ret
      exact ⟨rfl, below_draw (Below.refl _ _) _⟩

set_option maxHeartbeats 1000000 in
theorem slEq_no {a b : Value} {l m : List Sp} {w : World} (ha : Sps w a l) (hb : Sps w b m) (hlm : l ≠ m) :
    Calls Try.prog 59 #[a, b] w fun e w' => e = .returned (.bool false) ∧ Below w.heap.size w w' := by
  obtain ⟨ao, ca, rfl⟩ := ha.shape
  obtain ⟨bo, cb, rfl⟩ := hb.shape
  obtain ⟨n, hn⟩ : ∃ n, n = l.length := ⟨_, rfl⟩
  obtain ⟨n2, hn2⟩ : ∃ n, n = m.length := ⟨_, rfl⟩
  have hm : n ≤ 9223372036854775807 := by rw [hn]; exact Sees.max ha
  have HA := Lib.hid ha
  have HB := Lib.hid hb
  have HN := Lib.hid hn
  have HN2 := Lib.hid hn2
  have HL := Lib.hid hlm
  rw [← hn, ← hn2]
  clear ha hb hn hn2 hlm
  by_cases hlen : n = n2
  · subst hlen
    have t1 : ((n : Int) != (n : Int)) = false := by simp
    go_enter Try.func59, Try.ntmps59
    go_wp2
    go_loopw [13] (fun i wr => ∃ k : Nat, k ≤ n ∧ i = .int .i64 (k : Int) ∧ Hid (∀ j, j < k → l.getD j zsp = m.getD j zsp) ∧ ∃ q, wr = w.drewN q) (fun i _ => n - (intOf i).toNat)
    case atStart => exact ⟨0, by omega, rfl, Lib.hid (by omega), 0, rfl⟩
    case round =>
      obtain ⟨k, hk, rfl, hal, q, rfl⟩ := hrel
      by_cases hkn : k < n
      · have q1 : decide (k < n) = true := by simpa using hkn
        obtain ⟨b1, o1, rfl, hb1, ha0, ha1⟩ := HA.out.at k (by rw [← HN.out]; exact hkn)
        obtain ⟨b2, o2, rfl, hb2, hb0, hb1'⟩ := HB.out.at k (by rw [← HN2.out]; exact hkn)
        obtain ⟨x, hx⟩ : ∃ x, x = l.getD k zsp := ⟨_, rfl⟩
        obtain ⟨y, hy⟩ : ∃ y, y = m.getD k zsp := ⟨_, rfl⟩
        rw [← hx] at ha0 ha1
        rw [← hy] at hb0 hb1'
        have q2 : (0 : Int) ≤ (k : Int) := by omega
        have q3 : (k : Int) < (n : Int) := by omega
        by_cases hxy : x = y
        · have HX := Lib.hid (show l.getD k zsp = m.getD k zsp by rw [← hx, ← hy, hxy])
          subst hxy
          obtain ⟨xt, xr, _, _⟩ := x
          simp only at ha0 ha1 hb0 hb1'
          clear hx hy
          go_wp2
          go_quiet (fail)
          go_wp2
          go_roundw
          case rel =>
            refine ⟨k + 1, by omega, by go_num, Lib.hid (fun j hj => ?_), _, rfl⟩
            by_cases e : j = k
            · rw [e]; exact HX.out
            · exact hal.out j (by omega)
          case measure => simp [intOf]; omega
        · have hparts : ¬ x.f = y.f ∨ (x.f = y.f ∧ ¬ x.t = y.t) := by
            by_cases h1 : x.f = y.f
            · exact .inr ⟨h1, fun h2 => hxy (Sp.ext' h1 h2)⟩
            · exact .inl h1
          obtain ⟨xt, xr, _, _⟩ := x
          obtain ⟨yt, yr, _, _⟩ := y
          simp only at ha0 ha1 hb0 hb1' hparts
          clear hx hy hxy
          rcases hparts with h1 | ⟨rfl, h2⟩
          · go_wp2
            go_quiet (fail)
            go_wp2
            go_ret
            exact ⟨rfl, below_draw (below_draw (Below.refl _ _) _) _⟩
          · have h4 : ((xr : Int) == (yr : Int)) = false := by simp; omega
            have h5 : decide (xr = yr) = false := decide_eq_false h2
            go_wp2
            go_quiet (fail)
            go_wp2
            go_ret
            exact ⟨rfl, below_draw (below_draw (Below.refl _ _) _) _⟩
      · exfalso
        obtain ⟨j, h1, h2⟩ := sps_ne (by rw [← HN.out, ← HN2.out]) HL.out
        exact h2 (hal.out j (by have := HN.out; omega))
  · have t1 : ((n : Int) != (n2 : Int)) = true := by simp; omega
    have t2 : ¬ n = n2 := hlen
    go_enter Try.func59, Try.ntmps59
    go_wp2
    go_ret
    exact ⟨rfl, Below.refl _ _⟩
theorem pSame_any {a b : Value} {l m : List Sp} {w : World} (ha : Sps w a l) (hb : Sps w b m) :
    Calls Try.prog 45 #[a, b] w fun e w' => e = .returned (.bool (decide (l = m))) ∧ Below w.heap.size w w' := by
  by_cases h : l = m
  · subst h
    rw [decide_eq_true rfl]
    have E := Lib.hid (slEq_yes ha hb)
    clear ha hb
    go_enter Try.func45, Try.ntmps45
    go_wp2_with fail
    refine E.out.mono ?_
    rintro e w1 ⟨rfl, b1⟩
    go_wp2
    go_ret
    exact ⟨rfl, b1⟩
  · rw [decide_eq_false h]
    have E := Lib.hid (slEq_no ha hb h)
    clear ha hb h
    go_enter Try.func45, Try.ntmps45
    go_wp2_with fail
    refine E.out.mono ?_
    rintro e w1 ⟨rfl, b1⟩
    go_wp2
    go_ret
    exact ⟨rfl, b1⟩

set_option maxRecDepth 100000 in
set_option maxHeartbeats 4000000 in
theorem pCount_any {v : Value} {l : List Sp} {w : World} (hv : Sps w v l) :
    Calls Try.prog 42 #[v] w fun e w' => e = .returned (.int .i64 (count l : Int)) ∧ Below w.heap.size w w' := by
  obtain ⟨ao, cap, rfl⟩ := hv.shape
  obtain ⟨c, hc⟩ : ∃ c, chk l = c := ⟨_, rfl⟩
  have M := Lib.hid (pCheck_is hv hc)
  cases hb : mayB l
  · have hc8 : c = 8 := by rw [← hc]; unfold chk; rw [hb]; rfl
    have e0 : count l = 0 := by unfold count; rw [hb]; rfl
    rw [e0]
    subst hc8
    clear hb hv hc e0
    go_enter Try.func42, Try.ntmps42
    go_wp2_with fail
    refine M.out.mono ?_
    rintro e w1 ⟨rfl, b1⟩
    go_wp2
    go_ret
    exact ⟨rfl, b1⟩
  · have hc0 : c = 0 := by rw [← hc]; unfold chk; rw [hb]; rfl
    have e0 : count l = many l := by unfold count; rw [hb]; rfl
    have hF := (mayB_iff l).1 hb
    rw [e0]
    subst hc0
    have HV := Lib.hid hv
    have HF := Lib.hid hF.1
    obtain ⟨n, hn⟩ : ∃ n, n = l.length := ⟨_, rfl⟩
    have HN := Lib.hid hn
    have hl : n ≤ 1024 := by rw [hn]; exact hF.2
    rw [← hn] at M ⊢
    clear hb hv hc e0 hF hn
    go_enter Try.func42, Try.ntmps42
    go_wp2_with fail
    refine M.out.mono ?_
    rintro e w1 ⟨rfl, b1⟩
    have B1 := Lib.hid b1
    clear b1
    go_wp2
    go_loopw [3, 11] (fun s i wr => ∃ k m : Nat, k ≤ n ∧ i = .int .i64 (k : Int) ∧ s = .int .i64 (m : Int) ∧ m ≤ 1073741824 * k ∧ Hid (m = many (l.take k)) ∧ Hid (Below w.heap.size w wr)) (fun _ i _ => n - (intOf i).toNat)
    case atStart => exact ⟨0, 0, by omega, rfl, rfl, by omega, Lib.hid rfl, B1⟩
    case round =>
      obtain ⟨k, m, hk, rfl, rfl, hm, hmany, hbel⟩ := hrel
      by_cases hkn : k < n
      · have q1 : decide (k < n) = true := by simpa using hkn
        obtain ⟨b1, o1, rfl, hb1, ha0, ha1⟩ := (HV.out.keeps hbel.out).at k (by rw [← HN.out]; exact hkn)
        have hs := take_snoc l k (by rw [← HN.out]; exact hkn)
        have hok := fine_ok HF.out (k := k) (by rw [← HN.out]; exact hkn)
        obtain ⟨x, hx⟩ : ∃ x, x = l.getD k zsp := ⟨_, rfl⟩
        rw [← hx] at ha0 ha1 hs hok
        have hmn := many_snoc (l.take k) x
        rw [← hs, ← hmany.out] at hmn
        obtain ⟨xf, xt, _, _⟩ := x
        unfold Ok at hok
        simp only at ha0 ha1 hmn hok
        obtain ⟨o1', o2, o3⟩ := hok
        obtain ⟨d, hd⟩ : ∃ d : Nat, d = xt - xf := ⟨_, rfl⟩
        have e1 : (xt : Int) - (xf : Int) = (d : Int) := by omega
        have e2 : IntKind.u32.wrap (d : Int) = (d : Int) := by rw [IntKind.wrap_u32]; omega
        have e3 : IntKind.i64.wrap (d : Int) = (d : Int) := IntWalk.i64_in _ (by omega)
        have e4 : IntKind.i64.wrap ((d : Int) + 1) = (d : Int) + 1 := IntWalk.i64_in _ (by omega)
        have e5 : IntKind.i64.wrap ((m : Int) + ((d : Int) + 1)) = (m : Int) + ((d : Int) + 1) := IntWalk.i64_in _ (by omega)
        have HM2 : Hid (m + (d + 1) = many (l.take (k + 1))) := by show _ = _; rw [hmn, hd]
        have hb2 : m + (d + 1) ≤ 1073741824 * (k + 1) := by omega
        have q2 : (0 : Int) ≤ (k : Int) := by omega
        have q3 : (k : Int) < (n : Int) := by omega
        have XB := Lib.hid (fun o : Obj => hbel.out.alloc hbel.out.size o)
        clear hx hs hmn hd
        go_wp2
        go_roundw
        case rel => exact ⟨k + 1, m + (d + 1), by omega, by go_num, by go_num, hb2, HM2, Lib.hid (XB.out _)⟩
        case measure => simp [intOf]; omega
      · have q1 : decide (k < n) = false := by simpa using hkn
        have hkk : l.take k = l := List.take_of_length_le (by have := HN.out; omega)
        have hf : m = many l := by have := hmany.out; rwa [hkk] at this
        subst hf
        clear hkk
        go_wp2
        go_ret
        exact ⟨rfl, hbel.out⟩
end Go.Proofs.Ytmgdbgloacbacaa.Spans

/- octavo/span: Has with what it calls, the two choosers, upFrom, next, with, stretches: what each answers. Conditions: the slices' cells are spans. -/
namespace Go.Proofs.Ytmgdbgloacbacaa.Spans
open Go.RowKit Go.Shelf
attribute [local go_sem ↓] Go.wp_at_zero Go.wp_at_succ

/-! ### Has -/
theorem hasOne_any (x : Sp) (t B : Nat) {w : World} (hc : w.cell? ⟨B, 0, none⟩ = some (.int .u32 (t : Int))) (hB : B < w.heap.size) :
    Calls Try.prog 56 #[.agg #[.int .u32 (x.f : Int), .int .u32 (x.t : Int)], .pointer (some ⟨B, 0, none⟩)] w fun e w' => e = .returned (.bool (decide (x.f ≤ t ∧ t ≤ x.t))) ∧ Below w.heap.size w w' := by
  obtain ⟨f, u, _, _⟩ := x
  simp only
  have c0 := (((Below.refl w.heap.size w).alloc (Nat.le_refl _) (.cells #[.int .u32 (f : Int), .int .u32 (u : Int)] 53)).cell (p := ⟨B, 0, none⟩) hB).trans hc
  clear hc
  by_cases h1 : f ≤ t
  · have s1 : decide ((f : Int) ≤ (t : Int)) = true := decide_eq_true (by omega)
    have s2 : decide (f ≤ t) = true := decide_eq_true h1
    by_cases h2 : t ≤ u
    · have s3 : decide ((t : Int) ≤ (u : Int)) = true := decide_eq_true (by omega)
      have s4 : decide (t ≤ u) = true := decide_eq_true h2
      rw [decide_eq_true (p := f ≤ t ∧ t ≤ u) ⟨h1, h2⟩]
      go_enter Try.func56, Try.ntmps56
      go_wp2
      go_ret
      exact ⟨rfl, (Below.refl _ _).alloc (Nat.le_refl _) _⟩
    · have s3 : decide ((t : Int) ≤ (u : Int)) = false := decide_eq_false (by omega)
      have s4 : decide (t ≤ u) = false := decide_eq_false h2
      rw [decide_eq_false (p := f ≤ t ∧ t ≤ u) (fun h => h2 h.2)]
      go_enter Try.func56, Try.ntmps56
      go_wp2
      go_ret
      exact ⟨rfl, (Below.refl _ _).alloc (Nat.le_refl _) _⟩
  · have s1 : decide ((f : Int) ≤ (t : Int)) = false := decide_eq_false (by omega)
    have s2 : decide (f ≤ t) = false := decide_eq_false h1
    rw [decide_eq_false (p := f ≤ t ∧ t ≤ u) (fun h => h1 h.1)]
    go_enter Try.func56, Try.ntmps56
    go_wp2
    go_ret
    exact ⟨rfl, (Below.refl _ _).alloc (Nat.le_refl _) _⟩

set_option maxRecDepth 100000 in
set_option maxHeartbeats 2000000 in
theorem idx_any {v : Value} {l : List Sp} (t B : Nat) {w : World} (hv : Sps w v l) (hc : w.cell? ⟨B, 0, none⟩ = some (.int .u32 (t : Int))) (hB : B < w.heap.size) :
    Calls Try.prog 65 #[v, .func (.func 56) #[] #[.pointer (some ⟨B, 0, none⟩)]] w fun e w' => (∃ q : Int, e = .returned (.int .i64 q) ∧ decide (0 ≤ q) = inB l t) ∧ Below w.heap.size w w' := by
  obtain ⟨ao, cap, rfl⟩ := hv.shape
  obtain ⟨n, hn⟩ : ∃ n, n = l.length := ⟨_, rfl⟩
  have hm : n ≤ 9223372036854775807 := by rw [hn]; exact Sees.max hv
  have HV := Lib.hid hv
  have HN := Lib.hid hn
  have HC := Lib.hid hc
  obtain ⟨b0, hb0⟩ : ∃ b, inB l t = b := ⟨_, rfl⟩
  have HB0 := Lib.hid hb0
  rw [← hn, hb0]
  have B0 := Lib.hid (Below.refl w.heap.size w)
  clear hv hn hb0 hc
  have eg := enters_of Try.func56 (by kernel_rfl) rfl
  go_enter Try.func65, Try.ntmps65
  go_wp2
  go_loopw [8] (fun i wr => ∃ k : Nat, k ≤ n ∧ i = .int .i64 (k : Int) ∧ Hid (inB (l.take k) t = false) ∧ Hid (Below w.heap.size w wr)) (fun i _ => n - (intOf i).toNat)
  case atStart => exact ⟨0, by omega, rfl, Lib.hid rfl, B0⟩
  case round =>
    obtain ⟨k, hk, rfl, hno, hbel⟩ := hrel
    by_cases hkn : k < n
    · have q1 : decide (k < n) = true := by simpa using hkn
      have q2 : (0 : Int) ≤ (k : Int) := by omega
      have q3 : (k : Int) < (n : Int) := by omega
      obtain ⟨b1, o1, rfl, hb1, ha0, ha1⟩ := (HV.out.keeps hbel.out).at k (by rw [← HN.out]; exact hkn)
      have hs := take_snoc l k (by rw [← HN.out]; exact hkn)
      obtain ⟨x, hx⟩ : ∃ x, x = l.getD k zsp := ⟨_, rfl⟩
      rw [← hx] at ha0 ha1 hs
      have hsn := inB_snoc (l.take k) x t
      rw [← hs, hno.out, Bool.false_or] at hsn
      have hin : decide (x.f ≤ t ∧ t ≤ x.t) = true → b0 = true := fun h => by
        rw [← HB0.out]
        have h := of_decide_eq_true h
        exact (inB_iff l t).2 ⟨x, by rw [hx, List.getD, List.getElem?_eq_getElem (by rw [← HN.out]; exact hkn)]; exact List.getElem_mem _, h.1, h.2⟩
      have C := Lib.hid (hasOne_any x t B (w := wr) ((hbel.out.cell (p := ⟨B, 0, none⟩) hB).trans HC.out) (Nat.lt_of_lt_of_le hB hbel.out.size))
      obtain ⟨q, hq⟩ : ∃ q, decide (x.f ≤ t ∧ t ≤ x.t) = q := ⟨_, rfl⟩
      rw [hq] at C hsn hin
      have HIn := Lib.hid hin
      have HSn := Lib.hid hsn
      obtain ⟨xf, xt, _, _⟩ := x
      simp only at ha0 ha1 C
      clear hx hs hsn hin hq
      cases q
      · go_wp2_with fail
        refine C.out.mono ?_
        rintro e w1 ⟨rfl, b1⟩
        have B1 := Lib.hid (bt hbel.out b1)
        clear b1
        go_wp2
        go_roundw
        case rel => exact ⟨k + 1, by omega, by go_num, HSn, B1⟩
        case measure => simp [intOf]; omega
      · obtain rfl : b0 = true := HIn.out rfl
        go_wp2_with fail
        refine C.out.mono ?_
        rintro e w1 ⟨rfl, b1⟩
        have B1 := Lib.hid (bt hbel.out b1)
        clear b1
        go_wp2
        go_ret
        exact ⟨⟨_, rfl, decide_eq_true q2⟩, B1.out⟩
    · have q1 : decide (k < n) = false := by simpa using hkn
      have hkk : l.take k = l := List.take_of_length_le (by have := HN.out; omega)
      have hf : b0 = false := by rw [← HB0.out, ← hkk]; exact hno.out
      subst hf
      clear hkk
      go_wp2
      go_ret
      exact ⟨⟨_, rfl, rfl⟩, hbel.out⟩
theorem contains_any {v : Value} {l : List Sp} (t B : Nat) {w : World} (hv : Sps w v l) (hc : w.cell? ⟨B, 0, none⟩ = some (.int .u32 (t : Int))) (hB : B < w.heap.size) :
    Calls Try.prog 55 #[v, .func (.func 56) #[] #[.pointer (some ⟨B, 0, none⟩)]] w fun e w' => e = .returned (.bool (inB l t)) ∧ Below w.heap.size w w' := by
  have C := Lib.hid (idx_any t B hv hc hB)
  obtain ⟨b0, hb0⟩ : ∃ b, inB l t = b := ⟨_, rfl⟩
  rw [hb0] at C ⊢
  clear hv hc hb0
  go_enter Try.func55, Try.ntmps55
  go_wp2_with fail
  refine C.out.mono ?_
  rintro e w1 ⟨⟨q, rfl, hq⟩, b1⟩
  go_wp2
  go_ret
  exact ⟨rfl, b1⟩

set_option maxRecDepth 100000 in
set_option maxHeartbeats 2000000 in
theorem pHas_any {v : Value} {l : List Sp} (t : Nat) {w : World} (hv : Sps w v l) :
    Calls Try.prog 40 #[v, .int .u32 (t : Int)] w fun e w' => e = .returned (.bool (has l t)) ∧ Below w.heap.size w w' := by
  obtain ⟨c, hc⟩ : ∃ c, chk l = c := ⟨_, rfl⟩
  have X0 := Lib.hid ((Below.refl w.heap.size w).alloc (Nat.le_refl _) (.cells #[.int .u32 (t : Int)] 23))
  have C0 : Hid ((w.alloc (.cells #[.int .u32 (t : Int)] 23)).cell? ⟨w.heap.size, 0, none⟩ = some (.int .u32 (t : Int))) := cell_of_row _ w.heap.size 0 _ _ _ (heap_alloc_new w _)
  have M := Lib.hid (pCheck_is (hv.keeps X0.out) hc)
  have HV := Lib.hid hv
  unfold has
  cases hb : mayB l
  · have hc8 : c = 8 := by rw [← hc]; unfold chk; rw [hb]; rfl
    subst hc8
    rw [Bool.false_and]
    clear hb hv hc
    go_enter Try.func40, Try.ntmps40
    go_wp2_with fail
    refine M.out.mono ?_
    rintro e w1 ⟨rfl, b1⟩
    have B1 := Lib.hid (bt X0.out b1)
    clear b1
    go_wp2
    go_ret
    exact ⟨rfl, B1.out⟩
  · have hc0 : c = 0 := by rw [← hc]; unfold chk; rw [hb]; rfl
    subst hc0
    rw [Bool.true_and]
    obtain ⟨b0, hb0⟩ : ∃ b, inB l t = b := ⟨_, rfl⟩
    have HB0 := Lib.hid hb0
    rw [hb0]
    clear hb hv hc hb0
    go_enter Try.func40, Try.ntmps40
    go_wp2_with fail
    refine M.out.mono ?_
    rintro e w1 ⟨rfl, b1⟩
    have B1 := Lib.hid (bt X0.out b1)
    have K := contains_any t w.heap.size (w := w1) ((HV.out.keeps X0.out).keeps b1) ((b1.cell (p := ⟨w.heap.size, 0, none⟩) (by simp)).trans C0.out) (by have := b1.size; simp at this; omega)
    rw [HB0.out] at K
    have K := Lib.hid K
    clear b1
    go_wp2_with fail
    refine K.out.mono ?_
    rintro e w2 ⟨rfl, b2⟩
    have B2 := Lib.hid (bt B1.out b2)
    clear b2
    go_wp2
    go_ret
    exact ⟨rfl, B2.out⟩

/-! ### The choosers -/
theorem joinOne_any (x y : Bool) (w : World) :
    Calls Try.prog 83 #[.agg #[.bool x, .bool y]] w fun e w' => e = .returned (.bool (x || y)) ∧ Below w.heap.size w w' := by
  cases x
  · go_enter Try.func83, Try.ntmps83
    go_wp2
    go_ret
    exact ⟨rfl, (Below.refl _ _).alloc (Nat.le_refl _) _⟩
  · go_enter Try.func83, Try.ntmps83
    go_wp2
    go_ret
    exact ⟨rfl, (Below.refl _ _).alloc (Nat.le_refl _) _⟩
/-! ### What is left, and the next stretch of one -/
theorem sps_tail {w : World} {b off n cap : Nat} {x : Sp} {l : List Sp} (h : Sps w (.slice (some ⟨b, off, none⟩) n cap) (x :: l)) :
    (cap = 1 → Sps w (.slice (some ⟨b, off, none⟩) l.length 0) l) ∧ (cap ≠ 1 → Sps w (.slice (some ⟨b, off + 2, none⟩) l.length (cap - 1)) l) := by
  obtain ⟨h1, ao, cp, he, h2, h3, h4, h5⟩ := h
  obtain ⟨rfl, rfl, rfl⟩ := Value.slice.inj he
  rw [List.length_cons] at h2
  constructor
  · rintro rfl
    obtain rfl : l = [] := List.length_eq_zero_iff.1 (by omega)
    exact ⟨rfl, _, _, rfl, by simp, by simp, by simp, .inl rfl⟩
  · intro hc
    refine ⟨sps_len l, _, _, rfl, by omega, by omega, by simp, .inr ⟨b, off + 2, rfl, ?_, ?_⟩⟩
    · rcases h5 with h5 | ⟨b', off', hb, hlt, _⟩
      · cases h5
      · cases hb; exact hlt
    · intro j u hj
      rcases h5 with h5 | ⟨b', off', hb, hlt, hcell⟩
      · cases h5
      · cases hb
        have := hcell (j + 2) u (by simpa [sps] using hj)
        rwa [show off + 2 + j = off + (j + 2) by omega]

set_option maxRecDepth 100000 in
set_option maxHeartbeats 2000000 in
theorem upFrom_any {v : Value} {p : List Sp} (n : Nat) {w : World} (hv : Sps w v p) :
    Calls Try.prog 94 #[v, .int .u32 (n : Int)] w fun e w' => ∃ v', e = .returned v' ∧ (Sps w v' (upf p n) ∧ v'.ownBlock = v.ownBlock) ∧ w = w' := by
  obtain ⟨ao, cap, rfl⟩ := hv.shape
  have HV := Lib.hid hv
  cases p with
  | nil =>
    clear hv
    go_enter Try.func94, Try.ntmps94
    go_wp2
    go_ret
    exact ⟨_, rfl, ⟨HV.out, rfl⟩, rfl⟩
  | cons x p =>
    obtain ⟨b, off, rfl, hb, h0, h1⟩ := hv.at 0 (by simp)
    have hcp := Sees.cap hv
    rw [List.length_cons] at hcp
    obtain ⟨k1, k2⟩ := sps_tail hv
    have HU := Lib.hid (upf_cons x p n)
    have e0 : ((x :: p).getD 0 zsp) = x := rfl
    rw [e0] at h0 h1
    obtain ⟨f, t, hf, ht⟩ := x
    simp only [Nat.zero_mul, Nat.add_zero] at h0 h1
    simp only at HU
    obtain ⟨m, hm⟩ : ∃ m, m = p.length := ⟨_, rfl⟩
    rw [List.length_cons] at HV ⊢
    rw [← hm] at HV k1 k2 hcp ⊢
    have t0 : decide ((0 : Int) < (m : Int) + 1) = true := decide_eq_true (by omega)
    clear hv e0 hm
    by_cases g : t < n
    · have s1 : decide ((t : Int) < (n : Int)) = true := decide_eq_true (by omega)
      have s2 : decide (t < n) = true := decide_eq_true g
      have e1 : upf (⟨f, t, hf, ht⟩ :: p) n = p := by rw [HU.out, if_pos g]
      rw [e1]
      by_cases hc : cap = 1
      · have K := Lib.hid (k1 hc)
        subst hc
        obtain rfl : m = 0 := by omega
        clear k1 k2 e1 HU
        go_enter Try.func94, Try.ntmps94
        go_wp2
        go_ret
        exact ⟨_, rfl, ⟨K.out, rfl⟩, rfl⟩
      · have K := Lib.hid (k2 hc)
        clear k1 k2 e1 HU
        go_enter Try.func94, Try.ntmps94
        go_wp2
        go_ret
        exact ⟨_, rfl, ⟨K.out, rfl⟩, rfl⟩
    · have s1 : decide ((t : Int) < (n : Int)) = false := decide_eq_false (by omega)
      have s2 : decide (t < n) = false := decide_eq_false g
      have e1 : upf (⟨f, t, hf, ht⟩ :: p) n = ⟨f, t, hf, ht⟩ :: p := by rw [HU.out, if_neg g]
      rw [e1]
      clear k1 k2 e1 HU
      go_enter Try.func94, Try.ntmps94
      go_wp2
      go_ret
      exact ⟨_, rfl, ⟨HV.out, rfl⟩, rfl⟩

set_option maxRecDepth 100000 in
set_option maxHeartbeats 2000000 in
theorem next_any {v : Value} {p : List Sp} (n : Nat) {w : World} (hv : Sps w v p) (hok : ∀ x ∈ p, Ok x) :
    Calls Try.prog 95 #[v, .int .u32 (n : Int)] w fun e w' => e = .returned (.tuple #[.bool (nxt p n).1, .int .u32 ((nxt p n).2 : Int)]) ∧ Below w.heap.size w w' := by
  obtain ⟨ao, cap, rfl⟩ := hv.shape
  cases p with
  | nil =>
    clear hv hok
    go_enter Try.func95, Try.ntmps95
    go_wp2
    go_ret2
    exact ⟨rfl, Below.refl _ _⟩
  | cons x p =>
    obtain ⟨b, off, rfl, hb, h0, h1⟩ := hv.at 0 (by simp)
    have hcp := Sees.cap hv
    rw [List.length_cons] at hcp
    have hx := hok x (by simp)
    rw [nxt_cons]
    have e0 : ((x :: p).getD 0 zsp) = x := rfl
    rw [e0] at h0 h1
    obtain ⟨f, t, hf, ht⟩ := x
    unfold Ok at hx
    simp only at hx
    obtain ⟨x1, x2, x3⟩ := hx
    simp only [Nat.zero_mul, Nat.add_zero] at h0 h1
    rw [List.length_cons]
    simp only
    obtain ⟨m, hm⟩ : ∃ m, m = p.length := ⟨_, rfl⟩
    rw [← hm] at hcp ⊢
    have t0 : ((m : Int) + 1 == 0) = false := by rw [beq_eq_false_iff_ne]; omega
    clear hv e0 hok hm
    by_cases g : n < f
    · have s1 : decide ((n : Int) < (f : Int)) = true := decide_eq_true (by omega)
      have s2 : decide (n < f) = true := decide_eq_true g
      rw [if_pos g]
      obtain ⟨d, hd⟩ : ∃ d : Nat, d = f - 1 := ⟨_, rfl⟩
      have e1 : (f : Int) - 1 = (d : Int) := by omega
      have e2 : IntKind.u32.wrap (d : Int) = (d : Int) := by rw [IntKind.wrap_u32]; omega
      simp only
      rw [← hd]
      clear hd
      go_enter Try.func95, Try.ntmps95
      go_wp2
      go_quiet (fail)
      go_wp2
      go_ret2
      exact ⟨rfl, below_draw (Below.refl _ _) _⟩
    · have s1 : decide ((n : Int) < (f : Int)) = false := decide_eq_false (by omega)
      have s2 : decide (n < f) = false := decide_eq_false g
      rw [if_neg g]
      simp only
      go_enter Try.func95, Try.ntmps95
      go_wp2
      go_quiet (fail)
      go_wp2
      go_ret2
      exact ⟨rfl, below_draw (Below.refl _ _) _⟩

theorem stretches_any (v u : Value) (w : World) :
    Calls Try.prog 90 #[.agg #[v, u]] w fun e w' => e = .returned (.func (.func 93) #[] #[.pointer (some ⟨w.heap.size, 0, none⟩)]) ∧ w' = w.alloc (.cells #[v, u] 119) := by
  go_enter Try.func90, Try.ntmps90
  go_wp2
  go_ret
  exact ⟨rfl, rfl⟩
end Go.Proofs.Ytmgdbgloacbacaa.Spans

/- octavo/span.with: what it answers. Conditions: the row is the call's own and holds spans that end at MaxTime at the most. -/
namespace Go.Proofs.Ytmgdbgloacbacaa.Spans
open Go.RowKit Go.Shelf
attribute [local go_sem ↓] Go.wp_at_zero Go.wp_at_succ

theorem grown_trans {a b c : World} {row : Option Nat} (h : a.grownBy b row) (k : b.grownBy c row) : a.grownBy c row :=
  ⟨k.os.trans h.os, k.tape.trans h.tape, k.output.trans h.output, Nat.le_trans h.size k.size, fun i hi hr => (k.block i (Nat.lt_of_lt_of_le hi h.size) hr).trans (h.block i hi hr)⟩
theorem grown_draw {a b : World} {row : Option Nat} (h : a.grownBy b row) (n : Nat) : a.grownBy (b.drewN n) row := ⟨h.os, h.tape, h.output, h.size, h.block⟩
theorem grown_any {a b : World} {row : Option Nat} (h : Below a.heap.size a b) : a.grownBy b row := ⟨h.os, h.tape, h.output, h.size, fun k hk _ => h.block k hk⟩
theorem own_drawn {w : World} {B sz n : Nat} {e : TypeId} {v : Value} {cs : List Value} (h : w.ownsRow B e sz v n cs) (k : Nat) : (w.drewN k).ownsRow B e sz v n cs := h
theorem sps_set_last (l : List Sp) (x : Sp) (t : Nat) (ht : t < 4294967296) : (sps (l ++ [x])).set (l.length * 2 + 1) (.int .u32 (t : Int)) = sps (l ++ [mk x.f t]) := by
  rw [sps_append, sps_append, List.set_append_right _ _ (by rw [sps_len]; omega), sps_len]
  congr 1
  rw [show l.length * 2 + 1 - l.length * 2 = 1 by omega]
  simp only [sps, mk_f x.hf, mk_t ht, List.set_cons_succ, List.set_cons_zero]

set_option maxRecDepth 100000 in
set_option maxHeartbeats 4000000 in
theorem pwith_any {B : Nat} {v : Value} {l : List Sp} {s : Sp} {w : World} (hv : w.ownsRow B 53 2 v l.length (sps l)) (hB : B ≤ w.heap.size) (hf : ∀ x ∈ l, x.t ≤ 1073741824) (hl : l.length ≤ 5000) :
    Calls Try.prog 91 #[v, .agg #[.int .u32 (s.f : Int), .int .u32 (s.t : Int)]] w fun e w' => ∃ v', e = .returned v' ∧ w'.ownsRow B 53 2 v' (wth l s).length (sps (wth l s)) ∧ w.grownBy w' v.ownBlock := by
  rcases nil_or_snoc l with rfl | ⟨m, x, rfl⟩
  · -- nothing yet
    obtain ⟨ao, cap, rfl⟩ := Sees.shape (Sees.own hv)
    have HV := Lib.hid hv
    obtain ⟨f, t, hfb, htb⟩ := s
    simp only
    have XB : Hid (∀ q, Below w.heap.size w (((w.alloc (.cells #[.int .u32 (f : Int), .int .u32 (t : Int)] 53)).drewN q).alloc (.cells #[.int .u32 (f : Int), .int .u32 (t : Int)] 53))) := fun q => (below_draw ((Below.refl _ _).alloc (Nat.le_refl _) _) q).alloc (by simp [World.drewN]) _
    clear hv hf
    go_enter Try.func91, Try.ntmps91
    go_wp2
    go_quiet (fail)
    go_wp2_with (at_builtin; refine wpList_append_sees rfl (.tmp 29) (.tmp 31) 48 53 rfl Try.underlying48 span_info rfl (by decide) B _ 0 [] rfl (own_stays HV.out (XB.out _)) _ 1 _ rfl (sees_sp (a := ⟨f, t, hfb, htb⟩) (kb_new (by simp [World.drewN])) rfl rfl) (sps_oneCell _) ?a1 ?a2 ?a3 ?_)
    case a1 => omega
    case a2 => omega
    case a3 => exact Nat.le_trans hB (XB.out _).size
    rintro v5 w5 o5 g5 b5
    have O5 := Lib.hid o5
    have G5 := Lib.hid (grown_trans (grown_any (XB.out _)) g5)
    clear o5 g5 b5
    go_wp2
    go_ret
    exact ⟨_, rfl, O5.out, G5.out⟩
  · have hxt := hf x (by simp)
    rw [wth_snoc]
    obtain ⟨ao, cap, rfl⟩ := Sees.shape (Sees.own hv)
    obtain ⟨k, hk⟩ : ∃ k, k = m.length := ⟨_, rfl⟩
    have hlen : (m ++ [x]).length = k + 1 := by simp [hk]
    have hget : (m ++ [x]).getD k zsp = x := by simp [hk]
    have hSl := sps_set_last m x s.t s.ht
    rw [← hk] at hSl
    have HK := Lib.hid hk
    have hsee := Sps.at (Sps.own hv) k (by omega)
    rw [hget] at hsee
    rw [hlen] at hv hl ⊢
    obtain ⟨f, t, hfb, htb⟩ := s
    obtain ⟨xf, xt, hxf, hxtb⟩ := x
    simp only at hsee hxt hSl ⊢
    obtain ⟨g, hg⟩ : ∃ g, ao = some ⟨g, 0, none⟩ := by
      rcases hv.2 with ⟨h0, h1⟩ | ⟨g, c, cur, h0, _⟩
      · omega
      · cases h0; exact ⟨g, rfl⟩
    subst hg
    obtain ⟨b', off', he, hgl, hx0, hx1⟩ := hsee
    obtain ⟨rfl, rfl⟩ : g = b' ∧ 0 = off' := by simpa using he
    rw [Nat.zero_add] at hx0 hx1
    have HV := Lib.hid hv
    have hfz := hv.frozenAt (k * 2 + 1)
    have HSL := Lib.hid hSl
    have i1 : ((k + 1 : Nat) : Int) - 1 = (k : Int) := by omega
    have i1' : (k : Int) + 1 - 1 = (k : Int) := by omega
    have i2 : IntKind.i64.wrap (k : Int) = (k : Int) := IntWalk.i64_in _ (by omega)
    have i3 : (0 : Int) ≤ (k : Int) := by omega
    have i4 : (k : Int) < ((k + 1 : Nat) : Int) := by omega
    have i4' : (k : Int) < (k : Int) + 1 := by omega
    have eT : IntKind.u32.wrap ((xt : Int) + 1) = (xt : Int) + 1 := by rw [IntKind.wrap_u32]; omega
    have hne : ¬ w.heap.size = g := by omega
    have XB0 : Hid (∀ q, Below w.heap.size w ((w.alloc (.cells #[.int .u32 (f : Int), .int .u32 (t : Int)] 53)).drewN q)) := fun q => below_draw ((Below.refl _ _).alloc (Nat.le_refl _) _) q
    clear hv hSl hk hf hget
    by_cases h2 : xt + 1 = f
    · rw [if_pos h2]
      have s1 : ((xt : Int) + 1 == (f : Int)) = true := by rw [beq_iff_eq]; omega
      have s2 : decide (xt + 1 = f) = true := decide_eq_true h2
      have HS := Lib.hid (fun q => (own_stays HV.out (XB0.out q)).stored (k * 2 + 1) (.int .u32 (t : Int)))
      go_enter Try.func91, Try.ntmps91
      go_wp2
      go_quiet (fail)
      go_wp2
      go_ret
      refine ⟨_, rfl, ?_, grown_trans (grown_any (XB0.out _)) (HS.out _).2⟩
      rw [show (m ++ [mk xf t]).length = k + 1 by simp [HK.out], ← HSL.out]
      exact (HS.out _).1
    · rw [if_neg h2]
      have s1 : ((xt : Int) + 1 == (f : Int)) = false := by rw [beq_eq_false_iff_ne]; omega
      have s2 : decide (xt + 1 = f) = false := decide_eq_false h2
      have XB : Hid (∀ q, Below w.heap.size w (((w.alloc (.cells #[.int .u32 (f : Int), .int .u32 (t : Int)] 53)).drewN q).alloc (.cells #[.int .u32 (f : Int), .int .u32 (t : Int)] 53))) := fun q => (XB0.out q).alloc (by simp [World.drewN]) _
      go_enter Try.func91, Try.ntmps91
      go_wp2
      go_quiet (fail)
      go_wp2_with (at_builtin; refine wpList_append_sees rfl (.tmp 29) (.tmp 31) 48 53 rfl Try.underlying48 span_info rfl (by decide) B _ (k + 1) (sps (m ++ [⟨xf, xt, hxf, hxtb⟩])) rfl (own_stays HV.out (XB.out _)) _ 1 _ rfl (sees_sp (a := ⟨f, t, hfb, htb⟩) (kb_new (by simp [World.drewN])) rfl rfl) (sps_oneCell _) ?a1 ?a2 ?a3 ?_)
      case a1 => omega
      case a2 => omega
      case a3 => exact Nat.le_trans hB (XB.out _).size
      rintro v5 w5 o5 g5 b5
      have O5 := Lib.hid o5
      have G5 := Lib.hid (grown_trans (grown_any (XB.out _)) g5)
      clear o5 g5 b5
      go_wp2
      go_ret
      refine ⟨_, rfl, ?_, G5.out⟩
      have := O5.out
      rw [sps_append (m ++ [_]), List.length_append, show (m ++ [(⟨xf, xt, hxf, hxtb⟩ : Sp)]).length = k + 1 by simp [HK.out]]
      exact this
end Go.Proofs.Ytmgdbgloacbacaa.Spans

/- A range over a function whose iterator has cells of its own in one block, laid when it is called: the caller's side. Conditions: the loop's body goes on, or returns; it turns neither the loop's two blocks nor the iterator's one. -/
namespace Go.Proofs.Ytmgdbgloacbacaa
open Go Go.RowKit Go.Shelf

/-- What is said of a world that stays so where one of three blocks side by side turns, and where new ones come. -/
def Rides (H : Nat) (I : World → Prop) : Prop := ∀ A B r, I A → H ≤ r → r ≤ H + 2 → A.grownBy B (some r) → I B
/-- The three blocks side by side are as they were. -/
def Three (H : Nat) (W W' : World) : Prop := ∀ r, H ≤ r → r ≤ H + 2 → W'.heap[r]? = W.heap[r]?
theorem Rides.put {H : Nat} {I : World → Prop} (h : Rides H I) {W : World} {r : Nat} (o : Obj) (hi : I W) (h1 : H ≤ r) (h2 : r ≤ H + 2) : I (W.putObj r o) := h _ _ r hi h1 h2 (grownBy_putObj' W r o)
theorem Rides.new {H : Nat} {I : World → Prop} (h : Rides H I) {W : World} (o : Obj) (hi : I W) : I (W.alloc o) := h _ _ H hi (Nat.le_refl _) (by omega) (World.grownBy_alloc W o _)

/-- The iterator: it goes from 'start' to 'stop' by 'nx', handing 'enc s' to each round; its own cells lie in block H + 2. -/
def Goes (n : Nat) (P : Program) (gf : Nat) (lb : Array Value) (enc : Nat → Array Value) (dom : Nat → Prop) (nx : Nat → Nat) (start stop n₀ H : Nat) (w : World) : Prop :=
  ∀ (J : Nat → World → Prop) (Jx : World → Prop) (W : World), W.heap.size = H + 2 → Below H w W →
    (∀ s A B, J s A → A.grownBy B (some (H + 2)) → J s B) → (∀ A B, Jx A → A.grownBy B (some (H + 2)) → Jx B) →
    (∀ s W1, J s W1 → dom s → H + 2 < W1.heap.size → YieldAt Fence.wide (n - 1) P (H + 1) (enc s) W1 fun e W' =>
      (e = .returned (.bool true) ∧ J (nx s) W' ∧ Below n₀ W1 W' ∧ W'.heap[H + 2]? = W1.heap[H + 2]?) ∨ (e = .returned (.bool false) ∧ Jx W')) →
    J start W → CallsIn Fence.wide n P gf (#[.func (.yield (H + 1)) #[] #[]] ++ lb) W fun e W' => (∃ v, e = .returned v) ∧ (J stop W' ∨ Jx W')

/-- How a round is left. -/
def Leaves (H n₀ : Nat) (I : World → Prop) (Ix : World → Prop) (W : World) : Exit → Act → World → Prop
  | .normal, _, W' => Three H W W' ∧ Below n₀ W W' ∧ I W'
  | .ret, _, W' => Three H W W' ∧ Ix W'
  | _, _, _ => False

theorem range_own {n : Nat} {P : Program} {g : Operand} {ps : Array Tmp} {assign body : Code} {Q : Exit → Act → World → Prop} {a : Act} {w : World} (h1 : 1 ≤ n)
    {gf : Nat} {lb : Array Value} (hg : a.eval g = .func (.func gf) #[] lb) (eg : ∀ args w, (callFunc gf args).run P w = .ok (.enter gf args) w)
    {enc : Nat → Array Value} {dom : Nat → Prop} {nx : Nat → Nat} {start stop n₀ H : Nat} (hH : w.heap.size = H) (hit : Goes (n - 1) P gf lb enc dom nx start stop n₀ H w)
    (hn : n₀ ≤ H) (hps : ∀ s, (enc s).size = ps.size)
    (I : Nat → World → Prop) (Ix : World → Prop) (hI : ∀ s, Rides H (I s)) (hIx : Rides H Ix) (h0 : I start w)
    (hround : ∀ (s : Nat) (W : World), I s W → H + 2 < W.heap.size → dom s → ∀ K : Act → World → Prop,
      (∀ a₁ W2, Three H W W2 → Below n₀ W W2 → I s W2 → (∀ W3, W2.grownBy W3 (some (H + 1)) → I s W3 → body.wpIn (Fence.wide.inRound (H + 1)) (n - 1 - 1) P (Leaves H n₀ (I (nx s)) Ix W3) a₁ W3) → K a₁ W2) →
      assign.wpIn (Fence.wide.inRound (H + 1)) (n - 1 - 1) P (Exit.then K (fun _ _ _ => False)) { tmps := (ps.zip (enc s)).foldl (fun t (p, v) => t.setIfInBounds p v) a.tmps, defers := [] } W)
    (hdone : ∀ W : World, I stop W → W.heap[H]? = some (.deferred (some [])) → Q .normal { a with defers := { target := .collected H, args := #[] } :: a.defers } W)
    (hstop : ∀ W : World, Ix W → W.heap[H]? = some (.deferred (some [])) → Code.ret.wpIn Fence.wide n P Q { a with defers := { target := .collected H, args := #[] } :: a.defers } W) :
    (Code.rangeFunc g ps assign body).wpIn Fence.wide n P Q a w := by
  refine wpIn_rangeFunc ?_
  intro fn hfn
  obtain ⟨rec, hrec⟩ : ∃ rec : LoopState → Option Code → Loop, rec = fun st pe => { state := st, pending := pe, fn, tmps := a.tmps, params := ps, assign, body, defers := H } := ⟨_, rfl⟩
  obtain ⟨W1, hW1⟩ : ∃ W1, W1 = (w.alloc (.deferred (some []))).alloc (.loop (rec .ready none)) := ⟨_, rfl⟩
  have hsz : W1.heap.size = H + 2 := by rw [hW1, World.size_alloc, World.size_alloc, hH]
  have hL1 : W1.heap[H + 1]? = some (.loop (rec .ready none)) := by
    have h := World.alloc_heap_new (w.alloc (.deferred (some []))) (.loop (rec .ready none))
    rw [World.size_alloc, hH] at h
    rw [hW1]; exact h
  have hK1 : W1.heap[H]? = some (.deferred (some [])) := by
    rw [hW1, Below.heap_alloc _ _ _ (by rw [World.size_alloc]; omega)]
    have h := World.alloc_heap_new w (.deferred (some []))
    rwa [hH] at h
  have hB1 : Below H w W1 := by rw [hW1]; exact ((Below.refl H w).alloc (by omega) _).alloc (by rw [World.size_alloc]; omega) _
  have hJ1 : I start W1 := by rw [hW1]; exact (hI start).new _ ((hI start).new _ h0)
  have hent := run_enterLoop_outer (P := P) (w := w) fn a.tmps ps assign body
  rw [hH] at hent
  refine ⟨H + 1, [{ target := .collected H, args := #[] }], W1, { target := .fn (.func gf) lb, args := #[.func (.yield (H + 1)) #[] #[]] }, W1, gf,
    #[.func (.yield (H + 1)) #[] #[]] ++ lb, W1, ?_, ?_, fun _ _ => trivial, ?_, fun _ => h1, ?_⟩
  · rw [hW1, hrec]; exact hent
  · simp only [resolve, hg]
    simp [go_sem]
  · simp [invoke, go_sem, eg]
  have other : ∀ {A B : World} {r k : Nat} {o : Obj}, A.grownBy B (some r) → k ≠ r → A.heap[k]? = some o → B.heap[k]? = some o := fun hg hne hk =>
    (hg.block _ (Array.getElem?_eq_some_iff.1 hk).1 (fun e => hne (Option.some.inj e))).trans hk
  refine (hit (fun s W => I s W ∧ W.heap[H + 1]? = some (.loop (rec .ready none)) ∧ W.heap[H]? = some (.deferred (some [])))
    (fun W => Ix W ∧ W.heap[H + 1]? = some (.loop (rec .done (some .ret))) ∧ W.heap[H]? = some (.deferred (some [])))
    W1 hsz hB1
    (fun s A B h k => ⟨hI s A B (H + 2) h.1 (by omega) (by omega) k, other k (by omega) h.2.1, other k (by omega) h.2.2⟩)
    (fun A B h k => ⟨hIx A B (H + 2) h.1 (by omega) (by omega) k, other k (by omega) h.2.1, other k (by omega) h.2.2⟩)
    ?_ ⟨hJ1, hL1, hK1⟩).mono ?_
  · rintro s W ⟨hi, hl, hk⟩ hd hw
    have hlt : H + 1 < W.heap.size := (Array.getElem?_eq_some_iff.1 hl).1
    have hy := run_yield (P := P) (args := enc s) hl (by rw [hrec]; exact hps s)
    rw [hrec] at hy
    refine ⟨fn, _, assign, body, hy, roundIn_of_wpIn hfn (wpIn_mono (hround s W hi (by omega) hd (fun a₁ W2 => Three H W W2 ∧ Below n₀ W W2 ∧ I s W2 ∧ ∀ W3, W2.grownBy W3 (some (H + 1)) → I s W3 → body.wpIn (Fence.wide.inRound (H + 1)) (n - 1 - 1) P (Leaves H n₀ (I (nx s)) Ix W3) a₁ W3) (fun _ _ k1 k2 k3 k4 => ⟨k1, k2, k3, k4⟩)) ?_)⟩
    rintro e a1 W2 hp
    cases e with
    | normal =>
      obtain ⟨ht2, hb2, hi2, hbody⟩ := hp
      have hl2 : W2.heap[H + 1]? = some (.loop (rec .ready none)) := (ht2 (H + 1) (by omega) (by omega)).trans hl
      have hk2 : W2.heap[H]? = some (.deferred (some [])) := (ht2 H (by omega) (by omega)).trans hk
      have hlt2 : H + 1 < W2.heap.size := (Array.getElem?_eq_some_iff.1 hl2).1
      refine ⟨W2.putObj (H + 1) (.loop { rec .ready none with state := .busy }), run_beginRound hl2 (by rw [hrec]), ?_⟩
      obtain ⟨W3, hW3⟩ : ∃ W3, W3 = W2.putObj (H + 1) (.loop { rec .ready none with state := .busy }) := ⟨_, rfl⟩
      rw [← hW3]
      have hg3 : W2.grownBy W3 (some (H + 1)) := by rw [hW3]; exact grownBy_putObj' _ _ _
      have hl3 : W3.heap[H + 1]? = some (.loop { rec .ready none with state := .busy }) := by rw [hW3]; exact World.putObj_heap_same hlt2
      have hk3 : W3.heap[H]? = some (.deferred (some [])) := other hg3 (by omega) hk2
      have hi3 : I s W3 := hI s _ _ _ hi2 (by omega) (by omega) hg3
      have ow3 : W3.heap[H + 2]? = W2.heap[H + 2]? := by rw [hW3]; exact World.putObj_heap_other (by omega)
      have hb3 : Below n₀ W2 W3 := (Below.refl n₀ W2).grown hg3 (by omega) (fun k e => by cases e; omega)
      refine wpIn_mono (hbody W3 hg3 hi3) ?_
      rintro e a2 W4 hp
      have fin : Three H W3 W4 → ∀ jump : Option Code, ∃ W5, (Instr.endRound (H + 1) jump).run P W4 = .ok (.bool jump.isNone) W5 ∧ W4.grownBy W5 (some (H + 1)) ∧
          W5.heap[H + 1]? = some (.loop (rec (if jump.isNone then .ready else .done) jump)) ∧ W5.heap[H]? = some (.deferred (some [])) ∧ W5.heap[H + 2]? = W4.heap[H + 2]? := fun ht4 jump => by
        have hl4 := (ht4 (H + 1) (by omega) (by omega)).trans hl3
        have hk4 := (ht4 H (by omega) (by omega)).trans hk3
        have hr := run_endRound (P := P) jump hl4
        refine ⟨_, hr, grownBy_putObj' _ _ _, ?_, (World.putObj_heap_other (by omega)).trans hk4, World.putObj_heap_other (by omega)⟩
        rw [World.putObj_heap_same (Array.getElem?_eq_some_iff.1 hl4).1, hrec]
      cases e with
      | normal =>
        obtain ⟨ht4, hb4, hi4⟩ := hp
        obtain ⟨W5, hr, hg5, hl5, hk5, ho5⟩ := fin ht4 none
        have hb5 : Below n₀ W4 W5 := (Below.refl n₀ W4).grown hg5 (by have := hb4.size; have := hg3.size; omega) (fun k e => by cases e; omega)
        refine ⟨_, W5, hr, .inl ⟨rfl, ⟨hI _ _ _ _ hi4 (by omega) (by omega) hg5, hl5, hk5⟩, ((hb2.trans hb3).trans hb4).trans hb5, ?_⟩⟩
        rw [ho5, ht4 (H + 2) (by omega) (by omega), ow3, ht2 (H + 2) (by omega) (by omega)]
      | ret =>
        obtain ⟨ht4, hi4⟩ := hp
        obtain ⟨W5, hr, hg5, hl5, hk5, _⟩ := fin ht4 (some .ret)
        exact ⟨_, W5, hr, .inr ⟨rfl, hIx _ _ _ hi4 (by omega) (by omega) hg5, hl5, hk5⟩⟩
      | exit id => exact hp.elim
      | goto t => exact hp.elim
      | panic ch => exact hp.elim
      | outgrown => exact hp.elim
    | ret => exact hp.elim
    | exit id => exact hp.elim
    | goto t => exact hp.elim
    | panic ch => exact hp.elim
    | outgrown => exact hp.elim
  · rintro e W2 ⟨⟨v, rfl⟩, (⟨hi, hl, hk⟩ | ⟨hi, hl, hk⟩)⟩
    · have hr := run_endLoop (P := P) hl (by rw [hrec]; simp)
      rw [hrec] at hr
      exact ⟨none, _, hr, hdone _ ((hI stop).put _ hi (by omega) (by omega)) ((World.putObj_heap_other (by omega)).trans hk)⟩
    · have hr := run_endLoop (P := P) hl (by rw [hrec]; simp)
      rw [hrec] at hr
      exact ⟨some .ret, _, hr, hstop _ (hIx.put _ hi (by omega) (by omega)) ((World.putObj_heap_other (by omega)).trans hk)⟩
end Go.Proofs.Ytmgdbgloacbacaa
