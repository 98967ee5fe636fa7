/- octavo/span: Check, Count, Twin, Same: what each answers. Conditions: the slices' cells are spans. -/
import Derived.Test.YtinglfhndlklaaaSpanSetsRef
import Derived.Test.YtinglfhndlklaaaSpanMath3
namespace Go.Proofs.Ytinglfhndlklaaa.Spans
open Go.RowKit
attribute [local go_sem ↓] Go.wp_at_zero Go.wp_at_succ

theorem chk_no {l : List Sp} (h : ¬ (Fine l ∧ l.length ≤ 1024)) : chk l = 8 := by
  unfold chk
  rw [if_neg (fun hb => h ((mayB_iff l).1 hb))]
theorem chk_yes {l : List Sp} (h : Fine l ∧ l.length ≤ 1024) : chk l = 0 := by
  unfold chk
  rw [if_pos ((mayB_iff l).2 h)]
theorem chk_is {l : List Sp} : chk l = 0 ↔ mayB l = true := by
  unfold chk
  cases mayB l <;> simp

set_option maxRecDepth 100000 in
set_option maxHeartbeats 4000000 in
theorem pCheck_any {v : Value} {l : List Sp} {w : World} (hv : Sps w v l) :
    Calls Try.prog 46 #[v] w fun e w' => e = .returned (.int .i64 (chk l)) ∧ Below w.heap.size w w' := by
  obtain ⟨ao, cap, rfl⟩ := hv.shape
  obtain ⟨n, hn⟩ : ∃ n, n = l.length := ⟨_, rfl⟩
  have hm : n ≤ 9223372036854775807 := by rw [hn]; exact Sees.max hv
  have HV := Lib.hid hv
  have HN := Lib.hid hn
  have HBad := Lib.hid (chk_no (l := l))
  have HGood := Lib.hid (chk_yes (l := l))
  obtain ⟨c, hc⟩ : ∃ c, c = chk l := ⟨_, rfl⟩
  rw [← hc] at HBad HGood ⊢
  rw [← hn] at HBad HGood ⊢
  clear hv hn hc
  by_cases hbig : 1024 < n
  · have t1 : decide ((1024 : Int) < (n : Int)) = true := decide_eq_true (by omega)
    have t2 : decide (1024 < n) = true := decide_eq_true hbig
    obtain rfl : c = 8 := HBad.out (fun h => by omega)
    go_enter Try.func46, Try.ntmps46
    go_wp2
    go_ret
    exact ⟨rfl, Below.refl _ _⟩
  have t1 : decide ((1024 : Int) < (n : Int)) = false := decide_eq_false (by omega)
  have t2 : decide (1024 < n) = false := decide_eq_false hbig
  have B0 := Lib.hid (Below.refl w.heap.size w)
  go_enter Try.func46, Try.ntmps46
  go_wp2
  go_loopw [3, 11] (fun m i wr => ∃ k b : Nat, k ≤ n ∧ i = .int .i64 (k : Int) ∧ m = .int .u32 (b : Int) ∧ 1 ≤ b ∧ Hid ((k = 0 ∧ b = 1) ∨ ∃ j, k = j + 1 ∧ b = (l.getD j zsp).t + 2) ∧ Hid (Fine (l.take k)) ∧ Hid (Below w.heap.size w wr)) (fun _ i _ => n - (intOf i).toNat)
  case atStart => exact ⟨0, 1, by omega, rfl, rfl, by omega, Lib.hid (.inl ⟨rfl, rfl⟩), Lib.hid (by simp [Fine]), B0⟩
  case round =>
    obtain ⟨k, b, hk, rfl, rfl, hb1, hlast, hfin, hbel⟩ := hrel
    by_cases hkn : k < n
    · have q1 : decide (k < n) = true := by simpa using hkn
      have q2 : (0 : Int) ≤ (k : Int) := by omega
      have q3 : (k : Int) < (n : Int) := by omega
      obtain ⟨b1, o1, rfl, hb1', ha0, ha1⟩ := (HV.out.keeps hbel.out).at k (by rw [← HN.out]; exact hkn)
      obtain ⟨x, hx⟩ : ∃ x, x = l.getD k zsp := ⟨_, rfl⟩
      rw [← hx] at ha0 ha1
      have hno1 : ¬ Ok x → c = 8 := fun h => HBad.out (fun hF => h (by rw [hx]; exact fine_ok hF.1 (by rw [← HN.out]; exact hkn)))
      have hno2 : x.f < b → c = 8 := fun h => by
        rcases hlast.out with ⟨rfl, rfl⟩ | ⟨j, rfl, rfl⟩
        · exact hno1 (fun hok => by unfold Ok at hok; omega)
        · refine HBad.out (fun hF => ?_)
          have h3 := fine_next hF.1 (k := j) (by rw [← HN.out]; exact hkn)
          rw [← hx] at h3
          omega
      have hyes : Ok x → b ≤ x.f → Fine (l.take (k + 1)) := fun h1 h2 => by
        refine fine_take_succ (by rw [← HN.out]; exact hkn) hfin.out (by rw [← hx]; exact h1) ?_
        rcases hlast.out with ⟨h3, -⟩ | ⟨j, rfl, rfl⟩
        · exact .inl h3
        · refine .inr ?_
          rw [← hx]
          exact h2
      have HX := Lib.hid (congrArg Sp.t hx.symm)
      have HNo1 := Lib.hid hno1
      have HNo2 := Lib.hid hno2
      have HYes := Lib.hid hyes
      have XB := Lib.hid (fun o : Obj => hbel.out.alloc hbel.out.size o)
      obtain ⟨xf, xt, hxf, hxt⟩ := x
      simp only at ha0 ha1 HX HNo2 HYes
      clear hx hno1 hno2 hyes
      by_cases h1 : xf < b
      · have s1 : decide ((xf : Int) < (b : Int)) = true := decide_eq_true (by omega)
        have s2 : decide (xf < b) = true := decide_eq_true h1
        obtain rfl : c = 8 := HNo2.out h1
        go_wp2
        go_ret
        exact ⟨rfl, XB.out _⟩
      have s1 : decide ((xf : Int) < (b : Int)) = false := decide_eq_false (by omega)
      have s2 : decide (xf < b) = false := decide_eq_false h1
      by_cases h2 : xt < xf
      · have s3 : decide ((xt : Int) < (xf : Int)) = true := decide_eq_true (by omega)
        have s4 : decide (xt < xf) = true := decide_eq_true h2
        obtain rfl : c = 8 := HNo1.out (fun h => by unfold Ok at h; simp only at h; omega)
        go_wp2
        go_ret
        exact ⟨rfl, XB.out _⟩
      have s3 : decide ((xt : Int) < (xf : Int)) = false := decide_eq_false (by omega)
      have s4 : decide (xt < xf) = false := decide_eq_false h2
      by_cases h3 : 1073741824 < xt
      · have s5 : decide ((1073741824 : Int) < (xt : Int)) = true := decide_eq_true (by omega)
        have s6 : decide (1073741824 < xt) = true := decide_eq_true h3
        obtain rfl : c = 8 := HNo1.out (fun h => by unfold Ok at h; simp only at h; omega)
        go_wp2
        go_ret
        exact ⟨rfl, XB.out _⟩
      have s5 : decide ((1073741824 : Int) < (xt : Int)) = false := decide_eq_false (by omega)
      have s6 : decide (1073741824 < xt) = false := decide_eq_false h3
      have HF2 : Hid (Fine (l.take (k + 1))) := HYes.out (by unfold Ok; simp only; omega) (by omega)
      have eT : IntKind.u32.wrap ((xt : Int) + 2) = (xt : Int) + 2 := by rw [IntKind.wrap_u32]; omega
      have hb2 : 1 ≤ xt + 2 := by omega
      clear HNo1 HNo2 HYes
      go_wp2
      go_roundw
      case rel => exact ⟨k + 1, xt + 2, by omega, by go_num, by go_num, hb2, Lib.hid (.inr ⟨k, rfl, by rw [HX.out]⟩), HF2, Lib.hid (XB.out _)⟩
      case measure => simp [intOf]; omega
    · have q1 : decide (k < n) = false := by simpa using hkn
      have hkk : l.take k = l := List.take_of_length_le (by have := HN.out; omega)
      obtain rfl : c = 0 := HGood.out ⟨by have := hfin.out; rwa [hkk] at this, by omega⟩
      clear hkk
      go_wp2
      go_ret
      exact ⟨rfl, hbel.out⟩
theorem pCheck_is {v : Value} {l : List Sp} {w : World} (hv : Sps w v l) {c : Int} (h : chk l = c) :
    Calls Try.prog 46 #[v] w fun e w' => e = .returned (.int .i64 c) ∧ Below w.heap.size w w' := by
  rw [← h]; exact pCheck_any hv

theorem pTwin_any {v : Value} {l : List Sp} {w : World} (hv : Sps w v l) (hl : l.length ≤ 1000000) :
    Calls Try.prog 54 #[v] w fun e w' => ∃ v', e = .returned v' ∧ w'.ownsRow w.heap.size 63 2 v' l.length (sps l) ∧ Below w.heap.size w w' := by
  obtain ⟨ao, cap, rfl⟩ := hv.shape
  have HV : Hid (Sees w (.slice ao l.length cap) 2 l.length (sps l)) := hv
  have O0 : Hid (w.ownsRow w.heap.size 63 2 (.slice none 0 0) 0 []) := World.ownsRow_nil _ _ _ _
  clear hv
  go_enter Try.func54, Try.ntmps54
  go_wp2_with (at_builtin; refine wpList_append_sees rfl (.const (.slice none 0 0)) (.tmp 3) 26 63 rfl Try.underlying26 span_info rfl (by decide) w.heap.size _ 0 [] rfl O0.out _ l.length _ rfl HV.out (sps_oneCell l) ?k1 ?k2 ?k3 ?_)
  case k1 => omega
  case k2 => omega
  case k3 => simp
  rintro v1 w1 o1 g1 b1
  have HO : Hid (w1.ownsRow w.heap.size 63 2 v1 l.length (sps l)) := by
    have := o1
    unfold Hid
    simpa using this
  have HB := Lib.hid b1
  clear o1 g1 b1
  go_wp2
  go_ret
  exact ⟨_, rfl, HO.out, HB.out⟩

set_option maxHeartbeats 1000000 in
theorem slEq_yes {a b : Value} {l : List Sp} {w : World} (ha : Sps w a l) (hb : Sps w b l) :
    Calls Try.prog 81 #[a, b] w fun e w' => e = .returned (.bool true) ∧ Below w.heap.size w w' := by
  obtain ⟨ao, ca, rfl⟩ := ha.shape
  obtain ⟨bo, cb, rfl⟩ := hb.shape
  obtain ⟨n, hn⟩ : ∃ n, n = l.length := ⟨_, rfl⟩
  have hm : n ≤ 9223372036854775807 := by rw [hn]; exact Sees.max ha
  have HA := Lib.hid ha
  have HB := Lib.hid hb
  have HN := Lib.hid hn
  rw [← hn]
  clear ha hb hn
  have t1 : ((n : Int) != (n : Int)) = false := by simp
  go_enter Try.func81, Try.ntmps81
  go_wp2
  go_loopw [13] (fun i wr => ∃ k : Nat, k ≤ n ∧ i = .int .i64 (k : Int) ∧ ∃ q, wr = w.drewN q) (fun i _ => n - (intOf i).toNat)
  case atStart => exact ⟨0, by omega, rfl, 0, rfl⟩
  case round =>
    obtain ⟨k, hk, rfl, q, rfl⟩ := hrel
    by_cases hkn : k < n
    · have q1 : decide (k < n) = true := by simpa using hkn
      obtain ⟨b1, o1, rfl, hb1, ha0, ha1⟩ := HA.out.at k (by rw [← HN.out]; exact hkn)
      obtain ⟨b2, o2, rfl, hb2, hb0, hb1'⟩ := HB.out.at k (by rw [← HN.out]; exact hkn)
      obtain ⟨x, hx⟩ : ∃ x, x = l.getD k zsp := ⟨_, rfl⟩
      rw [← hx] at ha0 ha1 hb0 hb1'
      obtain ⟨xt, xr, _, _⟩ := x
      simp only at ha0 ha1 hb0 hb1'
      have q2 : (0 : Int) ≤ (k : Int) := by omega
      have q3 : (k : Int) < (n : Int) := by omega
      clear hx
      go_wp2
      go_quiet (fail)
      go_wp2
      go_roundw
      case rel => exact ⟨k + 1, by omega, by go_num, _, rfl⟩
      case measure => simp [intOf]; omega
    · have q1 : decide (k < n) = false := by simpa using hkn
      go_wp2
      go_ret
      exact ⟨rfl, below_draw (Below.refl _ _) _⟩

set_option maxHeartbeats 1000000 in
theorem slEq_no {a b : Value} {l m : List Sp} {w : World} (ha : Sps w a l) (hb : Sps w b m) (hlm : l ≠ m) :
    Calls Try.prog 81 #[a, b] w fun e w' => e = .returned (.bool false) ∧ Below w.heap.size w w' := by
  obtain ⟨ao, ca, rfl⟩ := ha.shape
  obtain ⟨bo, cb, rfl⟩ := hb.shape
  obtain ⟨n, hn⟩ : ∃ n, n = l.length := ⟨_, rfl⟩
  obtain ⟨n2, hn2⟩ : ∃ n, n = m.length := ⟨_, rfl⟩
  have hm : n ≤ 9223372036854775807 := by rw [hn]; exact Sees.max ha
  have HA := Lib.hid ha
  have HB := Lib.hid hb
  have HN := Lib.hid hn
  have HN2 := Lib.hid hn2
  have HL := Lib.hid hlm
  rw [← hn, ← hn2]
  clear ha hb hn hn2 hlm
  by_cases hlen : n = n2
  · subst hlen
    have t1 : ((n : Int) != (n : Int)) = false := by simp
    go_enter Try.func81, Try.ntmps81
    go_wp2
    go_loopw [13] (fun i wr => ∃ k : Nat, k ≤ n ∧ i = .int .i64 (k : Int) ∧ Hid (∀ j, j < k → l.getD j zsp = m.getD j zsp) ∧ ∃ q, wr = w.drewN q) (fun i _ => n - (intOf i).toNat)
    case atStart => exact ⟨0, by omega, rfl, Lib.hid (by omega), 0, rfl⟩
    case round =>
      obtain ⟨k, hk, rfl, hal, q, rfl⟩ := hrel
      by_cases hkn : k < n
      · have q1 : decide (k < n) = true := by simpa using hkn
        obtain ⟨b1, o1, rfl, hb1, ha0, ha1⟩ := HA.out.at k (by rw [← HN.out]; exact hkn)
        obtain ⟨b2, o2, rfl, hb2, hb0, hb1'⟩ := HB.out.at k (by rw [← HN2.out]; exact hkn)
        obtain ⟨x, hx⟩ : ∃ x, x = l.getD k zsp := ⟨_, rfl⟩
        obtain ⟨y, hy⟩ : ∃ y, y = m.getD k zsp := ⟨_, rfl⟩
        rw [← hx] at ha0 ha1
        rw [← hy] at hb0 hb1'
        have q2 : (0 : Int) ≤ (k : Int) := by omega
        have q3 : (k : Int) < (n : Int) := by omega
        by_cases hxy : x = y
        · have HX := Lib.hid (show l.getD k zsp = m.getD k zsp by rw [← hx, ← hy, hxy])
          subst hxy
          obtain ⟨xt, xr, _, _⟩ := x
          simp only at ha0 ha1 hb0 hb1'
          clear hx hy
          go_wp2
          go_quiet (fail)
          go_wp2
          go_roundw
          case rel =>
            refine ⟨k + 1, by omega, by go_num, Lib.hid (fun j hj => ?_), _, rfl⟩
            by_cases e : j = k
            · rw [e]; exact HX.out
            · exact hal.out j (by omega)
          case measure => simp [intOf]; omega
        · have hparts : ¬ x.f = y.f ∨ (x.f = y.f ∧ ¬ x.t = y.t) := by
            by_cases h1 : x.f = y.f
            · exact .inr ⟨h1, fun h2 => hxy (Sp.ext' h1 h2)⟩
            · exact .inl h1
          obtain ⟨xt, xr, _, _⟩ := x
          obtain ⟨yt, yr, _, _⟩ := y
          simp only at ha0 ha1 hb0 hb1' hparts
          clear hx hy hxy
          rcases hparts with h1 | ⟨rfl, h2⟩
          · go_wp2
            go_quiet (fail)
            go_wp2
            go_ret
            exact ⟨rfl, below_draw (below_draw (Below.refl _ _) _) _⟩
          · have h4 : ((xr : Int) == (yr : Int)) = false := by simp; omega
            have h5 : decide (xr = yr) = false := decide_eq_false h2
            go_wp2
            go_quiet (fail)
            go_wp2
            go_ret
            exact ⟨rfl, below_draw (below_draw (Below.refl _ _) _) _⟩
      · exfalso
        obtain ⟨j, h1, h2⟩ := sps_ne (by rw [← HN.out, ← HN2.out]) HL.out
        exact h2 (hal.out j (by have := HN.out; omega))
  · have t1 : ((n : Int) != (n2 : Int)) = true := by simp; omega
    have t2 : ¬ n = n2 := hlen
    go_enter Try.func81, Try.ntmps81
    go_wp2
    go_ret
    exact ⟨rfl, Below.refl _ _⟩
theorem pSame_any {a b : Value} {l m : List Sp} {w : World} (ha : Sps w a l) (hb : Sps w b m) :
    Calls Try.prog 64 #[a, b] w fun e w' => e = .returned (.bool (decide (l = m))) ∧ Below w.heap.size w w' := by
  by_cases h : l = m
  · subst h
    rw [decide_eq_true rfl]
    have E := Lib.hid (slEq_yes ha hb)
    clear ha hb
    go_enter Try.func64, Try.ntmps64
    go_wp2_with fail
    refine E.out.mono ?_
    rintro e w1 ⟨rfl, b1⟩
    go_wp2
    go_ret
    exact ⟨rfl, b1⟩
  · rw [decide_eq_false h]
    have E := Lib.hid (slEq_no ha hb h)
    clear ha hb h
    go_enter Try.func64, Try.ntmps64
    go_wp2_with fail
    refine E.out.mono ?_
    rintro e w1 ⟨rfl, b1⟩
    go_wp2
    go_ret
    exact ⟨rfl, b1⟩

set_option maxRecDepth 100000 in
set_option maxHeartbeats 4000000 in
theorem pCount_any {v : Value} {l : List Sp} {w : World} (hv : Sps w v l) :
    Calls Try.prog 45 #[v] w fun e w' => e = .returned (.int .i64 (count l : Int)) ∧ Below w.heap.size w w' := by
  obtain ⟨ao, cap, rfl⟩ := hv.shape
  obtain ⟨c, hc⟩ : ∃ c, chk l = c := ⟨_, rfl⟩
  have M := Lib.hid (pCheck_is hv hc)
  cases hb : mayB l
  · have hc8 : c = 8 := by rw [← hc]; unfold chk; rw [hb]; rfl
    have e0 : count l = 0 := by unfold count; rw [hb]; rfl
    rw [e0]
    subst hc8
    clear hb hv hc e0
    go_enter Try.func45, Try.ntmps45
    go_wp2_with fail
    refine M.out.mono ?_
    rintro e w1 ⟨rfl, b1⟩
    go_wp2
    go_ret
    exact ⟨rfl, b1⟩
  · have hc0 : c = 0 := by rw [← hc]; unfold chk; rw [hb]; rfl
    have e0 : count l = many l := by unfold count; rw [hb]; rfl
    have hF := (mayB_iff l).1 hb
    rw [e0]
    subst hc0
    have HV := Lib.hid hv
    have HF := Lib.hid hF.1
    obtain ⟨n, hn⟩ : ∃ n, n = l.length := ⟨_, rfl⟩
    have HN := Lib.hid hn
    have hl : n ≤ 1024 := by rw [hn]; exact hF.2
    rw [← hn] at M ⊢
    clear hb hv hc e0 hF hn
    go_enter Try.func45, Try.ntmps45
    go_wp2_with fail
    refine M.out.mono ?_
    rintro e w1 ⟨rfl, b1⟩
    have B1 := Lib.hid b1
    clear b1
    go_wp2
    go_loopw [3, 11] (fun s i wr => ∃ k m : Nat, k ≤ n ∧ i = .int .i64 (k : Int) ∧ s = .int .i64 (m : Int) ∧ m ≤ 1073741824 * k ∧ Hid (m = many (l.take k)) ∧ Hid (Below w.heap.size w wr)) (fun _ i _ => n - (intOf i).toNat)
    case atStart => exact ⟨0, 0, by omega, rfl, rfl, by omega, Lib.hid rfl, B1⟩
    case round =>
      obtain ⟨k, m, hk, rfl, rfl, hm, hmany, hbel⟩ := hrel
      by_cases hkn : k < n
      · have q1 : decide (k < n) = true := by simpa using hkn
        obtain ⟨b1, o1, rfl, hb1, ha0, ha1⟩ := (HV.out.keeps hbel.out).at k (by rw [← HN.out]; exact hkn)
        have hs := take_snoc l k (by rw [← HN.out]; exact hkn)
        have hok := fine_ok HF.out (k := k) (by rw [← HN.out]; exact hkn)
        obtain ⟨x, hx⟩ : ∃ x, x = l.getD k zsp := ⟨_, rfl⟩
        rw [← hx] at ha0 ha1 hs hok
        have hmn := many_snoc (l.take k) x
        rw [← hs, ← hmany.out] at hmn
        obtain ⟨xf, xt, _, _⟩ := x
        unfold Ok at hok
        simp only at ha0 ha1 hmn hok
        obtain ⟨o1', o2, o3⟩ := hok
        obtain ⟨d, hd⟩ : ∃ d : Nat, d = xt - xf := ⟨_, rfl⟩
        have e1 : (xt : Int) - (xf : Int) = (d : Int) := by omega
        have e2 : IntKind.u32.wrap (d : Int) = (d : Int) := by rw [IntKind.wrap_u32]; omega
        have e3 : IntKind.i64.wrap (d : Int) = (d : Int) := IntWalk.i64_in _ (by omega)
        have e4 : IntKind.i64.wrap ((d : Int) + 1) = (d : Int) + 1 := IntWalk.i64_in _ (by omega)
        have e5 : IntKind.i64.wrap ((m : Int) + ((d : Int) + 1)) = (m : Int) + ((d : Int) + 1) := IntWalk.i64_in _ (by omega)
        have HM2 : Hid (m + (d + 1) = many (l.take (k + 1))) := by show _ = _; rw [hmn, hd]
        have hb2 : m + (d + 1) ≤ 1073741824 * (k + 1) := by omega
        have q2 : (0 : Int) ≤ (k : Int) := by omega
        have q3 : (k : Int) < (n : Int) := by omega
        have XB := Lib.hid (fun o : Obj => hbel.out.alloc hbel.out.size o)
        clear hx hs hmn hd
        go_wp2
        go_roundw
        case rel => exact ⟨k + 1, m + (d + 1), by omega, by go_num, by go_num, hb2, HM2, Lib.hid (XB.out _)⟩
        case measure => simp [intOf]; omega
      · have q1 : decide (k < n) = false := by simpa using hkn
        have hkk : l.take k = l := List.take_of_length_le (by have := HN.out; omega)
        have hf : m = many l := by have := hmany.out; rwa [hkk] at this
        subst hf
        clear hkk
        go_wp2
        go_ret
        exact ⟨rfl, hbel.out⟩
end Go.Proofs.Ytinglfhndlklaaa.Spans
