/- octavoref08: Top, All, Ids: what each answers. Conditions: the slices' cells are replicas' spans. -/
import Derived.Test.YtinglfhndlklaaaClockRef7
namespace Go.Proofs.Ytinglfhndlklaaa.Clocks
open Go.RowKit Go.Proofs.Ytinglfhndlklaaa.Spans
attribute [local go_sem ↓] Go.wp_at_zero Go.wp_at_succ

theorem top_ok : ∀ {l : List Sp}, top l < 4294967296
  | [] => by simp [top]
  | x :: l => by have := x.ht; have := top_ok (l := l); unfold top; omega
theorem topC_ok : ∀ {c : List Tm}, topC c < 4294967296
  | [] => by simp [topC]
  | x :: c => by have := top_ok (l := x.2); have := topC_ok (c := c); unfold topC; omega
set_option maxRecDepth 100000 in
set_option maxHeartbeats 4000000 in
theorem refTopC_any {v : Value} {c : List Tm} {w : World} (hv : Tms w v c) :
    Calls Try.prog 35 #[v] w fun e w' => e = .returned (.int .u32 (topCC c : Int)) ∧ Below w.heap.size w w' := by
  obtain ⟨ao, cap, rfl⟩ := hv.shape
  obtain ⟨n, hn⟩ : ∃ n, n = c.length := ⟨_, rfl⟩
  have hm : n ≤ 9223372036854775807 := by rw [hn]; exact Tms.max hv
  have HV := Lib.hid hv
  have HN := Lib.hid hn
  obtain ⟨pb, hpb⟩ : ∃ p, mayC c = p := ⟨_, rfl⟩
  have MA : Hid (∀ W : World, Below w.heap.size w W → Calls Try.prog 48 #[.slice ao c.length cap] W fun e w' => e = .returned (.bool pb) ∧ Below W.heap.size W w') := fun W hW => by rw [← hpb]; exact refMayC_any (HV.out.keeps hW)
  rw [← hn] at MA ⊢
  have B0 := Lib.hid (Below.refl w.heap.size w)
  cases pb
  · have e0 : topCC c = 0 := by unfold topCC; rw [if_neg (by rw [hpb]; simp)]
    rw [e0]
    clear e0 hv hn hpb
    by_cases h0 : n = 0
    · have q1 : decide (0 < n) = false := decide_eq_false (by omega)
      have q1' : decide ((0 : Int) < (n : Int)) = false := decide_eq_false (by omega)
      have q2 : ¬ 0 < n := by omega
      go_enter Try.func35, Try.ntmps35
      go_wp2
      go_loopw [3, 4] (fun s i wr => s = .int .u32 0 ∧ i = .int .i64 0 ∧ wr = w) (fun _ _ _ => 0)
      case atStart => exact ⟨rfl, rfl, rfl⟩
      case round =>
        obtain ⟨rfl, rfl, rfl⟩ := hrel
        subst h0
        go_wp2
        go_ret
        exact ⟨rfl, Below.refl _ _⟩
    · have q1 : decide (0 < n) = true := decide_eq_true (by omega)
      have q1' : decide ((0 : Int) < (n : Int)) = true := decide_eq_true (by omega)
      have q2 : 0 < n := by omega
      go_enter Try.func35, Try.ntmps35
      go_wp2
      go_loopw [3, 4] (fun s i wr => s = .int .u32 0 ∧ i = .int .i64 0 ∧ wr = w) (fun _ _ _ => 0)
      case atStart => exact ⟨rfl, rfl, rfl⟩
      case round =>
        obtain ⟨rfl, rfl, rfl⟩ := hrel
        go_wp2_with fail
        refine (MA.out _ B0.out).mono ?_
        rintro e w2 ⟨rfl, b2⟩
        go_wp2
        go_ret
        exact ⟨rfl, b2⟩
  · have hC := (mayC_iff c).1 hpb
    have e0 : topCC c = topC c := by unfold topCC; rw [if_pos hpb]
    rw [e0]
    have HC := Lib.hid hC
    clear e0 hv hn hpb hC
    go_enter Try.func35, Try.ntmps35
    go_wp2
    go_loopw [3, 4] (fun s i wr => ∃ k m : Nat, k ≤ n ∧ i = .int .i64 (k : Int) ∧ s = .int .u32 (m : Int) ∧ Hid (m = topC (c.take k)) ∧ Hid (Below w.heap.size w wr)) (fun _ i _ => n - (intOf i).toNat)
    case atStart => exact ⟨0, 0, by omega, rfl, rfl, Lib.hid rfl, B0⟩
    case round =>
      obtain ⟨k, m, hk, rfl, rfl, hmt, hbel⟩ := hrel
      by_cases hkn : k < n
      · have q1 : decide (k < n) = true := by simpa using hkn
        have q2 : (0 : Int) ≤ (k : Int) := by omega
        have q3 : (k : Int) < (n : Int) := by omega
        have hkl : k < c.length := by rw [← HN.out]; exact hkn
        obtain ⟨wo, rfl⟩ : ∃ wo : World, wo = wr := ⟨_, rfl⟩
        go_wp2_with fail
        refine (MA.out _ hbel.out).mono ?_
        rintro e w2 ⟨rfl, b2⟩
        have B2 := Lib.hid (bt hbel.out b2)
        clear b2
        obtain ⟨b1, o1, u, rfl, hb1, ha0, ha1, -, hsp⟩ := (HV.out.keeps B2.out).at k hkl
        have hs := tm_take_snoc c k hkl
        have hts := topC_snoc (c.take k) (c.getD k ztm)
        rw [← hs] at hts
        obtain ⟨x, hx⟩ : ∃ x, x = c.getD k ztm := ⟨_, rfl⟩
        have hx' : c.getD k (0, []) = x := hx.symm
        rw [hx'] at ha0 hsp
        rw [← hx] at hts
        obtain ⟨xr, xs⟩ := x
        simp only at ha0 hsp hts
        have HSP := Lib.hid hsp
        obtain ⟨so, sc, rfl⟩ := hsp.shape
        obtain ⟨sl, hsl⟩ : ∃ sl, sl = xs.length := ⟨_, rfl⟩
        have hsx := Sees.max hsp
        rw [← hsl] at ha1 HSP hsx
        have HSL := Lib.hid hsl
        have HTS : Hid (topC (c.take (k + 1)) = max m (top xs)) := by show _ = _; rw [hts, hmt.out]
        have J0 : Hid (m = max m (top (xs.take 0))) := by show _ = _; simp [top]
        clear hx hx' hs hts hsp hsl ha0
        go_wp2
        go_loopw [3, 5] (fun s j wr => wr = w2 ∧ ∃ i y : Nat, i ≤ sl ∧ j = .int .i64 (i : Int) ∧ s = .int .u32 (y : Int) ∧ Hid (y = max m (top (xs.take i)))) (fun _ j _ => sl - (intOf j).toNat)
        case atStart => exact ⟨rfl, 0, m, by omega, rfl, rfl, J0⟩
        case round =>
          clear J0
          obtain ⟨hw2, i, y, hi, rfl, rfl, hy⟩ := hrel
          subst hw2
          by_cases his : i < sl
          · have p1 : decide (i < sl) = true := by simpa using his
            have p2 : (0 : Int) ≤ (i : Int) := by omega
            have p3 : (i : Int) < (sl : Int) := by omega
            obtain ⟨b2, o2, rfl, hb2, hc0, hc1⟩ := HSP.out.at i (by rw [← HSL.out]; exact his)
            have hss := take_snoc xs i (by rw [← HSL.out]; exact his)
            have htt := top_snoc (xs.take i) (xs.getD i zsp)
            rw [← hss] at htt
            obtain ⟨z, hz⟩ : ∃ z, z = (xs.getD i zsp).t := ⟨_, rfl⟩
            rw [← hz] at hc1 htt
            have HY2 : Hid (max y z = max m (top (xs.take (i + 1)))) := by show _ = _; rw [htt, hy.out]; omega
            clear hss htt hz hc0
            have hcase : (z < y ∧ max y z = y) ∨ (y = z ∧ max y z = y) ∨ (y < z ∧ max y z = z) := by omega
            rcases hcase with ⟨g1, g2⟩ | ⟨g1, g2⟩ | ⟨g1, g2⟩
            · rw [g2] at HY2
              have g3 : ¬ y < z := by omega
              have g4 : ¬ y ≤ z := by omega
              clear g2
              go_wp2
              go_roundw
              case rel => exact ⟨trivial, i + 1, y, by omega, by go_num, by go_num, HY2⟩
              case measure => simp [intOf]; omega
            · rw [g2] at HY2
              subst g1
              clear g2
              go_wp2
              go_roundw
              case rel => exact ⟨trivial, i + 1, y, by omega, by go_num, by go_num, HY2⟩
              case measure => simp [intOf]; omega
            · rw [g2] at HY2
              have g3 : ¬ z < y := by omega
              have g4 : ¬ z ≤ y := by omega
              clear g2
              go_wp2
              go_roundw
              case rel => exact ⟨trivial, i + 1, z, by omega, by go_num, by go_num, HY2⟩
              case measure => simp [intOf]; omega
          · have p1 : decide (i < sl) = false := by simpa using his
            have hkk : xs.take i = xs := List.take_of_length_le (by have := HSL.out; omega)
            have HY3 : Hid (y = topC (c.take (k + 1))) := by show _ = _; rw [hy.out, hkk, HTS.out]
            clear hkk
            go_wp2
            go_roundw
            case rel => exact ⟨k + 1, y, by omega, by go_num, by go_num, HY3, B2⟩
            case measure => simp [intOf]; omega
      · have q1 : decide (k < n) = false := by simpa using hkn
        have hkk : c.take k = c := List.take_of_length_le (by have := HN.out; omega)
        have hf : m = topC c := by have := hmt.out; rwa [hkk] at this
        subst hf
        clear hkk
        go_wp2
        go_ret
        exact ⟨rfl, hbel.out⟩
end Go.Proofs.Ytinglfhndlklaaa.Clocks
