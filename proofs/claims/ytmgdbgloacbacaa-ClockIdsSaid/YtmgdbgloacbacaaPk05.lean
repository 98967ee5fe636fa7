/- octavoref08: Top, Same: what each answers. Conditions: the slices' cells are replicas' spans. -/
import Derived.Test.YtmgdbgloacbacaaPk04
import Derived.Test.YtmgdbgloacbacaaPk01

namespace Go.Proofs.Ytmgdbgloacbacaa.Clocks
open Go.RowKit Go.Proofs.Ytmgdbgloacbacaa.Spans
attribute [local go_sem ↓] Go.wp_at_zero Go.wp_at_succ

theorem tms_ne : ∀ {a b : List Tm}, a.length = b.length → a ≠ b → ∃ k, k < a.length ∧ a.getD k ztm ≠ b.getD k ztm
  | [], [], _, h => absurd rfl h
  | x :: a, y :: b, hl, h => by
    by_cases hxy : x = y
    · subst hxy
      obtain ⟨k, h1, h2⟩ := tms_ne (a := a) (b := b) (by simpa using hl) (fun e => h (by rw [e]))
      exact ⟨k + 1, by simpa using h1, by simpa using h2⟩
    · exact ⟨0, by simp, by simpa using hxy⟩
  | [], _ :: _, hl, _ => by simp at hl
  | _ :: _, [], hl, _ => by simp at hl

set_option maxRecDepth 100000 in
set_option maxHeartbeats 4000000 in
theorem refSameC_any {a b : Value} {c d : List Tm} {w : World} (ha : Tms w a c) (hb : Tms w b d) :
    Calls Try.prog 13 #[a, b] w fun e w' => e = .returned (.bool (decide (c = d))) ∧ Below w.heap.size w w' := by
  obtain ⟨ao, ca, rfl⟩ := ha.shape
  obtain ⟨bo, cb, rfl⟩ := hb.shape
  obtain ⟨n, hn⟩ : ∃ n, n = c.length := ⟨_, rfl⟩
  obtain ⟨n2, hn2⟩ : ∃ n, n = d.length := ⟨_, rfl⟩
  have hm : n ≤ 9223372036854775807 := by rw [hn]; exact Tms.max ha
  have HA := Lib.hid ha
  have HB := Lib.hid hb
  have HN := Lib.hid hn
  have HN2 := Lib.hid hn2
  obtain ⟨R, hR⟩ : ∃ R, R = decide (c = d) := ⟨_, rfl⟩
  have HNo : Hid (c ≠ d → R = false) := fun h => by rw [hR]; exact decide_eq_false h
  have HYes : Hid (c = d → R = true) := fun h => by rw [hR]; exact decide_eq_true h
  rw [← hn, ← hn2, ← hR]
  clear ha hb hn hn2 hR
  by_cases hlen : n = n2
  · subst hlen
    have t1 : ((n : Int) != (n : Int)) = false := by simp
    go_enter Try.func13, Try.ntmps13
    go_wp2
    go_loopw [5] (fun i wr => ∃ k : Nat, k ≤ n ∧ i = .int .i64 (k : Int) ∧ Hid (∀ j, j < k → c.getD j ztm = d.getD j ztm) ∧ ∃ q, wr = w.drewN q) (fun i _ => n - (intOf i).toNat)
    case atStart => exact ⟨0, by omega, rfl, Lib.hid (fun j hj => by omega), 0, rfl⟩
    case round =>
      obtain ⟨k, hk, rfl, hal, q, rfl⟩ := hrel
      by_cases hkn : k < n
      · have q1 : decide (k < n) = true := by simpa using hkn
        have q2 : (0 : Int) ≤ (k : Int) := by omega
        have q3 : (k : Int) < (n : Int) := by omega
        have hkc : k < c.length := by rw [← HN.out]; exact hkn
        have hkd : k < d.length := by rw [← HN2.out]; exact hkn
        obtain ⟨b1, o1, u1, rfl, hb1, ha0, ha1, -, hs1⟩ := HA.out.at k hkc
        obtain ⟨b2, o2, u2, rfl, hb2, hb0, hb1', -, hs2⟩ := HB.out.at k hkd
        obtain ⟨x, hx⟩ : ∃ x, x = c.getD k ztm := ⟨_, rfl⟩
        obtain ⟨y, hy⟩ : ∃ y, y = d.getD k ztm := ⟨_, rfl⟩
        have hx' : c.getD k (0, []) = x := hx.symm
        have hy' : d.getD k (0, []) = y := hy.symm
        rw [hx'] at ha0 hs1
        rw [hy'] at hb0 hs2
        have hne : x ≠ y → R = false := fun h => HNo.out (fun e => h (by rw [hx, hy, e]))
        have HNe := Lib.hid hne
        have HXY : Hid (x = y → ∀ j, j < k + 1 → c.getD j ztm = d.getD j ztm) := fun e j hj => by
          by_cases q : j = k
          · rw [q, ← hx, ← hy, e]
          · exact hal.out j (by omega)
        obtain ⟨xr, xs⟩ := x
        obtain ⟨yr, ys⟩ := y
        simp only at ha0 hb0 hs1 hs2 HNe HXY
        have SM : Hid (∀ a, Calls Try.prog 36 #[u1, u2] (w.drewN (q + a)) fun e w' => e = .returned (.bool (decide (xs = ys))) ∧ ∃ m, w' = w.drewN (q + m)) := fun a => by
          refine (refSame_drawn (hs1.keeps (below_draw (Below.refl _ _) (q + a))) (hs2.keeps (below_draw (Below.refl _ _) (q + a)))).mono ?_
          rintro e w' ⟨he, m, hm⟩
          exact ⟨he, a + m, by rw [hm, World.drewN_drewN, Nat.add_assoc]⟩
        obtain ⟨so1, sc1, rfl⟩ := hs1.shape
        obtain ⟨so2, sc2, rfl⟩ := hs2.shape
        obtain ⟨l1, hl1⟩ : ∃ l1, l1 = xs.length := ⟨_, rfl⟩
        obtain ⟨l2, hl2⟩ : ∃ l2, l2 = ys.length := ⟨_, rfl⟩
        rw [← hl1] at ha1 SM
        rw [← hl2] at hb1' SM
        clear hx hy hx' hy' hne hs1 hs2 hl1 hl2
        by_cases h1 : xr = yr
        · subst h1
          have s1 : ((xr : Int) == (xr : Int)) = true := by simp
          have s2 : ((xr : Int) != (xr : Int)) = false := by simp
          by_cases h2 : xs = ys
          · rw [decide_eq_true h2] at SM
            have HX2 := Lib.hid (HXY.out (by rw [h2]))
            clear h2 HXY HNe
            go_wp2
            go_quiet ((go_at_call 36; exact SM.out _))
            go_wp2
            go_roundw
            case rel => exact ⟨k + 1, by omega, by go_num, HX2, _, rfl⟩
            case measure => simp [intOf]; omega
          · rw [decide_eq_false h2] at SM
            obtain rfl : R = false := HNe.out (fun e => h2 (Prod.mk.inj e).2)
            clear h2 HXY HNe
            go_wp2
            go_quiet ((go_at_call 36; exact SM.out _))
            go_wp2
            go_ret
            exact ⟨rfl, by first | exact below_draw (below_draw (Below.refl _ _) _) _ | exact below_draw (Below.refl _ _) _⟩
        · have s1 : ((xr : Int) == (yr : Int)) = false := by simp; omega
          have s2 : ((xr : Int) != (yr : Int)) = true := by simp; omega
          have s3 : decide (xr = yr) = false := decide_eq_false h1
          obtain rfl : R = false := HNe.out (fun e => h1 (Prod.mk.inj e).1)
          clear HXY HNe
          go_wp2
          go_quiet (fail)
          go_wp2
          go_ret
          exact ⟨rfl, below_draw (below_draw (Below.refl _ _) _) _⟩
      · have q1 : decide (k < n) = false := by simpa using hkn
        obtain rfl : R = true := HYes.out (by
          by_cases e : c = d
          · exact e
          · obtain ⟨j, h1, h2⟩ := tms_ne (by rw [← HN.out, ← HN2.out]) e
            exact absurd (hal.out j (by have := HN.out; omega)) h2)
        go_wp2
        go_ret
        exact ⟨rfl, below_draw (Below.refl _ _) _⟩
  · have t1 : ((n : Int) != (n2 : Int)) = true := by simp; omega
    have t2 : ¬ n = n2 := hlen
    obtain rfl : R = false := HNo.out (fun e => hlen (by rw [HN.out, HN2.out, e]))
    go_enter Try.func13, Try.ntmps13
    go_wp2
    go_ret
    exact ⟨rfl, Below.refl _ _⟩
end Go.Proofs.Ytmgdbgloacbacaa.Clocks

/- octavoref08: Top, All, Ids: what each answers. Conditions: the slices' cells are replicas' spans. -/
namespace Go.Proofs.Ytmgdbgloacbacaa.Clocks
open Go.RowKit Go.Proofs.Ytmgdbgloacbacaa.Spans
attribute [local go_sem ↓] Go.wp_at_zero Go.wp_at_succ

theorem top_ok : ∀ {l : List Sp}, top l < 4294967296
  | [] => by simp [top]
  | x :: l => by have := x.ht; have := top_ok (l := l); unfold top; omega
theorem topC_ok : ∀ {c : List Tm}, topC c < 4294967296
  | [] => by simp [topC]
  | x :: c => by have := top_ok (l := x.2); have := topC_ok (c := c); unfold topC; omega
set_option maxRecDepth 100000 in
set_option maxHeartbeats 4000000 in
theorem refTopC_any {v : Value} {c : List Tm} {w : World} (hv : Tms w v c) :
    Calls Try.prog 21 #[v] w fun e w' => e = .returned (.int .u32 (topCC c : Int)) ∧ Below w.heap.size w w' := by
  obtain ⟨ao, cap, rfl⟩ := hv.shape
  obtain ⟨n, hn⟩ : ∃ n, n = c.length := ⟨_, rfl⟩
  have hm : n ≤ 9223372036854775807 := by rw [hn]; exact Tms.max hv
  have HV := Lib.hid hv
  have HN := Lib.hid hn
  obtain ⟨pb, hpb⟩ : ∃ p, mayC c = p := ⟨_, rfl⟩
  have MA : Hid (∀ W : World, Below w.heap.size w W → Calls Try.prog 27 #[.slice ao c.length cap] W fun e w' => e = .returned (.bool pb) ∧ Below W.heap.size W w') := fun W hW => by rw [← hpb]; exact refMayC_any (HV.out.keeps hW)
  rw [← hn] at MA ⊢
  have B0 := Lib.hid (Below.refl w.heap.size w)
  cases pb
  · have e0 : topCC c = 0 := by unfold topCC; rw [if_neg (by rw [hpb]; simp)]
    rw [e0]
    clear e0 hv hn hpb
    by_cases h0 : n = 0
    · have q1 : decide (0 < n) = false := decide_eq_false (by omega)
      have q1' : decide ((0 : Int) < (n : Int)) = false := decide_eq_false (by omega)
      have q2 : ¬ 0 < n := by omega
      go_enter Try.func21, Try.ntmps21
      go_wp2
      go_loopw [3, 4] (fun s i wr => s = .int .u32 0 ∧ i = .int .i64 0 ∧ wr = w) (fun _ _ _ => 0)
      case atStart => exact ⟨rfl, rfl, rfl⟩
      case round =>
        obtain ⟨rfl, rfl, rfl⟩ := hrel
        subst h0
        go_wp2
        go_ret
        exact ⟨rfl, Below.refl _ _⟩
    · have q1 : decide (0 < n) = true := decide_eq_true (by omega)
      have q1' : decide ((0 : Int) < (n : Int)) = true := decide_eq_true (by omega)
      have q2 : 0 < n := by omega
      go_enter Try.func21, Try.ntmps21
      go_wp2
      go_loopw [3, 4] (fun s i wr => s = .int .u32 0 ∧ i = .int .i64 0 ∧ wr = w) (fun _ _ _ => 0)
      case atStart => exact ⟨rfl, rfl, rfl⟩
      case round =>
        obtain ⟨rfl, rfl, rfl⟩ := hrel
        go_wp2_with fail
        refine (MA.out _ B0.out).mono ?_
        rintro e w2 ⟨rfl, b2⟩
        go_wp2
        go_ret
        exact ⟨rfl, b2⟩
  · have hC := (mayC_iff c).1 hpb
    have e0 : topCC c = topC c := by unfold topCC; rw [if_pos hpb]
    rw [e0]
    have HC := Lib.hid hC
    clear e0 hv hn hpb hC
    go_enter Try.func21, Try.ntmps21
    go_wp2
    go_loopw [3, 4] (fun s i wr => ∃ k m : Nat, k ≤ n ∧ i = .int .i64 (k : Int) ∧ s = .int .u32 (m : Int) ∧ Hid (m = topC (c.take k)) ∧ Hid (Below w.heap.size w wr)) (fun _ i _ => n - (intOf i).toNat)
    case atStart => exact ⟨0, 0, by omega, rfl, rfl, Lib.hid rfl, B0⟩
    case round =>
      obtain ⟨k, m, hk, rfl, rfl, hmt, hbel⟩ := hrel
      by_cases hkn : k < n
      · have q1 : decide (k < n) = true := by simpa using hkn
        have q2 : (0 : Int) ≤ (k : Int) := by omega
        have q3 : (k : Int) < (n : Int) := by omega
        have hkl : k < c.length := by rw [← HN.out]; exact hkn
        obtain ⟨wo, rfl⟩ : ∃ wo : World, wo = wr := ⟨_, rfl⟩
        go_wp2_with fail
        refine (MA.out _ hbel.out).mono ?_
        rintro e w2 ⟨rfl, b2⟩
        have B2 := Lib.hid (bt hbel.out b2)
        clear b2
        obtain ⟨b1, o1, u, rfl, hb1, ha0, ha1, -, hsp⟩ := (HV.out.keeps B2.out).at k hkl
        have hs := tm_take_snoc c k hkl
        have hts := topC_snoc (c.take k) (c.getD k ztm)
        rw [← hs] at hts
        obtain ⟨x, hx⟩ : ∃ x, x = c.getD k ztm := ⟨_, rfl⟩
        have hx' : c.getD k (0, []) = x := hx.symm
        rw [hx'] at ha0 hsp
        rw [← hx] at hts
        obtain ⟨xr, xs⟩ := x
        simp only at ha0 hsp hts
        have HSP := Lib.hid hsp
        obtain ⟨so, sc, rfl⟩ := hsp.shape
        obtain ⟨sl, hsl⟩ : ∃ sl, sl = xs.length := ⟨_, rfl⟩
        have hsx := Sees.max hsp
        rw [← hsl] at ha1 HSP hsx
        have HSL := Lib.hid hsl
        have HTS : Hid (topC (c.take (k + 1)) = max m (top xs)) := by show _ = _; rw [hts, hmt.out]
        have J0 : Hid (m = max m (top (xs.take 0))) := by show _ = _; simp [top]
        clear hx hx' hs hts hsp hsl ha0
        go_wp2
        go_loopw [3, 5] (fun s j wr => wr = w2 ∧ ∃ i y : Nat, i ≤ sl ∧ j = .int .i64 (i : Int) ∧ s = .int .u32 (y : Int) ∧ Hid (y = max m (top (xs.take i)))) (fun _ j _ => sl - (intOf j).toNat)
        case atStart => exact ⟨rfl, 0, m, by omega, rfl, rfl, J0⟩
        case round =>
          clear J0
          obtain ⟨hw2, i, y, hi, rfl, rfl, hy⟩ := hrel
          subst hw2
          by_cases his : i < sl
          · have p1 : decide (i < sl) = true := by simpa using his
            have p2 : (0 : Int) ≤ (i : Int) := by omega
            have p3 : (i : Int) < (sl : Int) := by omega
            obtain ⟨b2, o2, rfl, hb2, hc0, hc1⟩ := HSP.out.at i (by rw [← HSL.out]; exact his)
            have hss := take_snoc xs i (by rw [← HSL.out]; exact his)
            have htt := top_snoc (xs.take i) (xs.getD i zsp)
            rw [← hss] at htt
            obtain ⟨z, hz⟩ : ∃ z, z = (xs.getD i zsp).t := ⟨_, rfl⟩
            rw [← hz] at hc1 htt
            have HY2 : Hid (max y z = max m (top (xs.take (i + 1)))) := by show _ = _; rw [htt, hy.out]; omega
            clear hss htt hz hc0
            have hcase : (z < y ∧ max y z = y) ∨ (y = z ∧ max y z = y) ∨ (y < z ∧ max y z = z) := by omega
            rcases hcase with ⟨g1, g2⟩ | ⟨g1, g2⟩ | ⟨g1, g2⟩
            · rw [g2] at HY2
              have g3 : ¬ y < z := by omega
              have g4 : ¬ y ≤ z := by omega
              clear g2
              go_wp2
              go_roundw
              case rel => exact ⟨trivial, i + 1, y, by omega, by go_num, by go_num, HY2⟩
              case measure => simp [intOf]; omega
            · rw [g2] at HY2
              subst g1
              clear g2
              go_wp2
              go_roundw
              case rel => exact ⟨trivial, i + 1, y, by omega, by go_num, by go_num, HY2⟩
              case measure => simp [intOf]; omega
            · rw [g2] at HY2
              have g3 : ¬ z < y := by omega
              have g4 : ¬ z ≤ y := by omega
              clear g2
              go_wp2
              go_roundw
              case rel => exact ⟨trivial, i + 1, z, by omega, by go_num, by go_num, HY2⟩
              case measure => simp [intOf]; omega
          · have p1 : decide (i < sl) = false := by simpa using his
            have hkk : xs.take i = xs := List.take_of_length_le (by have := HSL.out; omega)
            have HY3 : Hid (y = topC (c.take (k + 1))) := by show _ = _; rw [hy.out, hkk, HTS.out]
            clear hkk
            go_wp2
            go_roundw
            case rel => exact ⟨k + 1, y, by omega, by go_num, by go_num, HY3, B2⟩
            case measure => simp [intOf]; omega
      · have q1 : decide (k < n) = false := by simpa using hkn
        have hkk : c.take k = c := List.take_of_length_le (by have := HN.out; omega)
        have hf : m = topC c := by have := hmt.out; rwa [hkk] at this
        subst hf
        clear hkk
        go_wp2
        go_ret
        exact ⟨rfl, hbel.out⟩
end Go.Proofs.Ytmgdbgloacbacaa.Clocks

/- octavoref08: All, Ids: what each answers. Conditions: the slices' cells are replicas' spans. -/
namespace Go.Proofs.Ytmgdbgloacbacaa.Clocks
open Go.RowKit Go.Proofs.Ytmgdbgloacbacaa.Spans
attribute [local go_sem ↓] Go.wp_at_zero Go.wp_at_succ

theorem allI_take_le (c : List Tm) : ∀ k, (allI (c.take k)).length ≤ (allI c).length := by
  induction c with
  | nil => intro k; simp [allI]
  | cons x c ih =>
    intro k
    cases k with
    | zero => simp [allI]
    | succ k => have := ih k; simp only [List.take_succ_cons, allI, List.length_append]; omega
theorem spI_take_le (r : Nat) (l : List Sp) : ∀ k, (spI r (l.take k)).length ≤ (spI r l).length := by
  induction l with
  | nil => intro k; simp [spI]
  | cons x l ih =>
    intro k
    cases k with
    | zero => simp [spI]
    | succ k => have := ih k; simp only [List.take_succ_cons, spI, List.length_append]; omega
theorem ids_one (a : Id) : ids [a] = [.int .u32 (a.t : Int), .int .u8 (a.r : Int)] := rfl
/-- A row of stamps of the call's own. -/
def OwnI (w : World) (base : Nat) (v : Value) (L : List Id) : Prop := w.ownsRow base 25 2 v L.length (ids L)
theorem OwnI.nil (w : World) (base : Nat) : OwnI w base (.slice none 0 0) [] := World.ownsRow_nil _ _ _ _

set_option maxRecDepth 100000 in
set_option maxHeartbeats 4000000 in
theorem all_any {v : Value} {c : List Tm} {w : World} (hv : Tms w v c) (hc : Cok c) (hmany : manyC c ≤ 1024) :
    Calls Try.prog 29 #[v] w fun e w' => ∃ v', e = .returned v' ∧ OwnI w' w.heap.size v' (allI c) ∧ Below w.heap.size w w' := by
  obtain ⟨ao, cap, rfl⟩ := hv.shape
  obtain ⟨n, hn⟩ : ∃ n, n = c.length := ⟨_, rfl⟩
  have hm : n ≤ 9223372036854775807 := by rw [hn]; exact Tms.max hv
  have HV := Lib.hid hv
  have HN := Lib.hid hn
  have HC := Lib.hid hc
  have HL : Hid ((allI c).length ≤ 1024) := by show _ ≤ _; rw [allI_len (cok_all hc)]; exact hmany
  rw [← hn]
  have B0 := Lib.hid (Below.refl w.heap.size w)
  have O0 : Hid (OwnI w w.heap.size (.slice none 0 0) (allI (c.take 0))) := OwnI.nil _ _
  clear hv hn hc hmany
  go_enter Try.func29, Try.ntmps29
  go_wp2
  go_loopw [3, 4] (fun o i wr => ∃ k : Nat, k ≤ n ∧ i = .int .i64 (k : Int) ∧ Hid (OwnI wr w.heap.size o (allI (c.take k))) ∧ Hid (Below w.heap.size w wr)) (fun _ i _ => n - (intOf i).toNat)
  case atStart => exact ⟨0, by omega, rfl, O0, B0⟩
  case round =>
    clear O0 B0
    obtain ⟨k, hk, rfl, hown, hbel⟩ := hrel
    by_cases hkn : k < n
    · have q1 : decide (k < n) = true := by simpa using hkn
      have q2 : (0 : Int) ≤ (k : Int) := by omega
      have q3 : (k : Int) < (n : Int) := by omega
      have hkl : k < c.length := by rw [← HN.out]; exact hkn
      obtain ⟨b1, o1, u, rfl, hb1, ha0, ha1, -, hsp⟩ := HV.out.at k hkl
      have hs := tm_take_snoc c k hkl
      have hts := allI_snoc (c.take k) (c.getD k ztm)
      rw [← hs] at hts
      have hle := allI_take_le c (k + 1)
      rw [hts, List.length_append] at hle
      have hok := up_all HC.out _ (tm_mem hkl)
      obtain ⟨x, hx⟩ : ∃ x, x = c.getD k ztm := ⟨_, rfl⟩
      have hx' : c.getD k (0, []) = x := hx.symm
      rw [hx'] at ha0 hsp
      rw [← hx] at hts hle hok
      obtain ⟨xr, xs⟩ := x
      simp only at ha0 hsp hts hle hok
      obtain ⟨so, sc, rfl⟩ := hsp.shape
      have HOK : Hid (∀ y ∈ xs, Ok y) := ((mayB_iff _).1 hok.2.2.2).1.all
      have hx8 : xr < 8 := hok.2.1
      obtain ⟨wo, rfl⟩ : ∃ wo : World, wo = wr := ⟨_, rfl⟩
      obtain ⟨P, hP⟩ : ∃ P, P = allI (c.take k) := ⟨_, rfl⟩
      rw [← hP] at hown hts hle
      have HTS := Lib.hid hts
      have HLE : Hid (P.length + (spI xr xs).length ≤ 1024) := by show _ ≤ _; have := HL.out; omega
      obtain ⟨sl, hsl⟩ : ∃ sl, sl = xs.length := ⟨_, rfl⟩
      have HSL := Lib.hid hsl
      have HSP := Lib.hid hsp
      rw [← hsl] at ha1 HSP
      have CA : Hid (∀ W : World, Below w.heap.size w W → W.cell? ⟨b1, o1 + k * 2, none⟩ = some (.int .u8 (xr : Int)) ∧ W.cell? ⟨b1, o1 + k * 2 + 1, none⟩ = some (.slice so sl sc)) := fun W hW =>
        ⟨(hW.cell (p := ⟨b1, o1 + k * 2, none⟩) hb1).trans ha0, (hW.cell (p := ⟨b1, o1 + k * 2 + 1, none⟩) hb1).trans ha1⟩
      have hslm : sl ≤ 1024 := by rw [hsl]; exact ((mayB_iff _).1 hok.2.2.2).2
      have O1 : Hid (OwnI wo w.heap.size u3 (P ++ spI xr (xs.take 0))) := by show OwnI _ _ _ _; rw [List.take_zero]; simpa [spI] using hown.out
      clear hx hx' hs hts hle hok hP hsl hown hsp ha0 ha1
      go_wp2
      go_loopw [3, 5] (fun o j wr => ∃ i : Nat, i ≤ sl ∧ j = .int .i64 (i : Int) ∧ Hid (OwnI wr w.heap.size o (P ++ spI xr (xs.take i))) ∧ Hid (Below w.heap.size w wr)) (fun _ j _ => sl - (intOf j).toNat)
      case atStart => exact ⟨0, by omega, rfl, O1, hbel⟩
      case round =>
        clear O1
        obtain ⟨i, hi, rfl, hown, hbel2⟩ := hrel
        obtain ⟨w2, rfl⟩ : ∃ w2 : World, w2 = wr := ⟨_, rfl⟩
        obtain ⟨ha0, ha1⟩ := CA.out w2 hbel2.out
        by_cases his : i < sl
        · have p1 : decide (i < sl) = true := by simpa using his
          have p2 : (0 : Int) ≤ (i : Int) := by omega
          have p3 : (i : Int) < (sl : Int) := by omega
          obtain ⟨b2, o2, rfl, hb2, hc0, hc1⟩ := HSP.out.at i (by rw [← HSL.out]; exact his)
          have CB : Hid (∀ W : World, Below w.heap.size w W → W.cell? ⟨b2, o2 + i * 2, none⟩ = some (.int .u32 ((xs.getD i zsp).f : Int)) ∧ W.cell? ⟨b2, o2 + i * 2 + 1, none⟩ = some (.int .u32 ((xs.getD i zsp).t : Int))) := fun W hW =>
            ⟨(hW.cell (p := ⟨b2, o2 + i * 2, none⟩) hb2).trans hc0, (hW.cell (p := ⟨b2, o2 + i * 2 + 1, none⟩) hb2).trans hc1⟩
          have hss := take_snoc xs i (by rw [← HSL.out]; exact his)
          have htt := spI_snoc xr (xs.take i) (xs.getD i zsp)
          rw [← hss] at htt
          have hle2 := spI_take_le xr xs (i + 1)
          rw [htt, List.length_append, runI_len] at hle2
          have hzo : Ok (xs.getD i zsp) := HOK.out _ (by rw [List.getD, List.getElem?_eq_getElem (by rw [← HSL.out]; exact his)]; exact List.getElem_mem _)
          obtain ⟨z, hz⟩ : ∃ z, z = xs.getD i zsp := ⟨_, rfl⟩
          rw [← hz] at CB htt hle2 hzo
          obtain ⟨f, t, hf, ht⟩ := z
          unfold Ok at hzo
          simp only at CB htt hle2 hzo
          obtain ⟨z1, z2, z3⟩ := hzo
          obtain ⟨Q, hQ⟩ : ∃ Q, Q = P ++ spI xr (xs.take i) := ⟨_, rfl⟩
          rw [← hQ] at hown
          have HTT : Hid (P ++ spI xr (xs.take (i + 1)) = Q ++ runI xr f (t + 1 - f)) := by show _ = _; rw [htt, hQ, List.append_assoc]
          have HQL : Hid (Q.length + (t + 1 - f) ≤ 1024) := by show _ ≤ _; rw [hQ, List.length_append]; have := HLE.out; omega
          have O2 : Hid (OwnI w2 w.heap.size u3 (Q ++ runI xr f (f - f))) := by show OwnI _ _ _ _; rw [Nat.sub_self]; simpa [runI] using hown.out
          obtain ⟨d0, d1⟩ := CB.out w2 hbel2.out
          clear hz hss htt hle2 hQ hown hc0 hc1
          go_wp2
          go_loopw [3, 6] (fun o q wr => ∃ e : Nat, f ≤ e ∧ e ≤ t + 1 ∧ q = .int .u32 (e : Int) ∧ Hid (OwnI wr w.heap.size o (Q ++ runI xr f (e - f))) ∧ Hid (Below w.heap.size w wr)) (fun _ q _ => t + 1 - (intOf q).toNat)
          case atStart => exact ⟨f, by omega, by omega, rfl, O2, hbel2⟩
          case round =>
            clear O2 d0 d1 ha0 ha1
            obtain ⟨e, he1, he2, rfl, hown, hbel3⟩ := hrel
            obtain ⟨w3, rfl⟩ : ∃ w3 : World, w3 = wr := ⟨_, rfl⟩
            obtain ⟨ha0, ha1⟩ := CA.out w3 hbel3.out
            obtain ⟨d0, d1⟩ := CB.out w3 hbel3.out
            by_cases het : e ≤ t
            · have t1 : decide ((e : Int) ≤ (t : Int)) = true := decide_eq_true (by omega)
              have t2 : decide (e ≤ t) = true := decide_eq_true het
              have hxn : xr % 256 = xr := Nat.mod_eq_of_lt (by omega)
              have hrun := runI_snoc xr (e - f) f
              rw [show f + (e - f) = e by omega] at hrun
              have hlen : (Q ++ runI xr f (e - f)).length = Q.length + (e - f) := by rw [List.length_append, runI_len]
              obtain ⟨M, hM⟩ : ∃ M, M = Q ++ runI xr f (e - f) := ⟨_, rfl⟩
              rw [← hM] at hown hlen
              have HR : Hid (Q ++ runI xr f (e + 1 - f) = M ++ [idOf xr e]) := by show _ = _; rw [show e + 1 - f = e - f + 1 by omega, hrun, hM, List.append_assoc]
              have hML : M.length ≤ 1024 := by have := HQL.out; omega
              have SE : Hid (Sees (w3.alloc (.cells #[.int .u32 (e : Int), .int .u8 (xr : Int)] 25)) (.slice (some ⟨w3.heap.size, 0, none⟩) 1 1) 2 1 (ids [idOf xr e])) := by
                have h := sees_new w3 (ids [idOf xr e]) 2 1 rfl (by omega) 25 (0, 0)
                rw [ids_one, idOf_t (by omega), idOf_r (by omega)] at h
                show Sees _ _ _ _ (ids [idOf xr e])
                rw [ids_one, idOf_t (by omega), idOf_r (by omega)]
                exact h
              have BX := Lib.hid ((Below.refl w3.heap.size w3).alloc (Nat.le_refl _) (.cells #[.int .u32 (e : Int), .int .u8 (xr : Int)] 25))
              have OX := Lib.hid (own_stays (show w3.ownsRow _ _ _ _ _ _ from hown.out) BX.out)
              have hsz3 := hbel3.out.size
              have eT : IntKind.u32.wrap ((e : Int) + 1) = (e : Int) + 1 := by rw [IntKind.wrap_u32]; omega
              obtain ⟨oo, oc, rfl⟩ := Sees.shape (Sees.own (show w3.ownsRow _ _ _ _ _ _ from hown.out))
              obtain ⟨ml, hml⟩ : ∃ ml, ml = M.length := ⟨_, rfl⟩
              rw [← hml] at OX hML ⊢
              have HMLl := Lib.hid hml
              clear hrun hlen hM hown hml
              go_wp2_with (at_builtin; refine wpList_append_sees rfl (.tmp 45) (.tmp 53) 26 25 rfl Try.underlying26 id_info rfl (by decide) w.heap.size _ ml (ids M) rfl OX.out _ 1 _ rfl SE.out (ids_oneCell _) ?a1 ?a2 ?a3 ?_)
              case a1 => omega
              case a2 => omega
              case a3 => exact Nat.le_trans hsz3 BX.out.size
              rintro v5 w5 o5 g5 b5
              have O5 : Hid (OwnI w5 w.heap.size v5 (Q ++ runI xr f (e + 1 - f))) := by
                show World.ownsRow _ _ _ _ _ _ _
                rw [HR.out, ids_append, List.length_append, ← HMLl.out]
                exact o5
              have B5 := Lib.hid ((hbel3.out.trans (BX.out.mono hsz3)).trans b5)
              clear o5 g5 b5 OX SE BX
              go_wp2
              go_roundw
              case rel => exact ⟨e + 1, by omega, by omega, by go_num, O5, B5⟩
              case measure => simp [intOf]; omega
            · obtain rfl : e = t + 1 := by omega
              have t1 : decide (((t + 1 : Nat) : Int) ≤ (t : Int)) = false := decide_eq_false (by omega)
              have t1' : decide ((t : Int) + 1 ≤ (t : Int)) = false := decide_eq_false (by omega)
              have t2 : decide (t + 1 ≤ t) = false := decide_eq_false (by omega)
              have O6 : Hid (OwnI w3 w.heap.size u3 (P ++ spI xr (xs.take (i + 1)))) := by show OwnI _ _ _ _; rw [HTT.out]; exact hown.out
              clear hown
              go_wp2
              go_roundw
              case rel => exact ⟨i + 1, by omega, by go_num, O6, hbel3⟩
              case measure => simp [intOf]; omega
        · have p1 : decide (i < sl) = false := by simpa using his
          have hkk : xs.take i = xs := List.take_of_length_le (by have := HSL.out; omega)
          have HY3 : Hid (OwnI w2 w.heap.size u3 (allI (c.take (k + 1)))) := by show OwnI _ _ _ _; rw [HTS.out]; have := hown.out; rwa [hkk] at this
          clear hkk hown
          go_wp2
          go_roundw
          case rel => exact ⟨k + 1, by omega, by go_num, HY3, hbel2⟩
          case measure => simp [intOf]; omega
    · have q1 : decide (k < n) = false := by simpa using hkn
      have hkk : c.take k = c := List.take_of_length_le (by have := HN.out; omega)
      rw [hkk] at hown
      clear hkk
      go_wp2
      go_ret
      exact ⟨_, rfl, hown.out, hbel.out⟩
end Go.Proofs.Ytmgdbgloacbacaa.Clocks

/- octavoref08.Ids; the laws' helper of layer 8 that writes over what was answered. Conditions: the rows are the call's own. -/
namespace Go.Proofs.Ytmgdbgloacbacaa.Clocks
open Go.RowKit Go.Proofs.Ytmgdbgloacbacaa.Spans
attribute [local go_sem ↓] Go.wp_at_zero Go.wp_at_succ

/-- What is answered: stamps of its own, and an error. -/
def DoneI (L : List Id) (x : Int) (w : World) (e : Ending) (w' : World) : Prop :=
  ∃ v, e = .returned (.tuple #[v, .int .i64 x]) ∧ OwnI w' w.heap.size v L ∧ Below w.heap.size w w'
theorem OwnI.base {w : World} {b b' : Nat} {v : Value} {L : List Id} (h : OwnI w b v L) (hb : b' ≤ b) : OwnI w b' v L := own_base h hb
set_option maxHeartbeats 1000000 in
theorem refIdsC_any {v : Value} {c : List Tm} {w : World} (hv : Tms w v c) :
    Calls Try.prog 9 #[v] w (DoneI (idsCC c).1 (idsCC c).2 w) := by
  have HV := Lib.hid hv
  obtain ⟨L, x, hd⟩ : ∃ L x, idsCC c = (L, x) := ⟨_, _, rfl⟩
  rw [hd]
  unfold idsCC at hd
  have M1 := Lib.hid (refMayC_any hv)
  obtain ⟨pa, hpa⟩ : ∃ p, mayC c = p := ⟨_, rfl⟩
  rw [hpa] at M1 hd
  simp only
  cases pa
  · rw [if_neg (by simp)] at hd
    obtain ⟨rfl, rfl⟩ : [] = L ∧ (8 : Int) = x := Prod.mk.inj hd
    clear hv hpa hd
    go_enter Try.func9, Try.ntmps9
    go_wp2_with fail
    refine M1.out.mono ?_
    rintro e w1 ⟨rfl, b1⟩
    go_wp2
    go_ret2
    exact ⟨_, rfl, OwnI.nil _ _, b1⟩
  rw [if_pos rfl] at hd
  have hc := (mayC_iff c).1 hpa
  have MA : Hid (∀ W : World, Tms W v c → Calls Try.prog 28 #[v] W fun e w' => e = .returned (.int .i64 (manyC c : Int)) ∧ Below W.heap.size W w') := fun W h => refManyC_any h hc
  obtain ⟨m, hm⟩ : ∃ m, m = manyC c := ⟨_, rfl⟩
  rw [← hm] at MA hd
  by_cases hbig : 1024 < m
  · rw [if_pos hbig] at hd
    obtain ⟨rfl, rfl⟩ : [] = L ∧ (4 : Int) = x := Prod.mk.inj hd
    have t1 : decide ((1024 : Int) < (m : Int)) = true := decide_eq_true (by omega)
    have t2 : decide (1024 < m) = true := decide_eq_true hbig
    clear hv hpa hd hc hm
    go_enter Try.func9, Try.ntmps9
    go_wp2_with fail
    refine M1.out.mono ?_
    rintro e w1 ⟨rfl, b1⟩
    have B1 := Lib.hid b1
    clear b1
    go_wp2_with fail
    refine (MA.out _ (HV.out.keeps B1.out)).mono ?_
    rintro e w2 ⟨rfl, b2⟩
    have B2 := Lib.hid (bt B1.out b2)
    clear b2
    go_wp2
    go_ret2
    exact ⟨_, rfl, OwnI.nil _ _, B2.out⟩
  · rw [if_neg hbig] at hd
    obtain ⟨rfl, rfl⟩ : allI c = L ∧ (0 : Int) = x := Prod.mk.inj hd
    have t1 : decide ((1024 : Int) < (m : Int)) = false := decide_eq_false (by omega)
    have t2 : decide (1024 < m) = false := decide_eq_false hbig
    have AL : Hid (∀ W : World, Tms W v c → Calls Try.prog 29 #[v] W fun e w' => ∃ v', e = .returned v' ∧ OwnI w' W.heap.size v' (allI c) ∧ Below W.heap.size W w') := fun W h => all_any h hc (by omega)
    clear hv hpa hd hc hm
    go_enter Try.func9, Try.ntmps9
    go_wp2_with fail
    refine M1.out.mono ?_
    rintro e w1 ⟨rfl, b1⟩
    have B1 := Lib.hid b1
    clear b1
    go_wp2_with fail
    refine (MA.out _ (HV.out.keeps B1.out)).mono ?_
    rintro e w2 ⟨rfl, b2⟩
    have B2 := Lib.hid (bt B1.out b2)
    clear b2
    go_wp2_with fail
    refine (AL.out _ (HV.out.keeps B2.out)).mono ?_
    rintro e w3 ⟨v3, rfl, o3, b3⟩
    have O3 := Lib.hid (OwnI.base o3 B2.out.size)
    have B3 := Lib.hid (bt B2.out b3)
    clear o3 b3
    go_wp2
    go_ret2
    exact ⟨_, rfl, O3.out, B3.out⟩

/-! ### Written over -/
/-- A clock's rows, wherever they lie from base on, its spans' ahead of top. -/
def Spl (w : World) (base top : Nat) (v : Value) (n : Nat) : Prop :=
  ∃ ao cap, v = .slice ao n cap ∧ n ≤ 9223372036854775807 ∧ (n = 0 ∨ ∃ b, ao = some ⟨b, 0, none⟩ ∧ base ≤ b ∧ b < w.heap.size ∧ ∀ k, k < n → ∃ so m sc, w.cell? ⟨b, k * 2 + 1, none⟩ = some (.slice so m sc) ∧ m ≤ 9223372036854775807 ∧
    (m = 0 ∨ ∃ g cur, so = some ⟨g, 0, none⟩ ∧ base ≤ g ∧ g < top ∧ g ≠ b ∧ w.heap[g]? = some (.cells cur 53 (0, 0)) ∧ m * 2 ≤ cur.size))
/-- What was there stays so, but from base on, ahead of top. -/
def Sand (base top : Nat) (w w' : World) : Prop := Below base w w' ∧ ∀ j, top ≤ j → w'.heap[j]? = w.heap[j]?
theorem Sand.refl (base top : Nat) (w : World) : Sand base top w w := ⟨Below.refl _ _, fun _ _ => rfl⟩
theorem Sand.trans {base top : Nat} {a b c : World} (h : Sand base top a b) (k : Sand base top b c) : Sand base top a c := ⟨h.1.trans k.1, fun j hj => (k.2 j hj).trans (h.2 j hj)⟩
theorem Spl.keeps {w w' : World} {base top n : Nat} {v : Value} (h : Spl w base top v n) (hb : Below w.heap.size w w') : Spl w' base top v n := by
  obtain ⟨ao, cap, h1, h2, h3⟩ := h
  refine ⟨ao, cap, h1, h2, ?_⟩
  rcases h3 with h3 | ⟨b, e1, e2, e3, e4⟩
  · exact .inl h3
  · refine .inr ⟨b, e1, e2, Nat.lt_of_lt_of_le e3 hb.size, fun k hk => ?_⟩
    obtain ⟨so, m, sc, f1, f2, f3⟩ := e4 k hk
    refine ⟨so, m, sc, (hb.cell (p := ⟨b, k * 2 + 1, none⟩) e3).trans f1, f2, ?_⟩
    rcases f3 with f3 | ⟨g, cur, g1, g2, g3, g4, g5, g6⟩
    · exact .inl f3
    · exact .inr ⟨g, cur, g1, g2, g3, g4, (hb.block g (Array.getElem?_eq_some_iff.1 g5).1).trans g5, g6⟩
theorem Spl.sand {w w' : World} {base top base' top' n : Nat} {v : Value} (h : Spl w base' top' v n) (hs : Sand base top w w') (ht : top ≤ base') : Spl w' base' top' v n := by
  obtain ⟨ao, cap, h1, h2, h3⟩ := h
  refine ⟨ao, cap, h1, h2, ?_⟩
  rcases h3 with h3 | ⟨b, e1, e2, e3, e4⟩
  · exact .inl h3
  · refine .inr ⟨b, e1, e2, Nat.lt_of_lt_of_le e3 hs.1.size, fun k hk => ?_⟩
    obtain ⟨so, m, sc, f1, f2, f3⟩ := e4 k hk
    refine ⟨so, m, sc, (World.cell?_of_block (a := ⟨b, k * 2 + 1, none⟩) (hs.2 b (by omega))).trans f1, f2, ?_⟩
    rcases f3 with f3 | ⟨g, cur, g1, g2, g3, g4, g5, g6⟩
    · exact .inl f3
    · exact .inr ⟨g, cur, g1, g2, g3, g4, (hs.2 g (by omega)).trans g5, g6⟩
theorem holdO_spl {w : World} {base : Nat} : ∀ {cs : List Value} {c : List Tm}, HoldO w base cs c → ∀ k, k < c.length → ∃ so m sc, cs[k * 2 + 1]? = some (.slice so m sc) ∧ m ≤ 9223372036854775807 ∧
    (m = 0 ∨ ∃ g cur, so = some ⟨g, 0, none⟩ ∧ base ≤ g ∧ g < w.heap.size ∧ w.heap[g]? = some (.cells cur 53 (0, 0)) ∧ m * 2 ≤ cur.size)
  | _ :: b :: _, x :: _, h, 0, _ => by
    have ho := h.2.2.1
    have hm := Sees.max (Sees.own ho)
    obtain ⟨so, sc, hb⟩ := Sees.shape (Sees.own ho)
    refine ⟨so, x.2.length, sc, by simp [hb], hm, ?_⟩
    rcases ho.2 with ⟨h0, h1⟩ | ⟨g, cap, cur, h0, h1, h2, h3, _, h4, _⟩
    · exact .inl h1
    · rw [hb] at h0
      obtain ⟨rfl, -, rfl⟩ := Value.slice.inj h0
      exact .inr ⟨g, cur, rfl, h1, (Array.getElem?_eq_some_iff.1 h2).1, h2, by rw [h4]; exact Nat.mul_le_mul_right 2 h3⟩
  | _ :: _ :: _, _ :: _, h, k + 1, hk => by
    obtain ⟨so, m, sc, h1, h2⟩ := holdO_spl h.2.2.2 k (by simpa using hk)
    refine ⟨so, m, sc, ?_, h2⟩
    rw [show (k + 1) * 2 + 1 = k * 2 + 1 + 1 + 1 by omega]
    simpa using h1
  | _, [], _, k, hk => by simp at hk
theorem OwnC.spl {w : World} {base : Nat} {v : Value} {c : List Tm} (h : OwnC w base v c) : Spl w base w.heap.size v c.length := by
  obtain ⟨cs, h1, h2⟩ := h
  have hm := Sees.max (Sees.own h1)
  obtain ⟨ao, cap, hv⟩ := Sees.shape (Sees.own h1)
  refine ⟨ao, cap, hv, hm, ?_⟩
  have hr := times_row h1
  have hk := h1
  rcases h1.2 with ⟨_, h0⟩ | ⟨b, cap', cur, h0, e1, e2, _⟩
  · exact .inl h0
  · right
    rw [hv] at h0
    obtain ⟨rfl, -, rfl⟩ := Value.slice.inj h0
    refine ⟨b, rfl, e1, (Array.getElem?_eq_some_iff.1 e2).1, fun k hkn => ?_⟩
    obtain ⟨so, m, sc, f1, f2, f3⟩ := holdO_spl h2 k hkn
    refine ⟨so, m, sc, ?_, f2, ?_⟩
    · rw [hv] at hk
      rw [hk.cellAt (k * 2 + 1) (by omega)]
      exact f1
    · rcases f3 with f3 | ⟨g, cu, g1, g2, g3, g4, g5⟩
      · exact .inl f3
      · refine .inr ⟨g, cu, g1, g2, g3, fun e => ?_, g4, g5⟩
        subst e
        exact hr g cu (by rw [hv]; rfl) g4
theorem Spl.set {w : World} {base top n g j : Nat} {v : Value} {u : Value} (h : Spl w base top v n) (hg : ∀ b cap, v = .slice (some ⟨b, 0, none⟩) n cap → g ≠ b) : Spl (w.setCell ⟨g, j, none⟩ u) base top v n := by
  obtain ⟨ao, cap, h1, h2, h3⟩ := h
  refine ⟨ao, cap, h1, h2, ?_⟩
  rcases h3 with h3 | ⟨b, e1, e2, e3, e4⟩
  · exact .inl h3
  · have hgb := hg b cap (by rw [h1, e1])
    refine .inr ⟨b, e1, e2, by simpa [World.setCell] using e3, fun k hk => ?_⟩
    obtain ⟨so, m, sc, f1, f2, f3⟩ := e4 k hk
    refine ⟨so, m, sc, (World.cell?_of_block (a := ⟨b, k * 2 + 1, none⟩) (heap_setCell_other w ⟨g, j, none⟩ b u (fun e => hgb e.symm))).trans f1, f2, ?_⟩
    rcases f3 with f3 | ⟨q, cur, g1, g2, g3, g4, g5, g6⟩
    · exact .inl f3
    · right
      by_cases e : q = g
      · subst e
        exact ⟨q, _, g1, g2, g3, g4, heap_setCell_same w q j cur _ u g5, by rw [Array.size_setIfInBounds]; exact g6⟩
      · exact ⟨q, cur, g1, g2, g3, g4, (heap_setCell_other w ⟨g, j, none⟩ q u e).trans g5, g6⟩

set_option maxRecDepth 100000 in
set_option maxHeartbeats 2000000 in
theorem spoilC_any {base top n : Nat} {v : Value} {w : World} (hv : Spl w base top v n) :
    Calls Try.prog 23 #[v] w fun e w' => e = .returned (.tuple #[]) ∧ Sand base top w w' := by
  obtain ⟨ao, cap, rfl, hm, -⟩ := id hv
  have HV := Lib.hid hv
  clear hv
  go_enter Try.func23, Try.ntmps23
  go_wp2
  go_loopw [2] (fun i wr => ∃ k : Nat, k ≤ n ∧ i = .int .i64 (k : Int) ∧ Hid (Spl wr base top (.slice ao n cap) n) ∧ Hid (Sand base top w wr)) (fun i _ => n - (intOf i).toNat)
  case atStart => exact ⟨0, by omega, rfl, HV, Lib.hid (Sand.refl _ _ _)⟩
  case round =>
    obtain ⟨k, hk, rfl, hsp, hsa⟩ := hrel
    by_cases hkn : k < n
    · have q1 : decide (k < n) = true := by simpa using hkn
      have q2 : (0 : Int) ≤ (k : Int) := by omega
      have q3 : (k : Int) < (n : Int) := by omega
      obtain ⟨b, rfl⟩ : ∃ b, ao = some ⟨b, 0, none⟩ := by
        obtain ⟨_, _, h0, _, h3⟩ := hsp
        obtain ⟨rfl, -, -⟩ := Value.slice.inj h0
        rcases h3 with h3 | ⟨b, h3, _⟩
        · omega
        · exact ⟨b, h3⟩
      have at1 : ∀ W : World, Spl W base top (.slice (some ⟨b, 0, none⟩) n cap) n → ∃ so m sc, W.cell? ⟨b, k * 2 + 1, none⟩ = some (.slice so m sc) ∧ m ≤ 9223372036854775807 ∧
          (m = 0 ∨ ∃ g cur, so = some ⟨g, 0, none⟩ ∧ base ≤ g ∧ g < top ∧ g ≠ b ∧ W.heap[g]? = some (.cells cur 53 (0, 0)) ∧ m * 2 ≤ cur.size) := fun W h => by
        obtain ⟨_, _, h0, _, h3⟩ := h
        obtain ⟨rfl, -, -⟩ := Value.slice.inj h0
        rcases h3 with h3 | ⟨b', h3, _, _, h4⟩
        · omega
        · cases h3
          exact h4 k hkn
      have AT := Lib.hid at1
      obtain ⟨so, m, sc, c1, hm2, -⟩ := at1 _ hsp.out
      have C1 := Lib.hid c1
      clear at1
      obtain ⟨wo, rfl⟩ : ∃ wo : World, wo = wr := ⟨_, rfl⟩
      go_wp2
      go_loopw [3] (fun i wr => ∃ j : Nat, j ≤ m ∧ i = .int .i64 (j : Int) ∧ Hid (Spl wr base top (.slice (some ⟨b, 0, none⟩) n cap) n) ∧ Hid (Sand base top w wr) ∧ Hid (wr.cell? ⟨b, k * 2 + 1, none⟩ = some (.slice so m sc))) (fun i _ => m - (intOf i).toNat)
      case atStart => exact ⟨0, by omega, rfl, hsp, hsa, C1⟩
      case round =>
        clear C1 hsp hsa c1
        obtain ⟨j, hj, rfl, hsp, hsa, hc⟩ := hrel
        obtain ⟨w2, rfl⟩ : ∃ w2 : World, w2 = wr := ⟨_, rfl⟩
        have c1 := hc.out
        by_cases hjm : j < m
        · have p1 : decide (j < m) = true := by simpa using hjm
          have p2 : (0 : Int) ≤ (j : Int) := by omega
          have p3 : (j : Int) < (m : Int) := by omega
          obtain ⟨so', m', sc', d1, _, d3⟩ := AT.out w2 hsp.out
          rw [c1] at d1
          obtain ⟨rfl, rfl, rfl⟩ := Value.slice.inj (Option.some.inj d1)
          obtain ⟨g, cur, rfl, g2, g3, g4, g5, g6⟩ : ∃ g cur, so = some ⟨g, 0, none⟩ ∧ base ≤ g ∧ g < top ∧ g ≠ b ∧ w2.heap[g]? = some (.cells cur 53 (0, 0)) ∧ m * 2 ≤ cur.size := by
            rcases d3 with d3 | d3
            · omega
            · exact d3
          have f1 : w2.frozen? ⟨g, j * 2 + 1, none⟩ = false := by simp [World.frozen?, g5]
          have f2 : w2.cell? ⟨g, j * 2 + 1, none⟩ = cur[j * 2 + 1]? := cell_of_row w2 g (j * 2 + 1) cur _ _ g5
          have f3 : cur[j * 2 + 1]? = some cur[j * 2 + 1] := Array.getElem?_eq_getElem (by omega)
          obtain ⟨y4, f4⟩ : ∃ y, w2.cell? ⟨g, j * 2 + 1, none⟩ = some y := ⟨_, f2.trans f3⟩
          have S2 := Lib.hid (hsp.out.set (g := g) (j := j * 2 + 1) (u := .int .u32 7777777) (fun b' cap' h => by
            obtain ⟨h1, -, -⟩ := Value.slice.inj h
            cases h1
            exact g4))
          have A2 : Hid (Sand base top w (w2.setCell ⟨g, j * 2 + 1, none⟩ (.int .u32 7777777))) :=
            hsa.out.trans ⟨(Below.refl _ _).setCell (p := ⟨g, j * 2 + 1, none⟩) g2 _, fun q hq => heap_setCell_other _ _ _ _ (show q ≠ g by omega)⟩
          have C2 : Hid ((w2.setCell ⟨g, j * 2 + 1, none⟩ (.int .u32 7777777)).cell? ⟨b, k * 2 + 1, none⟩ = some (.slice (some ⟨g, 0, none⟩) m sc)) :=
            (World.cell?_of_block (a := ⟨b, k * 2 + 1, none⟩) (heap_setCell_other w2 ⟨g, j * 2 + 1, none⟩ b _ (fun e => g4 e.symm))).trans c1
          clear d1 d3 f2 f3 g5 g6 hsp hsa hc
          go_wp2
          go_roundw
          case rel => exact ⟨j + 1, by omega, by go_num, S2, A2, C2⟩
          case measure => simp [intOf]; omega
        · have p1 : decide (j < m) = false := by simpa using hjm
          go_wp2
          go_roundw
          case rel => exact ⟨k + 1, by omega, by go_num, hsp, hsa⟩
          case measure => simp [intOf]; omega
    · have q1 : decide (k < n) = false := by simpa using hkn
      go_wp2
      go_end0
      exact ⟨rfl, hsa.out⟩
end Go.Proofs.Ytmgdbgloacbacaa.Clocks

/- Sets of times, cut off below a time; two of them gone through side by side, stretch by stretch. Conditions: the spans may be. -/
namespace Go.Proofs.Ytmgdbgloacbacaa.Spans

/-- The set, cut off below a time. -/
def low : List Sp → Nat → List Sp
  | [], _ => []
  | x :: l, n => if x.t < n then x :: low l n else if x.f < n then [mk x.f (n - 1)] else []
theorem low_len : ∀ (l : List Sp) (n : Nat), (low l n).length ≤ l.length
  | [], _ => Nat.le_refl _
  | x :: l, n => by
    have := low_len l n
    unfold low
    by_cases h1 : x.t < n
    · rw [if_pos h1]; simp; omega
    · rw [if_neg h1]
      by_cases h2 : x.f < n
      · rw [if_pos h2]; simp
      · rw [if_neg h2]; simp
theorem low_from : ∀ {l : List Sp} {n : Nat} {y : Sp}, y ∈ low l n → ∃ z ∈ l, z.f = y.f
  | [], _, y, h => by simp [low] at h
  | x :: l, n, y, h => by
    unfold low at h
    by_cases h1 : x.t < n
    · rw [if_pos h1, List.mem_cons] at h
      rcases h with rfl | h
      · exact ⟨y, by simp, rfl⟩
      · obtain ⟨z, h2, h3⟩ := low_from h
        exact ⟨z, by simp [h2], h3⟩
    · rw [if_neg h1] at h
      by_cases h2 : x.f < n
      · rw [if_pos h2, List.mem_singleton] at h
        subst h
        exact ⟨x, by simp, (mk_f x.hf).symm⟩
      · rw [if_neg h2] at h; simp at h
theorem low_fine : ∀ {l : List Sp} (n : Nat), Fine l → Fine (low l n)
  | [], _, _ => trivial
  | x :: l, n, h => by
    have hx := h.head
    have hxt := x.ht
    have hxf := x.hf
    unfold Ok at hx
    unfold low
    by_cases h1 : x.t < n
    · rw [if_pos h1]
      refine Fine.cons h.head (low_fine n h.tail) (fun y hy => ?_)
      obtain ⟨z, h2, h3⟩ := low_from hy
      have := h.far z h2
      omega
    · rw [if_neg h1]
      by_cases h2 : x.f < n
      · rw [if_pos h2]
        show Ok _
        unfold Ok
        rw [mk_f hxf, mk_t (by omega)]
        omega
      · rw [if_neg h2]; trivial
theorem in_low : ∀ {l : List Sp} (n : Nat), Fine l → ∀ m, In (low l n) m ↔ In l m ∧ m < n
  | [], _, _, m => by simp [low, in_nil]
  | x :: l, n, h, m => by
    have hx := h.head
    have hxt := x.ht
    have hxf := x.hf
    unfold Ok at hx
    have ih := in_low n h.tail m
    have hf : In l m → x.t + 2 ≤ m := fun h3 => in_far h h3
    unfold low
    by_cases h1 : x.t < n
    · rw [if_pos h1, in_cons, in_cons, ih]
      constructor
      · rintro (h2 | h2)
        · exact ⟨.inl h2, by omega⟩
        · exact ⟨.inr h2.1, h2.2⟩
      · rintro ⟨h2 | h2, h3⟩
        · exact .inl h2
        · exact .inr ⟨h2, h3⟩
    · rw [if_neg h1]
      by_cases h2 : x.f < n
      · rw [if_pos h2, in_cons, in_cons, mk_f hxf, mk_t (by omega)]
        constructor
        · rintro (h3 | h3)
          · exact ⟨.inl (by omega), by omega⟩
          · exact absurd h3 (in_nil _)
        · rintro ⟨h3 | h3, h4⟩
          · exact .inl (by omega)
          · have := hf h3; omega
      · rw [if_neg h2, in_cons]
        constructor
        · intro h3; exact absurd h3 (in_nil _)
        · rintro ⟨h3 | h3, h4⟩
          · omega
          · have := hf h3; omega
theorem low_all {l : List Sp} (h : Fine l) : low l 1073741825 = l := by
  refine uniq (low_fine _ h) h (fun m => ?_)
  rw [in_low _ h]
  constructor
  · exact fun h1 => h1.1
  · intro h1
    have := in_bound h h1
    exact ⟨h1, by omega⟩
theorem low_one {l : List Sp} (h : Fine l) : low l 1 = [] := by
  refine uniq (low_fine _ h) (by trivial) (fun m => ?_)
  rw [in_low _ h]
  constructor
  · rintro ⟨h1, h2⟩
    have := in_bound h h1
    omega
  · intro h1; exact absurd h1 (in_nil _)
theorem low_t {l : List Sp} (h : Fine l) {n : Nat} : ∀ x ∈ low l n, x.t < n := by
  intro x hx
  have h1 := (low_fine n h).all x hx
  unfold Ok at h1
  have h2 : In (low l n) x.t := ⟨x, hx, by omega, Nat.le_refl _⟩
  exact ((in_low n h x.t).1 h2).2

/-! ### A stretch behind spans -/

def wth : List Sp → Sp → List Sp
  | [], s => [s]
  | [x], s => if x.t + 1 = s.f then [mk x.f s.t] else [x, s]
  | x :: y :: l, s => x :: wth (y :: l) s
theorem wth_snoc : ∀ (l : List Sp) (x s : Sp), wth (l ++ [x]) s = if x.t + 1 = s.f then l ++ [mk x.f s.t] else l ++ [x] ++ [s]
  | [], x, s => rfl
  | [y], x, s => by
    show y :: wth ([] ++ [x]) s = _
    rw [wth_snoc [] x s]
    split <;> rfl
  | y :: z :: l, x, s => by
    show y :: wth ((z :: l) ++ [x]) s = _
    rw [wth_snoc (z :: l) x s]
    split <;> rfl
theorem nil_or_snoc {α : Type} (l : List α) : l = [] ∨ ∃ m x, l = m ++ [x] := by
  rcases List.eq_nil_or_concat l with h | ⟨m, x, h⟩
  · exact .inl h
  · exact .inr ⟨m, x, by rw [h, List.concat_eq_append]⟩
theorem fine_last : ∀ {l : List Sp} {x : Sp}, Fine (l ++ [x]) → ∀ a ∈ l, a.t + 2 ≤ x.f
  | [], _, _, a, ha => by simp at ha
  | y :: l, x, h, a, ha => by
    rw [List.cons_append] at h
    rw [List.mem_cons] at ha
    rcases ha with rfl | ha
    · exact h.far x (by simp)
    · exact fine_last h.tail a ha
theorem fine_snoc_ok {l : List Sp} {x : Sp} (h : Fine (l ++ [x])) : Ok x := h.all x (by simp)
theorem wth_fine {l : List Sp} {s : Sp} (h : Fine l) (hs : Ok s) (hb : ∀ x ∈ l, x.t < s.f) : Fine (wth l s) := by
  rcases nil_or_snoc l with rfl | ⟨m, x, rfl⟩
  · exact hs
  · rw [wth_snoc]
    have hx := fine_snoc_ok h
    have hl := fine_last h
    have hm := fine_front h
    have h1 := hb x (by simp)
    have g1 := x.hf
    have g2 := s.ht
    unfold Ok at hx hs
    by_cases h2 : x.t + 1 = s.f
    · rw [if_pos h2]
      refine fine_append hm (show Ok _ from ?_) (fun a ha b hb' => ?_)
      · unfold Ok; rw [mk_f g1, mk_t g2]; omega
      · rw [List.mem_singleton] at hb'
        subst hb'
        rw [mk_f g1]
        exact hl a ha
    · rw [if_neg h2]
      refine fine_append h hs (fun a ha b hb' => ?_)
      rw [List.mem_singleton] at hb'
      subst hb'
      rw [List.mem_append, List.mem_singleton] at ha
      rcases ha with ha | rfl
      · have := hl a ha; omega
      · omega
theorem in_wth {l : List Sp} {s : Sp} (h : Fine l) (hs : Ok s) (n : Nat) : In (wth l s) n ↔ In l n ∨ (s.f ≤ n ∧ n ≤ s.t) := by
  have h0 := in_nil n
  rcases nil_or_snoc l with rfl | ⟨m, x, rfl⟩
  · show In [s] n ↔ _
    rw [in_cons]
    constructor
    · rintro (h1 | h1)
      · exact .inr h1
      · exact absurd h1 h0
    · rintro (h1 | h1)
      · exact absurd h1 h0
      · exact .inl h1
  · rw [wth_snoc]
    have hx := fine_snoc_ok h
    have g1 := x.hf
    have g2 := s.ht
    unfold Ok at hx hs
    by_cases h2 : x.t + 1 = s.f
    · rw [if_pos h2, in_append, in_append, in_cons, in_cons, mk_f g1, mk_t g2]
      constructor
      · rintro (h3 | h3 | h3)
        · exact .inl (.inl h3)
        · by_cases h4 : n ≤ x.t
          · exact .inl (.inr (.inl ⟨h3.1, h4⟩))
          · exact .inr (by omega)
        · exact absurd h3 h0
      · rintro ((h3 | h3 | h3) | h3)
        · exact .inl h3
        · exact .inr (.inl (by omega))
        · exact absurd h3 h0
        · exact .inr (.inl (by omega))
    · rw [if_neg h2, in_append, in_cons]
      constructor
      · rintro (h3 | h3 | h3)
        · exact .inl h3
        · exact .inr h3
        · exact absurd h3 h0
      · rintro (h3 | h3)
        · exact .inl h3
        · exact .inr (.inl h3)
theorem wth_len (l : List Sp) (s : Sp) : (wth l s).length ≤ l.length + 1 := by
  rcases nil_or_snoc l with rfl | ⟨m, x, rfl⟩
  · simp [wth]
  · rw [wth_snoc]; split <;> simp

/-! ### What is ahead of a time no more -/

def upf : List Sp → Nat → List Sp
  | [], _ => []
  | x :: l, n => if x.t < n then l else x :: l
def nxt : List Sp → Nat → Bool × Nat
  | [], _ => (false, 1073741824)
  | x :: _, n => if n < x.f then (false, x.f - 1) else (true, x.t)
theorem upf_cons (x : Sp) (l : List Sp) (n : Nat) : upf (x :: l) n = if x.t < n then l else x :: l := rfl
theorem nxt_cons (x : Sp) (l : List Sp) (n : Nat) : nxt (x :: l) n = if n < x.f then (false, x.f - 1) else (true, x.t) := rfl
/-- What of spans is left where all below a time has come: the last one that came may still be there. -/
def Rest (l p : List Sp) (n : Nat) : Prop := Fine p ∧ (∀ m, n ≤ m → (In l m ↔ In p m)) ∧ ∀ x ∈ p, n ≤ x.t + 1
def Rest1 (l p : List Sp) (n : Nat) : Prop := Fine p ∧ (∀ m, n ≤ m → (In l m ↔ In p m)) ∧ ∀ x ∈ p, n ≤ x.t
theorem rest_all {l : List Sp} (h : Fine l) : Rest l l 1 := ⟨h, fun _ _ => Iff.rfl, fun x hx => by have := h.all x hx; unfold Ok at this; omega⟩
theorem Rest.up {l p : List Sp} {n : Nat} (h : Rest l p n) : Rest1 l (upf p n) n := by
  obtain ⟨h1, h2, h3⟩ := h
  cases p with
  | nil => exact ⟨trivial, h2, fun x hx => by simp [upf] at hx⟩
  | cons x p =>
    have hx := h1.head
    unfold Ok at hx
    have hn := h3 x (by simp)
    rw [upf_cons]
    by_cases g : x.t < n
    · rw [if_pos g]
      refine ⟨h1.tail, fun m hm => ?_, fun y hy => ?_⟩
      · rw [h2 m hm, in_cons]
        constructor
        · rintro (h4 | h4)
          · omega
          · exact h4
        · exact .inr
      · have h4 := h1.far y hy
        have h5 := h1.tail.all y hy
        unfold Ok at h5
        omega
    · rw [if_neg g]
      refine ⟨h1, h2, fun y hy => ?_⟩
      rw [List.mem_cons] at hy
      rcases hy with rfl | hy
      · omega
      · have h4 := h1.far y hy
        have h5 := h1.tail.all y hy
        unfold Ok at h5
        omega
theorem Rest1.next {l p : List Sp} {n : Nat} (h : Rest1 l p n) (hn : n ≤ 1073741824) : n ≤ (nxt p n).2 ∧ (nxt p n).2 ≤ 1073741824 ∧
    (∀ m, n ≤ m → m ≤ (nxt p n).2 → inB l m = (nxt p n).1) ∧ ∀ s, n ≤ s → s ≤ (nxt p n).2 → Rest l p (s + 1) := by
  obtain ⟨h1, h2, h3⟩ := h
  have hin : ∀ m, n ≤ m → (inB l m = true ↔ In p m) := fun m hm => (inB_iff l m).trans (h2 m hm)
  have hno : ∀ m, n ≤ m → ¬ In p m → inB l m = false := fun m hm h => by
    cases hb : inB l m
    · rfl
    · exact absurd ((hin m hm).1 hb) h
  cases p with
  | nil =>
    refine ⟨hn, Nat.le_refl _, fun m hm _ => hno m hm (in_nil m), fun s hs _ => ⟨trivial, fun m hm => h2 m (by omega), fun x hx => by simp at hx⟩⟩
  | cons x p =>
    have hx := h1.head
    unfold Ok at hx
    have hxn := h3 x (by simp)
    have hall : ∀ y ∈ x :: p, x.t ≤ y.t := fun y hy => by
      rw [List.mem_cons] at hy
      rcases hy with rfl | hy
      · exact Nat.le_refl _
      · have h4 := h1.far y hy
        have h5 := h1.tail.all y hy
        unfold Ok at h5
        omega
    rw [nxt_cons]
    by_cases g : n < x.f
    · rw [if_pos g]
      refine ⟨by simp only; omega, by simp only; omega, fun m hm h4 => hno m hm (fun h5 => ?_), fun s hs h4 => ⟨h1, fun m hm => h2 m (by omega), fun y hy => ?_⟩⟩
      · simp only at h4
        rcases in_cons.1 h5 with h6 | h6
        · omega
        · have := in_far h1 h6; omega
      · have := hall y hy
        simp only at h4
        omega
    · rw [if_neg g]
      refine ⟨hxn, hx.2.2, fun m hm h4 => (hin m hm).2 (in_cons.2 (.inl ⟨by omega, h4⟩)), fun s hs h4 => ⟨h1, fun m hm => h2 m (by omega), fun y hy => ?_⟩⟩
      have := hall y hy
      simp only at h4
      omega

/-! ### A stretch of two, chosen by which of them have it -/

/-- The one of two sets is chosen, time by time. -/
def Chosen (ch : Bool → Bool → Bool) (a b r : List Sp) : Prop := Fine r ∧ ∀ m, inB r m = ch (inB a m) (inB b m)
theorem chosen_both {a b : List Sp} (ha : Fine a) (hb : Fine b) : Chosen (fun x y => x || y) a b (both a b) := by
  have h := both_ok ha hb.all
  refine ⟨h.1, fun m => ?_⟩
  rw [Bool.eq_iff_iff, Bool.or_eq_true, inB_iff, inB_iff, inB_iff]
  exact h.2 m
theorem chosen_left {a b : List Sp} (ha : Fine a) (hb : Fine b) : Chosen (fun x y => x && !y) a b (left a b) := by
  have h := left_ok ha hb.all
  refine ⟨h.1, fun m => ?_⟩
  rw [Bool.eq_iff_iff, Bool.and_eq_true, Bool.not_eq_true', inB_iff, inB_iff, h.2 m]
  constructor
  · rintro ⟨h1, h2⟩
    refine ⟨h1, ?_⟩
    cases hc : inB b m
    · rfl
    · exact absurd ((inB_iff b m).1 hc) h2
  · rintro ⟨h1, h2⟩
    refine ⟨h1, fun h3 => ?_⟩
    rw [(inB_iff b m).2 h3] at h2
    cases h2
theorem stretch_yes {ch : Bool → Bool → Bool} {a b r : List Sp} {n s : Nat} {x y : Bool} (h : Chosen ch a b r) (h1 : 1 ≤ n) (hn : n ≤ s) (hs : s ≤ 1073741824)
    (ha : ∀ m, n ≤ m → m ≤ s → inB a m = x) (hb : ∀ m, n ≤ m → m ≤ s → inB b m = y) (hc : ch x y = true) : low r (s + 1) = wth (low r n) (mk n s) := by
  have hk : Ok (mk n s) := by unfold Ok; rw [mk_f (by omega), mk_t (by omega)]; omega
  have hr := h.1
  refine uniq (low_fine _ hr) (wth_fine (low_fine n hr) hk (fun z hz => by rw [mk_f (by omega)]; exact low_t hr z hz)) (fun m => ?_)
  rw [in_low _ hr, in_wth (low_fine n hr) hk, in_low _ hr, mk_f (by omega), mk_t (by omega)]
  constructor
  · rintro ⟨h2, h3⟩
    by_cases h4 : m < n
    · exact .inl ⟨h2, h4⟩
    · exact .inr (by omega)
  · rintro (⟨h2, h3⟩ | h2)
    · exact ⟨h2, by omega⟩
    · refine ⟨(inB_iff r m).1 ?_, by omega⟩
      rw [h.2 m, ha m h2.1 h2.2, hb m h2.1 h2.2, hc]
theorem stretch_no {ch : Bool → Bool → Bool} {a b r : List Sp} {n s : Nat} {x y : Bool} (h : Chosen ch a b r) (hn : n ≤ s)
    (ha : ∀ m, n ≤ m → m ≤ s → inB a m = x) (hb : ∀ m, n ≤ m → m ≤ s → inB b m = y) (hc : ch x y = false) : low r (s + 1) = low r n := by
  have hr := h.1
  refine uniq (low_fine _ hr) (low_fine _ hr) (fun m => ?_)
  rw [in_low _ hr, in_low _ hr]
  constructor
  · rintro ⟨h2, h3⟩
    refine ⟨h2, ?_⟩
    by_cases h4 : m < n
    · exact h4
    · have h5 := (inB_iff r m).2 h2
      rw [h.2 m, ha m (by omega) (by omega), hb m (by omega) (by omega), hc] at h5
      cases h5
  · rintro ⟨h2, h3⟩
    exact ⟨h2, by omega⟩

/-! ### What is left, said of the whole -/
def fil (l : List Sp) (n : Nat) : List Sp := l.filter (fun x => decide (n ≤ x.t))
theorem fil_cons (x : Sp) (l : List Sp) (n : Nat) : fil (x :: l) n = if n ≤ x.t then x :: fil l n else fil l n := by
  unfold fil
  rw [List.filter_cons]
  by_cases h : n ≤ x.t
  · rw [if_pos h, if_pos (by simpa using h)]
  · rw [if_neg h, if_neg (by simpa using h)]
theorem fil_all {l : List Sp} {n : Nat} (h : ∀ x ∈ l, n ≤ x.t) : fil l n = l := filter_all (fun y hy => decide_eq_true (h y hy))
theorem fil_rest : ∀ {l : List Sp} (n : Nat), Fine l → Rest1 l (fil l n) n
  | [], n, _ => ⟨trivial, fun _ _ => Iff.rfl, fun x hx => by simp [fil] at hx⟩
  | x :: l, n, h => by
    have hx := h.head
    unfold Ok at hx
    rw [fil_cons]
    by_cases g : n ≤ x.t
    · rw [if_pos g]
      have hall : ∀ y ∈ l, n ≤ y.t := fun y hy => by
        have h4 := h.far y hy
        have h5 := h.tail.all y hy
        unfold Ok at h5
        omega
      rw [fil_all hall]
      refine ⟨h, fun _ _ => Iff.rfl, fun y hy => ?_⟩
      rw [List.mem_cons] at hy
      rcases hy with rfl | hy
      · exact g
      · exact hall y hy
    · rw [if_neg g]
      obtain ⟨h1, h2, h3⟩ := fil_rest n h.tail
      refine ⟨h1, fun m hm => ?_, h3⟩
      rw [in_cons, ← h2 m hm]
      constructor
      · rintro (h4 | h4)
        · omega
        · exact h4
      · exact .inr
theorem fil_start {l : List Sp} (h : Fine l) : upf l 1 = fil l 1 := by
  rw [fil_all (fun x hx => by have := h.all x hx; unfold Ok at this; omega)]
  cases l with
  | nil => rfl
  | cons x l =>
    have := h.head
    unfold Ok at this
    rw [upf_cons, if_neg (by omega)]
theorem fil_more : ∀ {l : List Sp} {n k : Nat}, n ≤ k → fil (fil l n) k = fil l k
  | [], _, _, _ => rfl
  | x :: l, n, k, h => by
    rw [fil_cons, fil_cons]
    by_cases g : n ≤ x.t
    · rw [if_pos g, fil_cons, fil_more h]
    · rw [if_neg g, if_neg (by omega), fil_more h]
theorem fil_step {l : List Sp} {n s : Nat} (h : Fine l) (hn : n ≤ s) (hs : s ≤ (nxt (fil l n) n).2) : upf (fil l n) (s + 1) = fil l (s + 1) := by
  obtain ⟨h1, _, h3⟩ := fil_rest n h
  rw [← fil_more (l := l) (show n ≤ s + 1 by omega)]
  cases hf : fil l n with
  | nil => rfl
  | cons x p =>
    rw [hf] at h1 h3 hs
    have hx := h1.head
    unfold Ok at hx
    have hxn := h3 x (by simp)
    rw [nxt_cons] at hs
    have hst : s ≤ x.t := by
      by_cases g : n < x.f
      · rw [if_pos g] at hs; simp only at hs; omega
      · rw [if_neg g] at hs; exact hs
    have hp : fil p (s + 1) = p := fil_all (fun y hy => by
      have h4 := h1.far y hy
      have h5 := h1.tail.all y hy
      unfold Ok at h5
      omega)
    rw [upf_cons, fil_cons, hp]
    by_cases g : x.t < s + 1
    · rw [if_pos g, if_neg (by omega)]
    · rw [if_neg g, if_pos (by omega)]
/-- Up to when it stays so of both. -/
def til (a b : List Sp) (n : Nat) : Nat := min (nxt (fil a n) n).2 (nxt (fil b n) n).2
theorem til_low {a b : List Sp} {n : Nat} (ha : Fine a) (hb : Fine b) (hn : n ≤ 1073741824) : n ≤ til a b n ∧ til a b n ≤ 1073741824 := by
  have h1 := (fil_rest n ha).next hn
  have h2 := (fil_rest n hb).next hn
  unfold til
  omega
end Go.Proofs.Ytmgdbgloacbacaa.Spans
