/- slices.pdqsortOrdered, slices.Sort over at most 1024 32-bit numbers: they put in order. Conditions: the row is the call's own. -/
import Derived.Test.YtmgdbgloacbacaaPk11
import Derived.Test.YtmgdbgloacbacaaPk09
import Derived.Test.YtmgdbgloacbacaaPk12
import Derived.Test.YtmgdbgloacbacaaPk13
import Derived.Test.YtmgdbgloacbacaaPk08

namespace Go.Proofs.Ytmgdbgloacbacaa.Srt
open Go.RowKit
attribute [local go_sem ↓] Go.wp_at_zero Go.wp_at_succ

/-- Of two between a0 and b0 that do not both lie between a and b, the first is no greater. -/
def Dn (a0 b0 a b : Nat) (ys : List Nat) : Prop := ∀ i j, a0 ≤ i → i ≤ j → j < b0 → (i < a ∨ b ≤ j) → ys.getD i 0 ≤ ys.getD j 0
theorem dn_start (a0 b0 : Nat) (ys : List Nat) : Dn a0 b0 a0 b0 ys := fun i j h1 h2 h3 h4 => by
  exfalso; omega
theorem Dn.keep {a0 b0 a b : Nat} {ys zs : List Nat} (h : Dn a0 b0 a b ys) (s : Sw a b ys zs) (hb : b ≤ b0) (ha : a0 ≤ a) : Dn a0 b0 a b zs := fun i j h1 h2 h3 h4 => by
  by_cases hi : a ≤ i ∧ i < b
  · have hj : b ≤ j := by omega
    rw [s.out j (.inr hj)]
    exact s.all (P := fun v => v ≤ ys.getD j 0) (fun k k1 k2 => h k j (by omega) (by omega) h3 (.inr hj)) i hi.1 hi.2
  · rw [s.out i (by omega)]
    by_cases hj : a ≤ j ∧ j < b
    · exact s.all (P := fun v => ys.getD i 0 ≤ v) (fun k k1 k2 => h i k h1 (by omega) (by omega) (.inl (by omega))) j hj.1 hj.2
    · rw [s.out j (by omega)]
      exact h i j h1 h2 h3 h4
theorem Dn.done {a0 b0 a b : Nat} {ys : List Nat} (h : Dn a0 b0 a b ys) (hi : Inc a b ys) : Inc a0 b0 ys := fun i j h1 h2 h3 => by
  by_cases hc : i < a ∨ b ≤ j
  · exact h i j h1 h2 h3 hc
  · exact hi i j (by omega) h2 (by omega)
theorem pre_of {a0 b0 a b : Nat} {xs ys : List Nat} (hp : Pre a0 b0 xs) (s : Sw a0 b0 xs ys) (h : Dn a0 b0 a b ys) (ha : a0 ≤ a) (hb : b ≤ b0) : Pre a b ys := fun h0 k h1 h2 => by
  by_cases e : a = a0
  · subst e
    exact (hp.keep s) h0 k h1 (by omega)
  · exact h (a - 1) k (by omega) (by omega) (by omega) (.inl (by omega))
theorem dn_left {a0 b0 a b m : Nat} {zs ys : List Nat} (h : Dn a0 b0 a b zs) (hp : Pt a b m zs) (hs : Sw a m zs ys) (hi : Inc a m ys) (ha : a0 ≤ a) (hb : b ≤ b0) (h1 : a ≤ m) (h2 : m < b) : Dn a0 b0 (m + 1) b ys := by
  have hd := Dn.keep h (hs.mono (Nat.le_refl _) (Nat.le_of_lt h2)) hb ha
  have hl : ∀ k, a ≤ k → k < m → ys.getD k 0 < ys.getD m 0 := by
    rw [hs.out m (.inr (Nat.le_refl _))]
    exact hs.all (P := fun v => v < zs.getD m 0) hp.1
  have hg : ∀ k, m < k → k < b → ys.getD m 0 ≤ ys.getD k 0 := fun k k1 k2 => by
    rw [hs.out m (.inr (Nat.le_refl _)), hs.out k (.inr (by omega))]
    exact hp.2 k k1 k2
  intro i j i1 i2 i3 i4
  by_cases hc : i < a ∨ b ≤ j
  · exact hd i j i1 i2 i3 hc
  · by_cases him : i = m
    · subst him
      by_cases hjm : i = j
      · subst hjm; exact Nat.le_refl _
      · exact hg j (by omega) (by omega)
    · by_cases hjm : j < m
      · exact hi i j (by omega) i2 hjm
      · have := hl i (by omega) (by omega)
        by_cases e : j = m
        · subst e; omega
        · have := hg j (by omega) (by omega)
          omega
theorem dn_right {a0 b0 a b m : Nat} {zs ys : List Nat} (h : Dn a0 b0 a b zs) (hp : Pt a b m zs) (hs : Sw (m + 1) b zs ys) (hi : Inc (m + 1) b ys) (ha : a0 ≤ a) (hb : b ≤ b0) (h1 : a ≤ m) (h2 : m < b) : Dn a0 b0 a m ys := by
  have hd := Dn.keep h (hs.mono (by omega) (Nat.le_refl _)) hb ha
  have hl : ∀ k, a ≤ k → k < m → ys.getD k 0 < ys.getD m 0 := fun k k1 k2 => by
    rw [hs.out m (.inl (by omega)), hs.out k (.inl (by omega))]
    exact hp.1 k k1 k2
  have hg : ∀ k, m + 1 ≤ k → k < b → ys.getD m 0 ≤ ys.getD k 0 := by
    rw [hs.out m (.inl (by omega))]
    exact hs.all (P := fun v => zs.getD m 0 ≤ v) (fun k k1 k2 => hp.2 k (by omega) k2)
  intro i j i1 i2 i3 i4
  by_cases hc : i < a ∨ b ≤ j
  · exact hd i j i1 i2 i3 hc
  · by_cases hjm : j = m
    · subst hjm
      by_cases e : i = j
      · subst e; exact Nat.le_refl _
      · have := hl i (by omega) (by omega)
        omega
    · by_cases him : i ≤ m
      · have h3 := hg j (by omega) (by omega)
        by_cases e : i = m
        · subst e; exact h3
        · have := hl i (by omega) (by omega)
          omega
      · exact hi i j (by omega) i2 (by omega)
theorem dn_equal {a0 b0 a b m p : Nat} {ys : List Nat} (h : Dn a0 b0 a b ys) (he : ∀ k, a ≤ k → k < m → ys.getD k 0 = p) (hg : ∀ k, m ≤ k → k < b → p < ys.getD k 0) : Dn a0 b0 m b ys := by
  intro i j i1 i2 i3 i4
  by_cases hc : i < a ∨ b ≤ j
  · exact h i j i1 i2 i3 hc
  · rw [he i (by omega) (by omega)]
    by_cases hj : j < m
    · rw [he j (by omega) hj]; exact Nat.le_refl _
    · exact Nat.le_of_lt (hg j (by omega) (by omega))
theorem inc_sub {a b c d : Nat} {xs : List Nat} (h : Inc a b xs) (h1 : a ≤ c) (h2 : d ≤ b) : Inc c d xs := fun i j i1 i2 i3 => h i j (by omega) i2 (by omega)

/-- What a call that puts a range in order does. -/
def Sorted (B g n cap a b : Nat) (xs : List Nat) (w : World) (e : Ending) (w' : World) : Prop :=
  e = .returned (.tuple #[]) ∧ ∃ ys, Row w' B g n cap ys ∧ w.grownBy w' (some g) ∧ Sw a b xs ys ∧ Inc a b ys
def Swapped (B g n cap a b : Nat) (xs : List Nat) (w w' : World) : Prop := ∃ ys, Row w' B g n cap ys ∧ w.grownBy w' (some g) ∧ Sw a b xs ys

set_option maxRecDepth 100000 in
set_option maxHeartbeats 32000000 in
theorem pdq_any (N : Nat) : ∀ (B g n cap a0 b0 : Nat) (xs : List Nat) (w : World) (l0 : Int), Row w B g n cap xs → a0 ≤ b0 → b0 ≤ n → n ≤ 1024 → b0 ≤ a0 + N → 0 ≤ l0 ∧ l0 ≤ 100 → Pre a0 b0 xs →
    Calls Try.prog 61 #[.slice (some ⟨g, 0, none⟩) n cap, .int .i64 (a0 : Int), .int .i64 (b0 : Int), .int .i64 l0] w (Sorted B g n cap a0 b0 xs w) := by
  induction N with
  | zero =>
    intro B g n cap a0 b0 xs w l0 hr hab hb hn hN hl hp
    exact pdq_small hr hab hb (by omega) (by omega) l0
  | succ N ih =>
    intro B g n cap a0 b0 xs w l0 hr hab hb hn hN hl hp
    have IH := Lib.hid ih
    clear ih
    have HR := Lib.hid hr
    have HP := Lib.hid hp
    have G0 := Lib.hid (World.grownBy.refl w (some g))
    have S0 := Lib.hid (Sw.refl a0 b0 xs)
    have D0 := Lib.hid (dn_start a0 b0 xs)
    have HT : Hid (b0 ≤ n ∧ n ≤ 1024 ∧ b0 ≤ a0 + (N + 1)) := by show _ ∧ _; omega
    clear hr hp hb hn hN
    go_enter Try.func61, Try.ntmps61
    go_wp2
    go_loopw [1, 2, 3, 8, 9] (fun i j l wb wp wr => ∃ (a b : Nat) (L : Int) (p q : Bool) (ys : List Nat), a0 ≤ a ∧ a ≤ b ∧ b ≤ b0 ∧ (0 ≤ L ∧ L ≤ 100) ∧ i = .int .i64 (a : Int) ∧ j = .int .i64 (b : Int) ∧ l = .int .i64 L ∧ wb = .bool p ∧ wp = .bool q ∧ Hid (Row wr B g n cap ys) ∧ Hid (w.grownBy wr (some g)) ∧ Hid (Sw a0 b0 xs ys) ∧ Hid (Dn a0 b0 a b ys)) (fun i j _ _ _ _ => (intOf j).toNat - (intOf i).toNat)
    case atStart => exact ⟨a0, b0, l0, true, true, xs, by omega, by omega, by omega, hl, rfl, rfl, rfl, rfl, rfl, HR, G0, S0, D0⟩
    case round =>
      clear HR G0 S0 D0 hl hab
      obtain ⟨a, b, L, wb, wp, ys, ha, hab, hb, ⟨hL1, hL2⟩, rfl, rfl, rfl, rfl, rfl, hR, hG, hS, hD⟩ := hrel
      obtain ⟨len, hlen⟩ : ∃ len, len = b - a := ⟨_, rfl⟩
      have el : (b : Int) - (a : Int) = (len : Int) := by omega
      have el2 : IntKind.i64.wrap (len : Int) = (len : Int) := IntWalk.i64_in _ (by have := HT.out; omega)
      have HLen := Lib.hid hlen
      have hbn : b ≤ n := by have := HT.out; omega
      have hn1 : n ≤ 1024 := HT.out.2.1
      clear hlen
      by_cases h12 : len ≤ 12
      · have t1 : decide ((len : Int) ≤ 12) = true := decide_eq_true (by omega)
        have t2 : decide (len ≤ 12) = true := decide_eq_true h12
        have C := Lib.hid (insertion_any hR.out hab hbn (by omega))
        go_wp2_with fail
        refine C.out.mono ?_
        rintro e w1 ⟨rfl, zs, r1, g1, s1, n1⟩
        have HE : Hid (Sorted B g n cap a0 b0 xs w (.returned (.tuple #[])) w1) := ⟨rfl, zs, r1, grown_tr hG.out g1, hS.out.trans (s1.mono ha hb), (hD.out.keep s1 hb ha).done n1⟩
        clear r1 g1 s1 n1
        go_wp2
        (try simp only [Exit.inBlock, Exit.then])
        refine bodyPost_ret (results_none rfl _ _ _) rfl ?_
        exact HE.out
      have t1 : decide ((len : Int) ≤ 12) = false := decide_eq_false (by omega)
      have t2 : decide (len ≤ 12) = false := decide_eq_false h12
      have hab12 : a + 12 < b := by have := HLen.out; omega
      by_cases hL0 : L = 0
      · have t3 : (L == 0) = true := by simp [hL0]
        have C := Lib.hid (heap_any hR.out (show a < b by omega) hbn (by omega))
        have HL0 := Lib.hid hL0
        clear hL0
        go_wp2_with fail
        refine C.out.mono ?_
        rintro e w1 ⟨rfl, zs, r1, g1, s1, n1⟩
        have HE : Hid (Sorted B g n cap a0 b0 xs w (.returned (.tuple #[])) w1) := ⟨rfl, zs, r1, grown_tr hG.out g1, hS.out.trans (s1.mono ha hb), (hD.out.keep s1 hb ha).done n1⟩
        clear r1 g1 s1 n1
        go_wp2
        (try simp only [Exit.inBlock, Exit.then])
        refine bodyPost_ret (results_none rfl _ _ _) rfl ?_
        exact HE.out
      have t3 : (L == 0) = false := by simp [hL0]
      have eL : IntKind.i64.wrap (L - 1) = L - 1 := IntWalk.i64_in _ (by omega)
      go_upto_if 35 with fail
      go_cut [3] (fun l wx => ∃ L' : Int, l = .int .i64 L' ∧ (0 ≤ L' ∧ L' ≤ 100) ∧ Hid (Swapped B g n cap a b ys w wx))
      case first =>
        have C := Lib.hid (break_any hR.out hab12 hbn hn1)
        cases wb
        · go_wp2_with fail
          refine C.out.mono ?_
          rintro e w1 ⟨rfl, zs, r1, g1, s1⟩
          have HE : Hid (Swapped B g n cap a b ys w w1) := ⟨zs, r1, grown_tr hG.out g1, s1⟩
          clear r1 g1 s1
          go_wp2
          go_meet
          exact ⟨L - 1, rfl, by omega, HE⟩
        · have HE : Hid (Swapped B g n cap a b ys w wr) := ⟨ys, hR.out, hG.out, Sw.refl _ _ _⟩
          go_wp2
          go_meet
          exact ⟨L, rfl, by omega, HE⟩
      case rest =>
        obtain ⟨L', rfl, ⟨hL1', hL2'⟩, hsw⟩ := hcut
        obtain ⟨y1, hR1, hG1, hS1⟩ := hsw.out
        have HR1 := Lib.hid hR1
        have HG1 := Lib.hid hG1
        have HS1 := Lib.hid hS1
        clear hR hG hsw hR1 hG1 hS1 t3 eL hL0 hL1 hL2
        go_wp2_with fail
        refine (pivot_any HR1.out hab12 hbn (by omega)).mono ?_
        rintro e w2 ⟨pv, hint, rfl, hp1, hp2, hh, hR2, hG2⟩
        have HR2 := Lib.hid hR2
        have HG2 := Lib.hid (grown_tr HG1.out hG2)
        clear HR1 HG1 hR2 hG2
        go_upto_if 50 with fail
        go_cut [11, 12] (fun p h wx => ∃ (p' : Nat) (h' : Int), p = .int .i64 (p' : Int) ∧ h = .int .i64 h' ∧ a ≤ p' ∧ p' < b ∧ (h' = 0 ∨ h' = 1) ∧ Hid (Swapped B g n cap a b ys w wx))
        case first =>
          have C := Lib.hid (reverse_any HR2.out (show a < b by omega) hbn (by omega))
          by_cases h2 : hint = 2
          · subst h2
            obtain ⟨d, hd⟩ : ∃ d, d = pv - a := ⟨_, rfl⟩
            have e1 : (pv : Int) - (a : Int) = (d : Int) := by omega
            have e2 : IntKind.i64.wrap (d : Int) = (d : Int) := IntWalk.i64_in _ (by omega)
            obtain ⟨t, ht⟩ : ∃ t, t = b - 1 := ⟨_, rfl⟩
            have e3 : (b : Int) - 1 = (t : Int) := by omega
            have e4 : IntKind.i64.wrap (t : Int) = (t : Int) := IntWalk.i64_in _ (by omega)
            obtain ⟨u, hu⟩ : ∃ u, u = t - d := ⟨_, rfl⟩
            have e5 : (t : Int) - (d : Int) = (u : Int) := by omega
            have e6 : IntKind.i64.wrap (u : Int) = (u : Int) := IntWalk.i64_in _ (by omega)
            have HU : Hid (a ≤ u ∧ u < b) := by show _ ∧ _; omega
            clear hd ht hu
            go_wp2_with fail
            refine C.out.mono ?_
            rintro e w3 ⟨rfl, zs, r1, g1, s1⟩
            have HE : Hid (Swapped B g n cap a b ys w w3) := ⟨zs, r1, grown_tr HG2.out g1, HS1.out.trans s1⟩
            clear r1 g1 s1
            go_wp2
            go_meet
            exact ⟨u, 1, rfl, rfl, HU.out.1, HU.out.2, .inr rfl, HE⟩
          · have h3 : (hint == 2) = false := by simp [h2]
            have HH : Hid (hint = 0 ∨ hint = 1) := by show _ ∨ _; omega
            have HE : Hid (Swapped B g n cap a b ys w w2) := ⟨y1, HR2.out, HG2.out, HS1.out⟩
            clear hh h2
            go_wp2
            go_meet
            exact ⟨pv, hint, rfl, rfl, hp1, hp2, HH.out, HE⟩
        case rest =>
          obtain ⟨pv', h', rfl, rfl, hq1, hq2, hh', hsw⟩ := hcut
          clear HR2 HG2 HS1 hh hp1 hp2
          go_upto_region 15 with fail
          go_cut [68] (fun t wx => ∃ q : Bool, t = .bool q ∧ wx = wc)
          case first =>
            rcases hh' with rfl | rfl
            all_goals
              cases wb
              all_goals
                cases wp
                all_goals
                  go_wp2
                  go_meet
                  exact ⟨_, rfl, rfl⟩
          case rest =>
            obtain ⟨q, rfl, rfl⟩ := hcut
            obtain ⟨y2, hR2, hG2, hS2⟩ := hsw.out
            have HR2 := Lib.hid hR2
            have HG2 := Lib.hid hG2
            have HS2 := Lib.hid hS2
            clear hR2 hG2 hS2 hsw
            obtain ⟨W0, hW0⟩ : ∃ W, W = wc := ⟨_, rfl⟩
            rw [← hW0] at HR2 HG2 ⊢
            clear hW0 wc
            go_upto_if 68 with fail
            go_cut [12] (fun _ wx => Hid (Swapped B g n cap a b ys w wx))
            case first =>
              cases q
              · have HE : Hid (Swapped B g n cap a b ys w W0) := ⟨y2, HR2.out, HG2.out, HS2.out⟩
                go_wp2
                go_meet
                exact HE
              · have C := Lib.hid (partial_any HR2.out (pre_of HP.out (hS.out.trans (HS2.out.mono ha hb)) (hD.out.keep HS2.out hb ha) ha hb) hab12 hbn (by omega))
                go_wp2_with fail
                refine C.out.mono ?_
                rintro e w3 ⟨pq, zs, rfl, r1, g1, s1, n1⟩
                cases pq
                · have HE : Hid (Swapped B g n cap a b ys w w3) := ⟨zs, r1, grown_tr HG2.out g1, HS2.out.trans s1⟩
                  clear r1 g1 s1 n1
                  go_wp2
                  go_meet
                  exact HE
                · have HE : Hid (Sorted B g n cap a0 b0 xs w (.returned (.tuple #[])) w3) := ⟨rfl, zs, r1, grown_tr HG2.out g1, hS.out.trans ((HS2.out.trans s1).mono ha hb), (hD.out.keep (HS2.out.trans s1) hb ha).done (n1 rfl)⟩
                  clear r1 g1 s1 n1
                  go_wp2
                  (try simp only [Exit.inBlock, Exit.then])
                  refine bodyPost_ret (results_none rfl _ _ _) rfl ?_
                  exact HE.out
            case rest =>
              obtain ⟨y3, hR3, hG3, hS3⟩ := hcut.out
              have HR3 := Lib.hid hR3
              have HG3 := Lib.hid hG3
              have HS3 := Lib.hid (hS.out.trans (hS3.mono ha hb))
              have HD3 := Lib.hid (hD.out.keep hS3 hb ha)
              clear hcut hR3 hG3 hS3 HR2 HG2 HS2 hS hD t1 t2
              have HP3 : Hid (Pre a b y3) := pre_of HP.out HS3.out HD3.out ha hb
              obtain ⟨v, hv⟩ : ∃ v, v = y3.getD pv' 0 := ⟨_, rfl⟩
              have c1 := HR3.out.cell pv' (by omega)
              rw [← hv] at c1
              have i1 : (0 : Int) ≤ (pv' : Int) := by omega
              have i2 : (pv' : Int) < (n : Int) := by omega
              have HV := Lib.hid hv
              clear hv
              obtain ⟨W3, rfl⟩ : ∃ W, W = wc := ⟨_, rfl⟩
              rcases Nat.eq_zero_or_pos a with h0 | h0
              · have g1 : decide ((0 : Int) < (a : Int)) = false := decide_eq_false (by omega)
                have g2 : decide (0 < a) = false := decide_eq_false (by omega)
                have H0 := Lib.hid h0
                clear h0
                go_wp2
                go_quiet (fail)
                have hR4 := HR3.out.draw nq
                have hG4 := grown_draw HG3.out nq
                generalize W3.drewN nq = W4 at hR4 hG4 ⊢
                have HR4 := Lib.hid hR4
                have HG4 := Lib.hid hG4
                clear hR4 hG4 HR3 HG3 c1
                go_wp2_with fail
                refine (partition_any HR4.out (show a < b by omega) hbn (by omega) hq1 hq2).mono ?_
                rintro e w5 ⟨mid, pq, zs, rfl, m1, m2, r5, g5, s5, p5⟩
                have HR5 := Lib.hid r5
                have HG5 := Lib.hid (grown_tr HG4.out g5)
                have HS5 := Lib.hid (HS3.out.trans (s5.mono ha hb))
                have HD5 := Lib.hid (HD3.out.keep s5 hb ha)
                have HPT := Lib.hid p5
                have HP5 := Lib.hid (HP3.out.keep s5)
                clear r5 g5 s5 p5 HR4 HG4 HS3 HD3 HP3
                obtain ⟨dl, hdl⟩ : ∃ d, d = mid - a := ⟨_, rfl⟩
                obtain ⟨dr, hdr⟩ : ∃ d, d = b - mid := ⟨_, rfl⟩
                have d1 : (mid : Int) - (a : Int) = (dl : Int) := by omega
                have d2 : IntKind.i64.wrap (dl : Int) = (dl : Int) := IntWalk.i64_in _ (by omega)
                have d3 : (b : Int) - (mid : Int) = (dr : Int) := by omega
                have d4 : IntKind.i64.wrap (dr : Int) = (dr : Int) := IntWalk.i64_in _ (by omega)
                obtain ⟨n1, hn1'⟩ : ∃ m, m = mid + 1 := ⟨_, rfl⟩
                have d5 : (mid : Int) + 1 = (n1 : Int) := by omega
                have d6 : IntKind.i64.wrap (n1 : Int) = (n1 : Int) := IntWalk.i64_in _ (by omega)
                have HDL := Lib.hid hdl
                have HDR := Lib.hid hdr
                have HN1 := Lib.hid hn1'
                clear hdl hdr hn1'
                by_cases hlr : dl < dr
                · have v1 : decide (dl < dr) = true := decide_eq_true hlr
                  have v2 : decide ((dl : Int) < (dr : Int)) = true := decide_eq_true (by omega)
                  have C := Lib.hid (IH.out B g n cap a mid zs w5 L' HR5.out m1 (by omega) hn1 (by have := HT.out; omega) ⟨hL1', hL2'⟩ (fun h k k1 k2 => HP5.out h k k1 (by omega)))
                  go_wp2_with fail
                  refine C.out.mono ?_
                  rintro e w6 ⟨rfl, us, r6, g6, s6, n6⟩
                  have HR6 := Lib.hid r6
                  have HG6 := Lib.hid (grown_tr HG5.out g6)
                  have HS6 := Lib.hid (HS5.out.trans (s6.mono ha (by omega)))
                  have HD6 := Lib.hid (dn_left HD5.out HPT.out s6 n6 ha hb m1 m2)
                  clear r6 g6 s6 n6 HR5 HG5 HS5 HD5 HPT HP5
                  go_wp2
                  go_roundw
                  case rel => exact ⟨n1, b, L', _, pq, us, by have := HN1.out; omega, by have := HN1.out; omega, hb, ⟨hL1', hL2'⟩, rfl, rfl, rfl, rfl, rfl, HR6, HG6, HS6, by rw [HN1.out]; exact HD6⟩
                  case measure => have := HN1.out; simp [intOf]; omega
                · have v1 : decide (dl < dr) = false := decide_eq_false hlr
                  have v2 : decide ((dl : Int) < (dr : Int)) = false := decide_eq_false (by omega)
                  have C := Lib.hid (IH.out B g n cap n1 b zs w5 L' HR5.out (by have := HN1.out; omega) hbn hn1 (by have := HT.out; have := HN1.out; omega) ⟨hL1', hL2'⟩ (fun h k k1 k2 => by
                    rw [show n1 - 1 = mid by have := HN1.out; omega]
                    exact HPT.out.2 k (by have := HN1.out; omega) k2))
                  go_wp2_with fail
                  refine C.out.mono ?_
                  rintro e w6 ⟨rfl, us, r6, g6, s6, n6⟩
                  have HR6 := Lib.hid r6
                  have HG6 := Lib.hid (grown_tr HG5.out g6)
                  have HS6 := Lib.hid (HS5.out.trans (s6.mono (by have := HN1.out; omega) hb))
                  have HD6 := Lib.hid (dn_right HD5.out HPT.out (by rw [← HN1.out]; exact s6) (by rw [← HN1.out]; exact n6) ha hb m1 m2)
                  clear r6 g6 s6 n6 HR5 HG5 HS5 HD5 HPT HP5
                  go_wp2
                  go_roundw
                  case rel => exact ⟨a, mid, L', _, pq, us, ha, m1, by omega, ⟨hL1', hL2'⟩, rfl, rfl, rfl, rfl, rfl, HR6, HG6, HS6, HD6⟩
                  case measure => simp [intOf]; omega
              · have g1 : decide ((0 : Int) < (a : Int)) = true := decide_eq_true (by omega)
                have g2 : decide (0 < a) = true := decide_eq_true h0
                obtain ⟨l, hl⟩ : ∃ l, l = a - 1 := ⟨_, rfl⟩
                have j1 : (a : Int) - 1 = (l : Int) := by omega
                have j2 : IntKind.i64.wrap (l : Int) = (l : Int) := IntWalk.i64_in _ (by omega)
                have j3 : (0 : Int) ≤ (l : Int) := by omega
                have j4 : (l : Int) < (n : Int) := by omega
                obtain ⟨u, hu⟩ : ∃ u, u = y3.getD l 0 := ⟨_, rfl⟩
                have c2 := HR3.out.cell l (by omega)
                rw [← hu] at c2
                obtain ⟨q2, hq2'⟩ : ∃ q, decide (u < v) = q := ⟨_, rfl⟩
                have LS := Lib.hid (less_is hq2')
                have HU := Lib.hid hu
                have HQ := Lib.hid hq2'
                have HLA := Lib.hid hl
                clear hu hq2' hl
                cases q2
                · go_wp2
                  go_quiet ((go_at_call 74; refine Calls.quiet_of_same (LS.out _)))
                  have hR4 := HR3.out.draw nq
                  have hG4 := grown_draw HG3.out nq
                  generalize W3.drewN nq = W4 at hR4 hG4 ⊢
                  have HR4 := Lib.hid hR4
                  have HG4 := Lib.hid hG4
                  clear hR4 hG4 HR3 HG3 c1 c2 LS
                  go_wp2_with fail
                  refine (partEq_any HR4.out (show a < b by omega) hbn (by omega) hq1 hq2).mono ?_
                  rintro e w5 ⟨mid, zs, rfl, m1, m2, r5, g5, s5, e5, e6, e7⟩
                  have HE5 : Hid (Dn a0 b0 mid b zs) := by
                    refine dn_equal (p := v) (HD3.out.keep s5 hb ha) (fun k k1 k2 => ?_) (fun k k1 k2 => by rw [HV.out]; exact e7 k k1 k2)
                    have hpre := (HP3.out.keep s5) (by omega) k k1 (by omega)
                    rw [s5.out (a - 1) (.inl (by omega)), ← HLA.out, ← HU.out] at hpre
                    have hno := of_decide_eq_false HQ.out
                    have h8 : zs.getD k 0 ≤ v := by
                      rw [HV.out]
                      by_cases hk : k = a
                      · rw [hk, e5]; exact Nat.le_refl _
                      · exact e6 k (by omega) k2
                    omega
                  have HR5 := Lib.hid r5
                  have HG5 := Lib.hid (grown_tr HG4.out g5)
                  have HS5 := Lib.hid (HS3.out.trans (s5.mono ha hb))
                  clear r5 g5 s5 e5 e6 e7 HR4 HG4 HS3 HD3 HP3 HQ
                  go_wp2
                  go_roundw
                  case rel => exact ⟨mid, b, L', wb, wp, zs, by omega, m2, hb, ⟨hL1', hL2'⟩, rfl, rfl, rfl, rfl, rfl, HR5, HG5, HS5, HE5⟩
                  case measure => simp [intOf]; omega
                · go_wp2
                  go_quiet ((go_at_call 74; refine Calls.quiet_of_same (LS.out _)))
                  have hR4 := HR3.out.draw nq
                  have hG4 := grown_draw HG3.out nq
                  generalize W3.drewN nq = W4 at hR4 hG4 ⊢
                  have HR4 := Lib.hid hR4
                  have HG4 := Lib.hid hG4
                  clear hR4 hG4 HR3 HG3 c1
                  go_wp2_with fail
                  refine (partition_any HR4.out (show a < b by omega) hbn (by omega) hq1 hq2).mono ?_
                  rintro e w5 ⟨mid, pq, zs, rfl, m1, m2, r5, g5, s5, p5⟩
                  have HR5 := Lib.hid r5
                  have HG5 := Lib.hid (grown_tr HG4.out g5)
                  have HS5 := Lib.hid (HS3.out.trans (s5.mono ha hb))
                  have HD5 := Lib.hid (HD3.out.keep s5 hb ha)
                  have HPT := Lib.hid p5
                  have HP5 := Lib.hid (HP3.out.keep s5)
                  clear r5 g5 s5 p5 HR4 HG4 HS3 HD3 HP3
                  obtain ⟨dl, hdl⟩ : ∃ d, d = mid - a := ⟨_, rfl⟩
                  obtain ⟨dr, hdr⟩ : ∃ d, d = b - mid := ⟨_, rfl⟩
                  have d1 : (mid : Int) - (a : Int) = (dl : Int) := by omega
                  have d2 : IntKind.i64.wrap (dl : Int) = (dl : Int) := IntWalk.i64_in _ (by omega)
                  have d3 : (b : Int) - (mid : Int) = (dr : Int) := by omega
                  have d4 : IntKind.i64.wrap (dr : Int) = (dr : Int) := IntWalk.i64_in _ (by omega)
                  obtain ⟨n1, hn1'⟩ : ∃ m, m = mid + 1 := ⟨_, rfl⟩
                  have d5 : (mid : Int) + 1 = (n1 : Int) := by omega
                  have d6 : IntKind.i64.wrap (n1 : Int) = (n1 : Int) := IntWalk.i64_in _ (by omega)
                  have HDL := Lib.hid hdl
                  have HDR := Lib.hid hdr
                  have HN1 := Lib.hid hn1'
                  clear hdl hdr hn1'
                  by_cases hlr : dl < dr
                  · have v1 : decide (dl < dr) = true := decide_eq_true hlr
                    have v2 : decide ((dl : Int) < (dr : Int)) = true := decide_eq_true (by omega)
                    have C := Lib.hid (IH.out B g n cap a mid zs w5 L' HR5.out m1 (by omega) hn1 (by have := HT.out; omega) ⟨hL1', hL2'⟩ (fun h k k1 k2 => HP5.out h k k1 (by omega)))
                    go_wp2_with fail
                    refine C.out.mono ?_
                    rintro e w6 ⟨rfl, us, r6, g6, s6, n6⟩
                    have HR6 := Lib.hid r6
                    have HG6 := Lib.hid (grown_tr HG5.out g6)
                    have HS6 := Lib.hid (HS5.out.trans (s6.mono ha (by omega)))
                    have HD6 := Lib.hid (dn_left HD5.out HPT.out s6 n6 ha hb m1 m2)
                    clear r6 g6 s6 n6 HR5 HG5 HS5 HD5 HPT HP5
                    go_wp2
                    go_roundw
                    case rel => exact ⟨n1, b, L', _, pq, us, by have := HN1.out; omega, by have := HN1.out; omega, hb, ⟨hL1', hL2'⟩, rfl, rfl, rfl, rfl, rfl, HR6, HG6, HS6, by rw [HN1.out]; exact HD6⟩
                    case measure => have := HN1.out; simp [intOf]; omega
                  · have v1 : decide (dl < dr) = false := decide_eq_false hlr
                    have v2 : decide ((dl : Int) < (dr : Int)) = false := decide_eq_false (by omega)
                    have C := Lib.hid (IH.out B g n cap n1 b zs w5 L' HR5.out (by have := HN1.out; omega) hbn hn1 (by have := HT.out; have := HN1.out; omega) ⟨hL1', hL2'⟩ (fun h k k1 k2 => by
                      rw [show n1 - 1 = mid by have := HN1.out; omega]
                      exact HPT.out.2 k (by have := HN1.out; omega) k2))
                    go_wp2_with fail
                    refine C.out.mono ?_
                    rintro e w6 ⟨rfl, us, r6, g6, s6, n6⟩
                    have HR6 := Lib.hid r6
                    have HG6 := Lib.hid (grown_tr HG5.out g6)
                    have HS6 := Lib.hid (HS5.out.trans (s6.mono (by have := HN1.out; omega) hb))
                    have HD6 := Lib.hid (dn_right HD5.out HPT.out (by rw [← HN1.out]; exact s6) (by rw [← HN1.out]; exact n6) ha hb m1 m2)
                    clear r6 g6 s6 n6 HR5 HG5 HS5 HD5 HPT HP5
                    go_wp2
                    go_roundw
                    case rel => exact ⟨a, mid, L', _, pq, us, ha, m1, by omega, ⟨hL1', hL2'⟩, rfl, rfl, rfl, rfl, rfl, HR6, HG6, HS6, HD6⟩
                    case measure => simp [intOf]; omega

set_option maxRecDepth 100000 in
theorem sort_many : SortC 1024 := fun B g n cap xs w hr hn => by
  have L := Lib.hid (len_any n (by omega))
  have P : Hid (∀ k : Nat, k ≤ 11 → Calls Try.prog 61 #[.slice (some ⟨g, 0, none⟩) n cap, .int .i64 0, .int .i64 (n : Int), .int .i64 (k : Int)] w (Sorted B g n cap 0 n xs w)) := fun k hk => pdq_any 1024 B g n cap 0 n xs w k hr (by omega) (Nat.le_refl _) hn (by omega) (by omega) (fun h => by omega)
  have e1 : IntKind.u64.wrap (n : Int) = (n : Int) := by rw [IntKind.wrap_u64]; omega
  clear hr
  go_enter Try.func51, Try.ntmps51
  go_wp2_with fail
  refine (L.out _).mono ?_
  rintro e w1 ⟨⟨k, rfl, hk⟩, rfl⟩
  have hk11 := hk.1
  clear hk
  go_wp2_with fail
  refine (P.out k hk11).mono ?_
  rintro e w2 ⟨rfl, h⟩
  have H := Lib.hid h
  clear h
  go_wp2
  go_end0
  exact ⟨rfl, H.out⟩
end Go.Proofs.Ytmgdbgloacbacaa.Srt

/- octavo/clock: Has, Same, Count, Top with the library's ContainsFunc, IndexFunc, EqualFunc: what each answers. Conditions: the slices' cells are replicas' spans. -/
namespace Go.Proofs.Ytmgdbgloacbacaa.Clocks
open Go.RowKit Go.Proofs.Ytmgdbgloacbacaa.Spans
attribute [local go_sem ↓] Go.wp_at_zero Go.wp_at_succ

/-! ### Has -/
def hit (a : Id) (x : Tm) : Bool := decide (x.1 = a.r) && has x.2 a.t
theorem hits_is (a : Id) : ∀ {c : List Tm} {lo : Nat}, Up lo c → c.any (hit a) = inB (spn c a.r) a.t
  | [], _, _ => rfl
  | x :: c, lo, h => by
    have h2 : Up (x.1 + 1) c := by
      unfold Up at h
      exact h.2.2.2.2
    have hm := (up_all h x (by simp)).2.2.2
    rw [List.any_cons, spn_cons]
    unfold hit
    by_cases e : x.1 = a.r
    · rw [if_pos e, decide_eq_true e, Bool.true_and]
      have hno : c.any (hit a) = false := by
        rw [List.any_eq_false]
        intro y hy
        have := (up_all h2 y hy).1
        unfold hit
        rw [decide_eq_false (by omega)]
        simp
      unfold hit at hno
      rw [hno, Bool.or_false]
      unfold has
      rw [hm, Bool.true_and]
    · rw [if_neg e, decide_eq_false e, Bool.false_and, Bool.false_or]
      exact hits_is a h2

set_option maxHeartbeats 2000000 in
theorem cHasOne_any (x : Tm) (u : Value) (a : Id) (B : Nat) {w : World} (hu : Sps w u x.2) (hc : w.cell? ⟨B, 0, none⟩ = some (.int .u32 (a.t : Int)) ∧ w.cell? ⟨B, 1, none⟩ = some (.int .u8 (a.r : Int))) (hB : B < w.heap.size) :
    Calls Try.prog 39 #[.agg #[.int .u8 (x.1 : Int), u], .pointer (some ⟨B, 0, none⟩)] w fun e w' => e = .returned (.bool (hit a x)) ∧ Below w.heap.size w w' := by
  obtain ⟨xr, xs⟩ := x
  obtain ⟨t, r, ht, hr⟩ := a
  simp only at hu hc
  unfold hit
  simp only
  have BX := Lib.hid (fun o : Obj => (Below.refl w.heap.size w).alloc (Nat.le_refl _) o)
  have c0 : Hid (∀ o : Obj, (w.alloc o).cell? ⟨B, 0, none⟩ = some (.int .u32 (t : Int)) ∧ (w.alloc o).cell? ⟨B, 1, none⟩ = some (.int .u8 (r : Int))) := fun o => ⟨((BX.out o).cell (p := ⟨B, 0, none⟩) hB).trans hc.1, ((BX.out o).cell (p := ⟨B, 1, none⟩) hB).trans hc.2⟩
  have HP : Hid (∀ o : Obj, Calls Try.prog 40 #[u, .int .u32 (t : Int)] (w.alloc o) fun e w' => e = .returned (.bool (has xs t)) ∧ Below (w.alloc o).heap.size (w.alloc o) w') := fun o => pHas_any t (hu.keeps (BX.out o))
  obtain ⟨so, sc, rfl⟩ := hu.shape
  obtain ⟨d0, d1⟩ := c0.out (.cells #[.int .u8 (xr : Int), .slice so xs.length sc] 50)
  obtain ⟨sl, hsl⟩ : ∃ sl, sl = xs.length := ⟨_, rfl⟩
  rw [← hsl] at d0 d1 HP ⊢
  obtain ⟨b, hb⟩ : ∃ b, has xs t = b := ⟨_, rfl⟩
  rw [hb] at HP ⊢
  clear hu hc c0 hsl hb
  by_cases h1 : xr = r
  · subst h1
    have s1 : ((xr : Int) == (xr : Int)) = true := by simp
    rw [decide_eq_true rfl, Bool.true_and]
    go_enter Try.func39, Try.ntmps39
    go_wp2_with fail
    refine (HP.out _).mono ?_
    rintro e w1 ⟨rfl, b1⟩
    have B1 := Lib.hid (bt (BX.out _) b1)
    clear b1
    go_wp2
    go_ret
    exact ⟨rfl, B1.out⟩
  · have s1 : ((xr : Int) == (r : Int)) = false := by simp; omega
    have s2 : decide (xr = r) = false := decide_eq_false h1
    rw [s2, Bool.false_and]
    go_enter Try.func39, Try.ntmps39
    go_wp2
    go_ret
    exact ⟨rfl, BX.out _⟩

theorem any_snoc (p : Tm → Bool) (c : List Tm) (k : Nat) (h : k < c.length) : (c.take (k + 1)).any p = ((c.take k).any p || p (c.getD k ztm)) := by
  rw [tm_take_snoc c k h, List.any_append]
  simp
set_option maxRecDepth 100000 in
set_option maxHeartbeats 2000000 in
theorem cIdx_any {v : Value} {c : List Tm} (a : Id) (B : Nat) {w : World} (hv : Tms w v c) (hc : w.cell? ⟨B, 0, none⟩ = some (.int .u32 (a.t : Int)) ∧ w.cell? ⟨B, 1, none⟩ = some (.int .u8 (a.r : Int))) (hB : B < w.heap.size) :
    Calls Try.prog 54 #[v, .func (.func 39) #[] #[.pointer (some ⟨B, 0, none⟩)]] w fun e w' => (∃ q : Int, e = .returned (.int .i64 q) ∧ decide (0 ≤ q) = c.any (hit a)) ∧ Below w.heap.size w w' := by
  obtain ⟨ao, cap, rfl⟩ := hv.shape
  obtain ⟨n, hn⟩ : ∃ n, n = c.length := ⟨_, rfl⟩
  have hm : n ≤ 9223372036854775807 := by rw [hn]; exact Tms.max hv
  have HV := Lib.hid hv
  have HN := Lib.hid hn
  have HC := Lib.hid hc
  obtain ⟨b0, hb0⟩ : ∃ b, c.any (hit a) = b := ⟨_, rfl⟩
  have HB0 := Lib.hid hb0
  rw [← hn, hb0]
  have B0 := Lib.hid (Below.refl w.heap.size w)
  clear hv hn hb0 hc
  have eg := enters_of Try.func39 (by kernel_rfl) rfl
  go_enter Try.func54, Try.ntmps54
  go_wp2
  go_loopw [8] (fun i wr => ∃ k : Nat, k ≤ n ∧ i = .int .i64 (k : Int) ∧ Hid ((c.take k).any (hit a) = false) ∧ Hid (Below w.heap.size w wr)) (fun i _ => n - (intOf i).toNat)
  case atStart => exact ⟨0, by omega, rfl, Lib.hid rfl, B0⟩
  case round =>
    obtain ⟨k, hk, rfl, hno, hbel⟩ := hrel
    by_cases hkn : k < n
    · have q1 : decide (k < n) = true := by simpa using hkn
      have q2 : (0 : Int) ≤ (k : Int) := by omega
      have q3 : (k : Int) < (n : Int) := by omega
      have hkl : k < c.length := by rw [← HN.out]; exact hkn
      obtain ⟨b1, o1, u, rfl, hb1, ha0, ha1, -, hsp⟩ := (HV.out.keeps hbel.out).at k hkl
      have hsn := any_snoc (hit a) c k hkl
      rw [hno.out, Bool.false_or] at hsn
      have hall : hit a (c.getD k ztm) = true → b0 = true := fun h => by
        rw [← HB0.out, List.any_eq_true]
        exact ⟨_, tm_mem hkl, h⟩
      obtain ⟨x, hx⟩ : ∃ x, x = c.getD k ztm := ⟨_, rfl⟩
      have hx' : c.getD k (0, []) = x := hx.symm
      rw [hx'] at ha0 hsp
      rw [← hx] at hsn hall
      have C := Lib.hid (cHasOne_any x u a B (w := wr) hsp ⟨(hbel.out.cell (p := ⟨B, 0, none⟩) hB).trans HC.out.1, (hbel.out.cell (p := ⟨B, 1, none⟩) hB).trans HC.out.2⟩ (Nat.lt_of_lt_of_le hB hbel.out.size))
      obtain ⟨q, hq⟩ : ∃ q, hit a x = q := ⟨_, rfl⟩
      rw [hq] at C hsn hall
      have HIn := Lib.hid hall
      have HSn := Lib.hid hsn
      obtain ⟨so, sc, rfl⟩ := hsp.shape
      obtain ⟨xr, xs⟩ := x
      simp only at ha0 ha1 C
      obtain ⟨sl, hsl⟩ : ∃ sl, sl = xs.length := ⟨_, rfl⟩
      rw [← hsl] at ha1 C
      clear hx hx' hsn hall hq hsp hsl
      cases q
      · go_wp2_with fail
        refine C.out.mono ?_
        rintro e w1 ⟨rfl, b1⟩
        have B1 := Lib.hid (bt hbel.out b1)
        clear b1
        go_wp2
        go_roundw
        case rel => exact ⟨k + 1, by omega, by go_num, HSn, B1⟩
        case measure => simp [intOf]; omega
      · obtain rfl : b0 = true := HIn.out rfl
        go_wp2_with fail
        refine C.out.mono ?_
        rintro e w1 ⟨rfl, b1⟩
        have B1 := Lib.hid (bt hbel.out b1)
        clear b1
        go_wp2
        go_ret
        exact ⟨⟨_, rfl, decide_eq_true q2⟩, B1.out⟩
    · have q1 : decide (k < n) = false := by simpa using hkn
      have hkk : c.take k = c := List.take_of_length_le (by have := HN.out; omega)
      have hf : b0 = false := by rw [← HB0.out, ← hkk]; exact hno.out
      subst hf
      clear hkk
      go_wp2
      go_ret
      exact ⟨⟨_, rfl, rfl⟩, hbel.out⟩
theorem cContains_any {v : Value} {c : List Tm} (a : Id) (B : Nat) {w : World} (hv : Tms w v c) (hc : w.cell? ⟨B, 0, none⟩ = some (.int .u32 (a.t : Int)) ∧ w.cell? ⟨B, 1, none⟩ = some (.int .u8 (a.r : Int))) (hB : B < w.heap.size) :
    Calls Try.prog 38 #[v, .func (.func 39) #[] #[.pointer (some ⟨B, 0, none⟩)]] w fun e w' => e = .returned (.bool (c.any (hit a))) ∧ Below w.heap.size w w' := by
  have C := Lib.hid (cIdx_any a B hv hc hB)
  obtain ⟨b0, hb0⟩ : ∃ b, c.any (hit a) = b := ⟨_, rfl⟩
  rw [hb0] at C ⊢
  clear hv hc hb0
  go_enter Try.func38, Try.ntmps38
  go_wp2_with fail
  refine C.out.mono ?_
  rintro e w1 ⟨⟨q, rfl, hq⟩, b1⟩
  go_wp2
  go_ret
  exact ⟨rfl, b1⟩
set_option maxRecDepth 100000 in
set_option maxHeartbeats 2000000 in
theorem cHas_any {v : Value} {c : List Tm} (a : Id) {w : World} (hv : Tms w v c) :
    Calls Try.prog 16 #[v, .agg #[.int .u32 (a.t : Int), .int .u8 (a.r : Int)]] w fun e w' => e = .returned (.bool (hasC c a)) ∧ Below w.heap.size w w' := by
  have X0 := Lib.hid ((Below.refl w.heap.size w).alloc (Nat.le_refl _) (.cells #[.int .u32 (a.t : Int), .int .u8 (a.r : Int)] 25))
  have C0 := Lib.hid (two_blk (heap_alloc_new w (.cells #[.int .u32 (a.t : Int), .int .u8 (a.r : Int)] 25)))
  have M := Lib.hid (cCheck_any (hv.keeps X0.out))
  have HV := Lib.hid hv
  unfold hasC
  unfold chkC at M
  cases hb : mayC c
  · rw [hb, if_neg (by simp)] at M
    rw [Bool.false_and]
    clear hb hv
    go_enter Try.func16, Try.ntmps16
    go_wp2_with fail
    refine M.out.mono ?_
    rintro e w1 ⟨rfl, b1⟩
    have B1 := Lib.hid (bt X0.out b1)
    clear b1
    go_wp2
    go_ret
    exact ⟨rfl, B1.out⟩
  · rw [hb, if_pos rfl] at M
    rw [Bool.true_and, ← hits_is a ((mayC_iff c).1 hb)]
    obtain ⟨b0, hb0⟩ : ∃ b, c.any (hit a) = b := ⟨_, rfl⟩
    have HB0 := Lib.hid hb0
    rw [hb0]
    clear hb hv hb0
    go_enter Try.func16, Try.ntmps16
    go_wp2_with fail
    refine M.out.mono ?_
    rintro e w1 ⟨rfl, b1⟩
    have B1 := Lib.hid (bt X0.out b1)
    have K := cContains_any a w.heap.size (w := w1) ((HV.out.keeps X0.out).keeps b1) ⟨(b1.cell (p := ⟨w.heap.size, 0, none⟩) (by simp)).trans C0.out.1, (b1.cell (p := ⟨w.heap.size, 1, none⟩) (by simp)).trans C0.out.2⟩ (by have := b1.size; simp at this; omega)
    rw [HB0.out] at K
    have K := Lib.hid K
    clear b1
    go_wp2_with fail
    refine K.out.mono ?_
    rintro e w2 ⟨rfl, b2⟩
    have B2 := Lib.hid (bt B1.out b2)
    clear b2
    go_wp2
    go_ret
    exact ⟨rfl, B2.out⟩

/-! ### Same -/
set_option maxHeartbeats 2000000 in
theorem cSameOne_any (x y : Tm) (u v : Value) {w : World} (hu : Sps w u x.2) (hv : Sps w v y.2) :
    Calls Try.prog 44 #[.agg #[.int .u8 (x.1 : Int), u], .agg #[.int .u8 (y.1 : Int), v]] w fun e w' => e = .returned (.bool (decide (x = y))) ∧ Below w.heap.size w w' := by
  obtain ⟨xr, xs⟩ := x
  obtain ⟨yr, ys⟩ := y
  simp only at hu hv ⊢
  have BX : Hid (∀ o p : Obj, Below w.heap.size w ((w.alloc o).alloc p)) := fun o p => ((Below.refl w.heap.size w).alloc (Nat.le_refl _) o).alloc (by simp) p
  have HP : Hid (∀ o p : Obj, Calls Try.prog 45 #[u, v] ((w.alloc o).alloc p) fun e w' => e = .returned (.bool (decide (xs = ys))) ∧ Below ((w.alloc o).alloc p).heap.size ((w.alloc o).alloc p) w') := fun o p => pSame_any (hu.keeps (BX.out o p)) (hv.keeps (BX.out o p))
  obtain ⟨so, sc, rfl⟩ := hu.shape
  obtain ⟨tx, tc, rfl⟩ := hv.shape
  obtain ⟨sl, hsl⟩ : ∃ sl, sl = xs.length := ⟨_, rfl⟩
  obtain ⟨tl, htl⟩ : ∃ tl, tl = ys.length := ⟨_, rfl⟩
  rw [← hsl] at HP ⊢
  rw [← htl] at HP ⊢
  clear hu hv hsl htl
  by_cases h1 : xr = yr
  · subst h1
    have s1 : ((xr : Int) == (xr : Int)) = true := by simp
    have e : decide ((xr, xs) = (xr, ys)) = decide (xs = ys) := by simp
    rw [e]
    obtain ⟨b, hb⟩ : ∃ b, decide (xs = ys) = b := ⟨_, rfl⟩
    rw [hb] at HP ⊢
    clear e hb
    go_enter Try.func44, Try.ntmps44
    go_wp2_with fail
    refine (HP.out _ _).mono ?_
    rintro e w1 ⟨rfl, b1⟩
    have B1 := Lib.hid (bt (BX.out _ _) b1)
    clear b1
    go_wp2
    go_ret
    exact ⟨rfl, B1.out⟩
  · have s1 : ((xr : Int) == (yr : Int)) = false := by simp; omega
    have s2 : decide (xr = yr) = false := decide_eq_false h1
    have e : decide ((xr, xs) = (yr, ys)) = false := decide_eq_false (fun h => h1 (Prod.mk.inj h).1)
    rw [e]
    clear e
    go_enter Try.func44, Try.ntmps44
    go_wp2
    go_ret
    exact ⟨rfl, BX.out _ _⟩

set_option maxRecDepth 100000 in
set_option maxHeartbeats 4000000 in
theorem cEq_any {a b : Value} {c d : List Tm} {w : World} (ha : Tms w a c) (hb : Tms w b d) :
    Calls Try.prog 43 #[a, b, .func (.func 44) #[] #[]] w fun e w' => e = .returned (.bool (decide (c = d))) ∧ Below w.heap.size w w' := by
  obtain ⟨ao, ca, rfl⟩ := ha.shape
  obtain ⟨bo, cb, rfl⟩ := hb.shape
  obtain ⟨n, hn⟩ : ∃ n, n = c.length := ⟨_, rfl⟩
  obtain ⟨n2, hn2⟩ : ∃ n, n = d.length := ⟨_, rfl⟩
  have hm : n ≤ 9223372036854775807 := by rw [hn]; exact Tms.max ha
  have HA := Lib.hid ha
  have HB := Lib.hid hb
  have HN := Lib.hid hn
  have HN2 := Lib.hid hn2
  obtain ⟨R, hR⟩ : ∃ R, R = decide (c = d) := ⟨_, rfl⟩
  have HNo : Hid (c ≠ d → R = false) := fun h => by rw [hR]; exact decide_eq_false h
  have HYes : Hid (c = d → R = true) := fun h => by rw [hR]; exact decide_eq_true h
  rw [← hn, ← hn2, ← hR]
  have B0 := Lib.hid (Below.refl w.heap.size w)
  clear ha hb hn hn2 hR
  have eg := enters_of Try.func44 (by kernel_rfl) rfl
  by_cases hlen : n = n2
  · subst hlen
    have t1 : ((n : Int) != (n : Int)) = false := by simp
    go_enter Try.func43, Try.ntmps43
    go_wp2
    go_loopw [17] (fun i wr => ∃ k : Nat, k ≤ n ∧ i = .int .i64 (k : Int) ∧ Hid (∀ j, j < k → c.getD j ztm = d.getD j ztm) ∧ Hid (Below w.heap.size w wr)) (fun i _ => n - (intOf i).toNat)
    case atStart => exact ⟨0, by omega, rfl, Lib.hid (fun j hj => by omega), B0⟩
    case round =>
      obtain ⟨k, hk, rfl, hal, hbel⟩ := hrel
      by_cases hkn : k < n
      · have q1 : decide (k < n) = true := by simpa using hkn
        have q2 : (0 : Int) ≤ (k : Int) := by omega
        have q3 : (k : Int) < (n : Int) := by omega
        have hkc : k < c.length := by rw [← HN.out]; exact hkn
        have hkd : k < d.length := by rw [← HN2.out]; exact hkn
        obtain ⟨b1, o1, u1, rfl, hb1, ha0, ha1, -, hs1⟩ := (HA.out.keeps hbel.out).at k hkc
        obtain ⟨b2, o2, u2, rfl, hb2, hb0, hb1', -, hs2⟩ := (HB.out.keeps hbel.out).at k hkd
        obtain ⟨x, hx⟩ : ∃ x, x = c.getD k ztm := ⟨_, rfl⟩
        obtain ⟨y, hy⟩ : ∃ y, y = d.getD k ztm := ⟨_, rfl⟩
        have hx' : c.getD k (0, []) = x := hx.symm
        have hy' : d.getD k (0, []) = y := hy.symm
        rw [hx'] at ha0 hs1
        rw [hy'] at hb0 hs2
        have HNe : Hid (x ≠ y → R = false) := fun h => HNo.out (fun e => h (by rw [hx, hy, e]))
        have HXY : Hid (x = y → ∀ j, j < k + 1 → c.getD j ztm = d.getD j ztm) := fun e j hj => by
          by_cases q : j = k
          · rw [q, ← hx, ← hy, e]
          · exact hal.out j (by omega)
        obtain ⟨wo, rfl⟩ : ∃ wo : World, wo = wr := ⟨_, rfl⟩
        have BX : Hid (∀ o p : Obj, Below wo.heap.size wo ((wo.alloc o).alloc p)) := fun o p => ((Below.refl wo.heap.size wo).alloc (Nat.le_refl _) o).alloc (by simp) p
        have SM : Hid (∀ o p : Obj, Calls Try.prog 44 #[.agg #[.int .u8 (x.1 : Int), u1], .agg #[.int .u8 (y.1 : Int), u2]] ((wo.alloc o).alloc p) fun e w' => e = .returned (.bool (decide (x = y))) ∧ Below ((wo.alloc o).alloc p).heap.size ((wo.alloc o).alloc p) w') := fun o p => cSameOne_any x y u1 u2 (hs1.keeps (BX.out o p)) (hs2.keeps (BX.out o p))
        obtain ⟨q, hq⟩ : ∃ q, decide (x = y) = q := ⟨_, rfl⟩
        rw [hq] at SM
        have HQ := Lib.hid hq
        obtain ⟨so1, sc1, rfl⟩ := hs1.shape
        obtain ⟨so2, sc2, rfl⟩ := hs2.shape
        obtain ⟨xr, xs⟩ := x
        obtain ⟨yr, ys⟩ := y
        simp only at ha0 ha1 hb0 hb1' SM
        obtain ⟨l1, hl1⟩ : ∃ l1, l1 = xs.length := ⟨_, rfl⟩
        obtain ⟨l2, hl2⟩ : ∃ l2, l2 = ys.length := ⟨_, rfl⟩
        rw [← hl1] at ha1 SM
        rw [← hl2] at hb1' SM
        have ha0' : (wo.alloc (.cells #[.int .u8 (xr : Int), .slice so1 l1 sc1] 50)).cell? ⟨b2, o2 + k * 2, none⟩ = some (.int .u8 (yr : Int)) := (((Below.refl wo.heap.size wo).alloc (Nat.le_refl _) _).cell (p := ⟨b2, o2 + k * 2, none⟩) hb2).trans hb0
        have ha1' : (wo.alloc (.cells #[.int .u8 (xr : Int), .slice so1 l1 sc1] 50)).cell? ⟨b2, o2 + k * 2 + 1, none⟩ = some (.slice so2 l2 sc2) := (((Below.refl wo.heap.size wo).alloc (Nat.le_refl _) _).cell (p := ⟨b2, o2 + k * 2 + 1, none⟩) hb2).trans hb1'
        clear hx hy hx' hy' hs1 hs2 hl1 hl2 hq hal
        cases q
        · obtain rfl : R = false := HNe.out (of_decide_eq_false HQ.out)
          go_wp2_with fail
          refine (SM.out _ _).mono ?_
          rintro e w1 ⟨rfl, b1⟩
          have B1 := Lib.hid (bt (bt hbel.out (BX.out _ _)) b1)
          clear b1
          go_wp2
          go_ret
          exact ⟨rfl, B1.out⟩
        · have HX2 := Lib.hid (HXY.out (of_decide_eq_true HQ.out))
          clear HXY HNe
          go_wp2_with fail
          refine (SM.out _ _).mono ?_
          rintro e w1 ⟨rfl, b1⟩
          have B1 := Lib.hid (bt (bt hbel.out (BX.out _ _)) b1)
          clear b1
          go_wp2
          go_roundw
          case rel => exact ⟨k + 1, by omega, by go_num, HX2, B1⟩
          case measure => simp [intOf]; omega
      · have q1 : decide (k < n) = false := by simpa using hkn
        obtain rfl : R = true := HYes.out (by
          by_cases e : c = d
          · exact e
          · obtain ⟨j, h1, h2⟩ := tms_ne (by rw [← HN.out, ← HN2.out]) e
            exact absurd (hal.out j (by have := HN.out; omega)) h2)
        go_wp2
        go_ret
        exact ⟨rfl, hbel.out⟩
  · have t1 : ((n : Int) != (n2 : Int)) = true := by simp; omega
    have t2 : ¬ n = n2 := hlen
    obtain rfl : R = false := HNo.out (fun e => hlen (by rw [HN.out, HN2.out, e]))
    go_enter Try.func43, Try.ntmps43
    go_wp2
    go_ret
    exact ⟨rfl, Below.refl _ _⟩
theorem cSame_any {a b : Value} {c d : List Tm} {w : World} (ha : Tms w a c) (hb : Tms w b d) :
    Calls Try.prog 22 #[a, b] w fun e w' => e = .returned (.bool (decide (c = d))) ∧ Below w.heap.size w w' := by
  have C := Lib.hid (cEq_any ha hb)
  obtain ⟨q, hq⟩ : ∃ q, decide (c = d) = q := ⟨_, rfl⟩
  rw [hq] at C ⊢
  clear ha hb hq
  go_enter Try.func22, Try.ntmps22
  go_wp2_with fail
  refine C.out.mono ?_
  rintro e w1 ⟨rfl, b1⟩
  go_wp2
  go_ret
  exact ⟨rfl, b1⟩
end Go.Proofs.Ytmgdbgloacbacaa.Clocks

/- octavo/clock: Count, Top, Ids: what each answers. Conditions: the slices' cells are replicas' spans. -/
namespace Go.Proofs.Ytmgdbgloacbacaa.Clocks
open Go.RowKit Go.Proofs.Ytmgdbgloacbacaa.Spans
attribute [local go_sem ↓] Go.wp_at_zero Go.wp_at_succ

set_option maxRecDepth 100000 in
set_option maxHeartbeats 2000000 in
theorem cCount_any {v : Value} {c : List Tm} {w : World} (hv : Tms w v c) :
    Calls Try.prog 18 #[v] w fun e w' => e = .returned (.int .i64 (countC c : Int)) ∧ Below w.heap.size w w' := by
  obtain ⟨ao, cap, rfl⟩ := hv.shape
  obtain ⟨n, hn⟩ : ∃ n, n = c.length := ⟨_, rfl⟩
  have hm : n ≤ 9223372036854775807 := by rw [hn]; exact Tms.max hv
  have M := Lib.hid (cCheck_any hv)
  have HV := Lib.hid hv
  have HN := Lib.hid hn
  unfold countC
  unfold chkC at M
  cases hb : mayC c
  · rw [hb, if_neg (by simp)] at M
    rw [if_neg (by simp)]
    clear hb hv hn
    go_enter Try.func18, Try.ntmps18
    go_wp2_with fail
    refine M.out.mono ?_
    rintro e w1 ⟨rfl, b1⟩
    go_wp2
    go_ret
    exact ⟨rfl, b1⟩
  rw [hb, if_pos rfl] at M
  rw [if_pos rfl]
  have HC := Lib.hid ((mayC_iff c).1 hb)
  obtain ⟨R, hR⟩ : ∃ R, R = manyC c := ⟨_, rfl⟩
  have HR := Lib.hid hR
  rw [← hR]
  rw [← hn] at M ⊢
  clear hb hv hn hR
  go_enter Try.func18, Try.ntmps18
  go_wp2_with fail
  refine M.out.mono ?_
  rintro e w1 ⟨rfl, b1⟩
  have B0 := Lib.hid b1
  clear b1
  go_wp2
  go_loopw [3, 11] (fun s i wr => ∃ k m : Nat, k ≤ n ∧ i = .int .i64 (k : Int) ∧ s = .int .i64 (m : Int) ∧ Hid (m = manyC (c.take k)) ∧ Hid (Below w.heap.size w wr)) (fun _ i _ => n - (intOf i).toNat)
  case atStart => exact ⟨0, 0, by omega, rfl, rfl, Lib.hid rfl, B0⟩
  case round =>
    clear B0
    obtain ⟨k, m, hk, rfl, rfl, hmany, hbel⟩ := hrel
    by_cases hkn : k < n
    · have q1 : decide (k < n) = true := by simpa using hkn
      have q2 : (0 : Int) ≤ (k : Int) := by omega
      have q3 : (k : Int) < (n : Int) := by omega
      have hkl : k < c.length := by rw [← HN.out]; exact hkn
      obtain ⟨b1, o1, u, rfl, hb1, ha0, ha1, -, hsp⟩ := (HV.out.keeps hbel.out).at k hkl
      have hok := up_all HC.out (c.getD k ztm) (tm_mem hkl)
      have hs := tm_take_snoc c k hkl
      have hms := manyC_snoc (c.take k) (c.getD k ztm)
      rw [← hs] at hms
      have hle := manyC_le (up_take HC.out (k + 1))
      obtain ⟨x, hx⟩ : ∃ x, x = c.getD k ztm := ⟨_, rfl⟩
      have hx' : c.getD k (0, []) = x := hx.symm
      rw [hx'] at ha0 hsp
      rw [← hx] at hok hms
      obtain ⟨wo, rfl⟩ : ∃ wo : World, wo = wr := ⟨_, rfl⟩
      have BA : Hid (∀ o : Obj, Below wo.heap.size wo (wo.alloc o)) := fun o => (Below.refl _ _).alloc (Nat.le_refl _) o
      have C : Hid (∀ o : Obj, Calls Try.prog 42 #[u] (wo.alloc o) fun e w' => e = .returned (.int .i64 (many x.2 : Int)) ∧ Below (wo.alloc o).heap.size (wo.alloc o) w') := fun o => by
        have h := pCount_any (hsp.keeps (BA.out o))
        unfold count at h
        rwa [if_pos hok.2.2.2] at h
      obtain ⟨so, sc, rfl⟩ := hsp.shape
      obtain ⟨d, hd⟩ : ∃ d, d = many x.2 := ⟨_, rfl⟩
      rw [← hd] at C hms
      have HM2 : Hid (m + d = manyC (c.take (k + 1))) := by show _ = _; rw [hms, hmany.out]
      have hb2 : m + d ≤ 8589934600 := by rw [HM2.out]; omega
      have e5 : IntKind.i64.wrap ((m : Int) + (d : Int)) = (m : Int) + (d : Int) := IntWalk.i64_in _ (by omega)
      obtain ⟨xr, xs⟩ := x
      simp only at ha0 ha1 C
      obtain ⟨sl, hsl⟩ : ∃ sl, sl = xs.length := ⟨_, rfl⟩
      rw [← hsl] at C ha1
      clear hx hx' hs hms hle hok hsp hd hsl
      go_wp2_with fail
      refine (C.out _).mono ?_
      rintro e w1 ⟨rfl, b1⟩
      have B1 := Lib.hid (bt (bt hbel.out (BA.out _)) b1)
      clear b1
      go_wp2
      go_roundw
      case rel => exact ⟨k + 1, m + d, by omega, by go_num, by go_num, HM2, B1⟩
      case measure => simp [intOf]; omega
    · have q1 : decide (k < n) = false := by simpa using hkn
      have hkk : c.take k = c := List.take_of_length_le (by have := HN.out; omega)
      have hf : m = R := by have := hmany.out; rw [hkk] at this; rw [HR.out]; exact this
      subst hf
      clear hkk
      go_wp2
      go_ret
      exact ⟨rfl, hbel.out⟩

theorem top_last {l : List Sp} (h : Fine l) (hne : l ≠ []) : top l = (l.getD (l.length - 1) zsp).t := by
  have hpos : 0 < l.length := List.length_pos_iff.2 hne
  have h1 : ∀ m : List Sp, (∀ a ∈ m, a.t ≤ (l.getD (l.length - 1) zsp).t) → top m ≤ (l.getD (l.length - 1) zsp).t := by
    intro m
    induction m with
    | nil => intro _; simp [top]
    | cons x m ih =>
      intro hm
      have := hm x (by simp)
      have := ih (fun a ha => hm a (by simp [ha]))
      unfold top
      omega
  have h2 := h1 l (fine_most h)
  have h3 : ∀ m : List Sp, ∀ a ∈ m, a.t ≤ top m := by
    intro m
    induction m with
    | nil => intro a ha; simp at ha
    | cons x m ih =>
      intro a ha
      rcases List.mem_cons.1 ha with rfl | ha
      · unfold top; omega
      · have := ih a ha; unfold top; omega
  have h4 := h3 l (l.getD (l.length - 1) zsp) (by rw [List.getD, List.getElem?_eq_getElem (by omega)]; exact List.getElem_mem _)
  omega
set_option maxRecDepth 100000 in
set_option maxHeartbeats 2000000 in
theorem cTop_any {v : Value} {c : List Tm} {w : World} (hv : Tms w v c) :
    Calls Try.prog 20 #[v] w fun e w' => e = .returned (.int .u32 (topCC c : Int)) ∧ Below w.heap.size w w' := by
  obtain ⟨ao, cap, rfl⟩ := hv.shape
  obtain ⟨n, hn⟩ : ∃ n, n = c.length := ⟨_, rfl⟩
  have hm : n ≤ 9223372036854775807 := by rw [hn]; exact Tms.max hv
  have M := Lib.hid (cCheck_any hv)
  have HV := Lib.hid hv
  have HN := Lib.hid hn
  unfold topCC
  unfold chkC at M
  cases hb : mayC c
  · rw [hb, if_neg (by simp)] at M
    rw [if_neg (by simp)]
    clear hb hv hn
    go_enter Try.func20, Try.ntmps20
    go_wp2_with fail
    refine M.out.mono ?_
    rintro e w1 ⟨rfl, b1⟩
    go_wp2
    go_ret
    exact ⟨rfl, b1⟩
  rw [hb, if_pos rfl] at M
  rw [if_pos rfl]
  have HC := Lib.hid ((mayC_iff c).1 hb)
  obtain ⟨R, hR⟩ : ∃ R, R = topC c := ⟨_, rfl⟩
  have HR := Lib.hid hR
  rw [← hR]
  rw [← hn] at M ⊢
  clear hb hv hn hR
  go_enter Try.func20, Try.ntmps20
  go_wp2_with fail
  refine M.out.mono ?_
  rintro e w1 ⟨rfl, b1⟩
  have B0 := Lib.hid b1
  clear b1
  go_wp2
  go_loopw [3, 11] (fun s i wr => ∃ k m : Nat, k ≤ n ∧ i = .int .i64 (k : Int) ∧ s = .int .u32 (m : Int) ∧ Hid (m = topC (c.take k)) ∧ Hid (Below w.heap.size w wr)) (fun _ i _ => n - (intOf i).toNat)
  case atStart => exact ⟨0, 0, by omega, rfl, rfl, Lib.hid rfl, B0⟩
  case round =>
    clear B0
    obtain ⟨k, m, hk, rfl, rfl, hmt, hbel⟩ := hrel
    by_cases hkn : k < n
    · have q1 : decide (k < n) = true := by simpa using hkn
      have q2 : (0 : Int) ≤ (k : Int) := by omega
      have q3 : (k : Int) < (n : Int) := by omega
      have hkl : k < c.length := by rw [← HN.out]; exact hkn
      obtain ⟨b1, o1, u, rfl, hb1, ha0, ha1, -, hsp⟩ := (HV.out.keeps hbel.out).at k hkl
      have hok := up_all HC.out (c.getD k ztm) (tm_mem hkl)
      have hs := tm_take_snoc c k hkl
      have hts := topC_snoc (c.take k) (c.getD k ztm)
      rw [← hs] at hts
      obtain ⟨x, hx⟩ : ∃ x, x = c.getD k ztm := ⟨_, rfl⟩
      have hx' : c.getD k (0, []) = x := hx.symm
      rw [hx'] at ha0 hsp
      rw [← hx] at hok hts
      obtain ⟨xr, xs⟩ := x
      simp only at ha0 ha1 hsp hts hok
      have hfin := ((mayB_iff _).1 hok.2.2.2).1
      have hsl := ((mayB_iff _).1 hok.2.2.2).2
      have hpos : 0 < xs.length := List.length_pos_iff.2 hok.2.2.1
      obtain ⟨j, hj⟩ : ∃ j, j = xs.length - 1 := ⟨_, rfl⟩
      rw [top_last hfin hok.2.2.1, ← hj] at hts
      obtain ⟨wo, rfl⟩ : ∃ wo : World, wo = wr := ⟨_, rfl⟩
      have BA : Hid (∀ o : Obj, Below wo.heap.size wo (wo.alloc o)) := fun o => (Below.refl _ _).alloc (Nat.le_refl _) o
      obtain ⟨so, sc, rfl⟩ := hsp.shape
      obtain ⟨b2, o2, rfl, hb2, -, hc1⟩ := hsp.at j (by omega)
      obtain ⟨z, hz⟩ : ∃ z, z = (xs.getD j zsp).t := ⟨_, rfl⟩
      rw [← hz] at hc1 hts
      obtain ⟨sl, hsl'⟩ : ∃ sl, sl = xs.length := ⟨_, rfl⟩
      rw [← hsl'] at hsl hpos hj ha1
      have HC1 : Hid (∀ o : Obj, (wo.alloc o).cell? ⟨b2, o2 + j * 2 + 1, none⟩ = some (.int .u32 (z : Int))) := fun o => ((BA.out o).cell (p := ⟨b2, o2 + j * 2 + 1, none⟩) hb2).trans hc1
      have i1 : (sl : Int) - 1 = (j : Int) := by omega
      have i2 : IntKind.i64.wrap (j : Int) = (j : Int) := IntWalk.i64_in _ (by omega)
      have i3 : (0 : Int) ≤ (j : Int) := by omega
      have i4 : (j : Int) < (sl : Int) := by omega
      have HM2 : Hid (max m z = topC (c.take (k + 1))) := by show _ = _; rw [hts, hmt.out]
      have hc1 := HC1.out (.cells #[.int .u8 (xr : Int), .slice (some ⟨b2, o2, none⟩) sl sc] 50)
      have BX : Hid (∀ o : Obj, Below w.heap.size w (wo.alloc o)) := fun o => hbel.out.alloc hbel.out.size o
      clear hx hx' hs hts hok hsp hz hfin hsl' hj HC1 BA
      have hcase : (z < m ∧ max m z = m) ∨ (m = z ∧ max m z = m) ∨ (m < z ∧ max m z = z) := by omega
      rcases hcase with ⟨g1, g2⟩ | ⟨g1, g2⟩ | ⟨g1, g2⟩
      · rw [g2] at HM2
        have g3 : ¬ m < z := by omega
        have g4 : ¬ m ≤ z := by omega
        clear g2
        go_wp2
        go_roundw
        case rel => exact ⟨k + 1, m, by omega, by go_num, by go_num, HM2, BX.out _⟩
        case measure => simp [intOf]; omega
      · rw [g2] at HM2
        subst g1
        clear g2
        go_wp2
        go_roundw
        case rel => exact ⟨k + 1, m, by omega, by go_num, by go_num, HM2, BX.out _⟩
        case measure => simp [intOf]; omega
      · rw [g2] at HM2
        have g3 : ¬ z < m := by omega
        have g4 : ¬ z ≤ m := by omega
        clear g2
        go_wp2
        go_roundw
        case rel => exact ⟨k + 1, z, by omega, by go_num, by go_num, HM2, BX.out _⟩
        case measure => simp [intOf]; omega
    · have q1 : decide (k < n) = false := by simpa using hkn
      have hkk : c.take k = c := List.take_of_length_le (by have := HN.out; omega)
      have hf : m = R := by have := hmt.out; rw [hkk] at this; rw [HR.out]; exact this
      subst hf
      clear hkk
      go_wp2
      go_ret
      exact ⟨rfl, hbel.out⟩
end Go.Proofs.Ytmgdbgloacbacaa.Clocks
