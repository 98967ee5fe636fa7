/- slices.pdqsortOrdered, slices.Sort over at most 1024 32-bit numbers: they put in order. Conditions: the row is the call's own. -/
import Derived.Shelf.Abstract
import Derived.Deep.DrawnRows
import Derived.Deep.RegionHeld3
import Derived.Lib.AppendZerosOnto
import Derived.Laws.NewBlocks
import Derived.Deep.RegionLaw
import Derived.Scope
import Derived.Maps.Own
import Derived.Maps.OwnOps
import Derived.Maps.OwnSet
import Derived.Maps.Views
import Derived.DeepKeys4
import Derived.Test.YtpgdnenkjommfaaGreatPk17
import Derived.Test.YtpgdnenkjommfaaGreatPk15
import Derived.Test.YtpgdnenkjommfaaGreatPk18
import Derived.Test.YtpgdnenkjommfaaGreatPk19
import Derived.Test.YtpgdnenkjommfaaGreatPk14
import Derived.Test.YtpgdnenkjommfaaGreatPk11
import Derived.Test.YtpgdnenkjommfaaGreatPk16
import Derived.Test.YtpgdnenkjommfaaGreatPk08
import Derived.Test.YtpgdnenkjommfaaGreatPk02
import Derived.Test.YtpgdnenkjommfaaGreatPk04
import Derived.Test.YtpgdnenkjommfaaGreatPk13
import Derived.Test.YtpgdnenkjommfaaGreatPk01
import Derived.Test.YtpgdnenkjommfaaGreatPk12
import Derived.Test.YtpgdnenkjommfaaGreatPk06

namespace Go.Proofs.YtpgdnenkjommfaaGreat.Srt
open Go.RowKit
attribute [local go_sem ↓] Go.wp_at_zero Go.wp_at_succ

/-- Of two between a0 and b0 that do not both lie between a and b, the first is no greater. -/
def Dn (a0 b0 a b : Nat) (ys : List Nat) : Prop := ∀ i j, a0 ≤ i → i ≤ j → j < b0 → (i < a ∨ b ≤ j) → ys.getD i 0 ≤ ys.getD j 0
theorem dn_start (a0 b0 : Nat) (ys : List Nat) : Dn a0 b0 a0 b0 ys := fun i j h1 h2 h3 h4 => by
  exfalso; omega
theorem Dn.keep {a0 b0 a b : Nat} {ys zs : List Nat} (h : Dn a0 b0 a b ys) (s : Sw a b ys zs) (hb : b ≤ b0) (ha : a0 ≤ a) : Dn a0 b0 a b zs := fun i j h1 h2 h3 h4 => by
  by_cases hi : a ≤ i ∧ i < b
  · have hj : b ≤ j := by omega
    rw [s.out j (.inr hj)]
    exact s.all (P := fun v => v ≤ ys.getD j 0) (fun k k1 k2 => h k j (by omega) (by omega) h3 (.inr hj)) i hi.1 hi.2
  · rw [s.out i (by omega)]
    by_cases hj : a ≤ j ∧ j < b
    · exact s.all (P := fun v => ys.getD i 0 ≤ v) (fun k k1 k2 => h i k h1 (by omega) (by omega) (.inl (by omega))) j hj.1 hj.2
    · rw [s.out j (by omega)]
      exact h i j h1 h2 h3 h4
theorem Dn.done {a0 b0 a b : Nat} {ys : List Nat} (h : Dn a0 b0 a b ys) (hi : Inc a b ys) : Inc a0 b0 ys := fun i j h1 h2 h3 => by
  by_cases hc : i < a ∨ b ≤ j
  · exact h i j h1 h2 h3 hc
  · exact hi i j (by omega) h2 (by omega)
theorem pre_of {a0 b0 a b : Nat} {xs ys : List Nat} (hp : Pre a0 b0 xs) (s : Sw a0 b0 xs ys) (h : Dn a0 b0 a b ys) (ha : a0 ≤ a) (hb : b ≤ b0) : Pre a b ys := fun h0 k h1 h2 => by
  by_cases e : a = a0
  · subst e
    exact (hp.keep s) h0 k h1 (by omega)
  · exact h (a - 1) k (by omega) (by omega) (by omega) (.inl (by omega))
theorem dn_left {a0 b0 a b m : Nat} {zs ys : List Nat} (h : Dn a0 b0 a b zs) (hp : Pt a b m zs) (hs : Sw a m zs ys) (hi : Inc a m ys) (ha : a0 ≤ a) (hb : b ≤ b0) (h1 : a ≤ m) (h2 : m < b) : Dn a0 b0 (m + 1) b ys := by
  have hd := Dn.keep h (hs.mono (Nat.le_refl _) (Nat.le_of_lt h2)) hb ha
  have hl : ∀ k, a ≤ k → k < m → ys.getD k 0 < ys.getD m 0 := by
    rw [hs.out m (.inr (Nat.le_refl _))]
    exact hs.all (P := fun v => v < zs.getD m 0) hp.1
  have hg : ∀ k, m < k → k < b → ys.getD m 0 ≤ ys.getD k 0 := fun k k1 k2 => by
    rw [hs.out m (.inr (Nat.le_refl _)), hs.out k (.inr (by omega))]
    exact hp.2 k k1 k2
  intro i j i1 i2 i3 i4
  by_cases hc : i < a ∨ b ≤ j
  · exact hd i j i1 i2 i3 hc
  · by_cases him : i = m
    · subst him
      by_cases hjm : i = j
      · subst hjm; exact Nat.le_refl _
      · exact hg j (by omega) (by omega)
    · by_cases hjm : j < m
      · exact hi i j (by omega) i2 hjm
      · have := hl i (by omega) (by omega)
        by_cases e : j = m
        · subst e; omega
        · have := hg j (by omega) (by omega)
          omega
theorem dn_right {a0 b0 a b m : Nat} {zs ys : List Nat} (h : Dn a0 b0 a b zs) (hp : Pt a b m zs) (hs : Sw (m + 1) b zs ys) (hi : Inc (m + 1) b ys) (ha : a0 ≤ a) (hb : b ≤ b0) (h1 : a ≤ m) (h2 : m < b) : Dn a0 b0 a m ys := by
  have hd := Dn.keep h (hs.mono (by omega) (Nat.le_refl _)) hb ha
  have hl : ∀ k, a ≤ k → k < m → ys.getD k 0 < ys.getD m 0 := fun k k1 k2 => by
    rw [hs.out m (.inl (by omega)), hs.out k (.inl (by omega))]
    exact hp.1 k k1 k2
  have hg : ∀ k, m + 1 ≤ k → k < b → ys.getD m 0 ≤ ys.getD k 0 := by
    rw [hs.out m (.inl (by omega))]
    exact hs.all (P := fun v => zs.getD m 0 ≤ v) (fun k k1 k2 => hp.2 k (by omega) k2)
  intro i j i1 i2 i3 i4
  by_cases hc : i < a ∨ b ≤ j
  · exact hd i j i1 i2 i3 hc
  · by_cases hjm : j = m
    · subst hjm
      by_cases e : i = j
      · subst e; exact Nat.le_refl _
      · have := hl i (by omega) (by omega)
        omega
    · by_cases him : i ≤ m
      · have h3 := hg j (by omega) (by omega)
        by_cases e : i = m
        · subst e; exact h3
        · have := hl i (by omega) (by omega)
          omega
      · exact hi i j (by omega) i2 (by omega)
theorem dn_equal {a0 b0 a b m p : Nat} {ys : List Nat} (h : Dn a0 b0 a b ys) (he : ∀ k, a ≤ k → k < m → ys.getD k 0 = p) (hg : ∀ k, m ≤ k → k < b → p < ys.getD k 0) : Dn a0 b0 m b ys := by
  intro i j i1 i2 i3 i4
  by_cases hc : i < a ∨ b ≤ j
  · exact h i j i1 i2 i3 hc
  · rw [he i (by omega) (by omega)]
    by_cases hj : j < m
    · rw [he j (by omega) hj]; exact Nat.le_refl _
    · exact Nat.le_of_lt (hg j (by omega) (by omega))
/-- What a call that puts a range in order does. -/
def Sorted (B g n cap a b : Nat) (xs : List Nat) (w : World) (e : Ending) (w' : World) : Prop :=
  e = .returned (.tuple #[]) ∧ ∃ ys, Row w' B g n cap ys ∧ w.grownBy w' (some g) ∧ Sw a b xs ys ∧ Inc a b ys
def Swapped (B g n cap a b : Nat) (xs : List Nat) (w w' : World) : Prop := ∃ ys, Row w' B g n cap ys ∧ w.grownBy w' (some g) ∧ Sw a b xs ys

set_option maxRecDepth 100000 in
set_option maxHeartbeats 32000000 in
theorem pdq_any (N : Nat) : ∀ (B g n cap a0 b0 : Nat) (xs : List Nat) (w : World) (l0 : Int), Row w B g n cap xs → a0 ≤ b0 → b0 ≤ n → n ≤ 1024 → b0 ≤ a0 + N → 0 ≤ l0 ∧ l0 ≤ 100 → Pre a0 b0 xs →
    Calls Tryz.prog 96 #[.slice (some ⟨g, 0, none⟩) n cap, .int .i64 (a0 : Int), .int .i64 (b0 : Int), .int .i64 l0] w (Sorted B g n cap a0 b0 xs w) := by
  induction N with
  | zero =>
    intro B g n cap a0 b0 xs w l0 hr hab hb hn hN hl hp
    exact pdq_small hr hab hb (by omega) (by omega) l0
  | succ N ih =>
    intro B g n cap a0 b0 xs w l0 hr hab hb hn hN hl hp
    have IH := Lib.hid ih
    clear ih
    have HR := Lib.hid hr
    have HP := Lib.hid hp
    have G0 := Lib.hid (World.grownBy.refl w (some g))
    have S0 := Lib.hid (Sw.refl a0 b0 xs)
    have D0 := Lib.hid (dn_start a0 b0 xs)
    have HT : Hid (b0 ≤ n ∧ n ≤ 1024 ∧ b0 ≤ a0 + (N + 1)) := by show _ ∧ _; omega
    clear hr hp hb hn hN
    go_enter Tryz.func96, Tryz.ntmps96
    go_wp2
    go_loopw [1, 2, 3, 8, 9] (fun i j l wb wp wr => ∃ (a b : Nat) (L : Int) (p q : Bool) (ys : List Nat), a0 ≤ a ∧ a ≤ b ∧ b ≤ b0 ∧ (0 ≤ L ∧ L ≤ 100) ∧ i = .int .i64 (a : Int) ∧ j = .int .i64 (b : Int) ∧ l = .int .i64 L ∧ wb = .bool p ∧ wp = .bool q ∧ Hid (Row wr B g n cap ys) ∧ Hid (w.grownBy wr (some g)) ∧ Hid (Sw a0 b0 xs ys) ∧ Hid (Dn a0 b0 a b ys)) (fun i j _ _ _ _ => (intOf j).toNat - (intOf i).toNat)
    case atStart => exact ⟨a0, b0, l0, true, true, xs, by omega, by omega, by omega, hl, rfl, rfl, rfl, rfl, rfl, HR, G0, S0, D0⟩
    case round =>
      clear HR G0 S0 D0 hl hab
      obtain ⟨a, b, L, wb, wp, ys, ha, hab, hb, ⟨hL1, hL2⟩, rfl, rfl, rfl, rfl, rfl, hR, hG, hS, hD⟩ := hrel
      obtain ⟨len, hlen⟩ : ∃ len, len = b - a := ⟨_, rfl⟩
      have el : (b : Int) - (a : Int) = (len : Int) := by omega
      have el2 : IntKind.i64.wrap (len : Int) = (len : Int) := IntWalk.i64_in _ (by have := HT.out; omega)
      have HLen := Lib.hid hlen
      have hbn : b ≤ n := by have := HT.out; omega
      have hn1 : n ≤ 1024 := HT.out.2.1
      clear hlen
      by_cases h12 : len ≤ 12
      · have t1 : decide ((len : Int) ≤ 12) = true := decide_eq_true (by omega)
        have t2 : decide (len ≤ 12) = true := decide_eq_true h12
        have C := Lib.hid (insertion_any hR.out hab hbn (by omega))
        go_wp2_with fail
        refine C.out.mono ?_
        rintro e w1 ⟨rfl, zs, r1, g1, s1, n1⟩
        have HE : Hid (Sorted B g n cap a0 b0 xs w (.returned (.tuple #[])) w1) := ⟨rfl, zs, r1, grown_tr hG.out g1, hS.out.trans (s1.mono ha hb), (hD.out.keep s1 hb ha).done n1⟩
        clear r1 g1 s1 n1
        go_wp2
        (try simp only [Exit.inBlock, Exit.then])
        refine bodyPost_ret (results_none rfl _ _ _) rfl ?_
        exact HE.out
      have t1 : decide ((len : Int) ≤ 12) = false := decide_eq_false (by omega)
      have t2 : decide (len ≤ 12) = false := decide_eq_false h12
      have hab12 : a + 12 < b := by have := HLen.out; omega
      by_cases hL0 : L = 0
      · have t3 : (L == 0) = true := by simp [hL0]
        have C := Lib.hid (heap_any hR.out (show a < b by omega) hbn (by omega))
        have HL0 := Lib.hid hL0
        clear hL0
        go_wp2_with fail
        refine C.out.mono ?_
        rintro e w1 ⟨rfl, zs, r1, g1, s1, n1⟩
        have HE : Hid (Sorted B g n cap a0 b0 xs w (.returned (.tuple #[])) w1) := ⟨rfl, zs, r1, grown_tr hG.out g1, hS.out.trans (s1.mono ha hb), (hD.out.keep s1 hb ha).done n1⟩
        clear r1 g1 s1 n1
        go_wp2
        (try simp only [Exit.inBlock, Exit.then])
        refine bodyPost_ret (results_none rfl _ _ _) rfl ?_
        exact HE.out
      have t3 : (L == 0) = false := by simp [hL0]
      have eL : IntKind.i64.wrap (L - 1) = L - 1 := IntWalk.i64_in _ (by omega)
      go_upto_if 35 with fail
      go_cut [3] (fun l wx => ∃ L' : Int, l = .int .i64 L' ∧ (0 ≤ L' ∧ L' ≤ 100) ∧ Hid (Swapped B g n cap a b ys w wx))
      case first =>
        have C := Lib.hid (break_any hR.out hab12 hbn hn1)
        cases wb
        · go_wp2_with fail
          refine C.out.mono ?_
          rintro e w1 ⟨rfl, zs, r1, g1, s1⟩
          have HE : Hid (Swapped B g n cap a b ys w w1) := ⟨zs, r1, grown_tr hG.out g1, s1⟩
          clear r1 g1 s1
          go_wp2
          go_meet
          exact ⟨L - 1, rfl, by omega, HE⟩
        · have HE : Hid (Swapped B g n cap a b ys w wr) := ⟨ys, hR.out, hG.out, Sw.refl _ _ _⟩
          go_wp2
          go_meet
          exact ⟨L, rfl, by omega, HE⟩
      case rest =>
        obtain ⟨L', rfl, ⟨hL1', hL2'⟩, hsw⟩ := hcut
        obtain ⟨y1, hR1, hG1, hS1⟩ := hsw.out
        have HR1 := Lib.hid hR1
        have HG1 := Lib.hid hG1
        have HS1 := Lib.hid hS1
        clear hR hG hsw hR1 hG1 hS1 t3 eL hL0 hL1 hL2
        go_wp2_with fail
        refine (pivot_any HR1.out hab12 hbn (by omega)).mono ?_
        rintro e w2 ⟨pv, hint, rfl, hp1, hp2, hh, hR2, hG2⟩
        have HR2 := Lib.hid hR2
        have HG2 := Lib.hid (grown_tr HG1.out hG2)
        clear HR1 HG1 hR2 hG2
        go_upto_if 50 with fail
        go_cut [11, 12] (fun p h wx => ∃ (p' : Nat) (h' : Int), p = .int .i64 (p' : Int) ∧ h = .int .i64 h' ∧ a ≤ p' ∧ p' < b ∧ (h' = 0 ∨ h' = 1) ∧ Hid (Swapped B g n cap a b ys w wx))
        case first =>
          have C := Lib.hid (reverse_any HR2.out (show a < b by omega) hbn (by omega))
          by_cases h2 : hint = 2
          · subst h2
            obtain ⟨d, hd⟩ : ∃ d, d = pv - a := ⟨_, rfl⟩
            have e1 : (pv : Int) - (a : Int) = (d : Int) := by omega
            have e2 : IntKind.i64.wrap (d : Int) = (d : Int) := IntWalk.i64_in _ (by omega)
            obtain ⟨t, ht⟩ : ∃ t, t = b - 1 := ⟨_, rfl⟩
            have e3 : (b : Int) - 1 = (t : Int) := by omega
            have e4 : IntKind.i64.wrap (t : Int) = (t : Int) := IntWalk.i64_in _ (by omega)
            obtain ⟨u, hu⟩ : ∃ u, u = t - d := ⟨_, rfl⟩
            have e5 : (t : Int) - (d : Int) = (u : Int) := by omega
            have e6 : IntKind.i64.wrap (u : Int) = (u : Int) := IntWalk.i64_in _ (by omega)
            have HU : Hid (a ≤ u ∧ u < b) := by show _ ∧ _; omega
            clear hd ht hu
            go_wp2_with fail
            refine C.out.mono ?_
            rintro e w3 ⟨rfl, zs, r1, g1, s1⟩
            have HE : Hid (Swapped B g n cap a b ys w w3) := ⟨zs, r1, grown_tr HG2.out g1, HS1.out.trans s1⟩
            clear r1 g1 s1
            go_wp2
            go_meet
            exact ⟨u, 1, rfl, rfl, HU.out.1, HU.out.2, .inr rfl, HE⟩
          · have h3 : (hint == 2) = false := by simp [h2]
            have HH : Hid (hint = 0 ∨ hint = 1) := by show _ ∨ _; omega
            have HE : Hid (Swapped B g n cap a b ys w w2) := ⟨y1, HR2.out, HG2.out, HS1.out⟩
            clear hh h2
            go_wp2
            go_meet
            exact ⟨pv, hint, rfl, rfl, hp1, hp2, HH.out, HE⟩
        case rest =>
          obtain ⟨pv', h', rfl, rfl, hq1, hq2, hh', hsw⟩ := hcut
          clear HR2 HG2 HS1 hh hp1 hp2
          go_upto_region 15 with fail
          go_cut [68] (fun t wx => ∃ q : Bool, t = .bool q ∧ wx = wc)
          case first =>
            rcases hh' with rfl | rfl
            all_goals
              cases wb
              all_goals
                cases wp
                all_goals
                  go_wp2
                  go_meet
                  exact ⟨_, rfl, rfl⟩
          case rest =>
            obtain ⟨q, rfl, rfl⟩ := hcut
            obtain ⟨y2, hR2, hG2, hS2⟩ := hsw.out
            have HR2 := Lib.hid hR2
            have HG2 := Lib.hid hG2
            have HS2 := Lib.hid hS2
            clear hR2 hG2 hS2 hsw
            obtain ⟨W0, hW0⟩ : ∃ W, W = wc := ⟨_, rfl⟩
            rw [← hW0] at HR2 HG2 ⊢
            clear hW0 wc
            go_upto_if 68 with fail
            go_cut [12] (fun _ wx => Hid (Swapped B g n cap a b ys w wx))
            case first =>
              cases q
              · have HE : Hid (Swapped B g n cap a b ys w W0) := ⟨y2, HR2.out, HG2.out, HS2.out⟩
                go_wp2
                go_meet
                exact HE
              · have C := Lib.hid (partial_any HR2.out (pre_of HP.out (hS.out.trans (HS2.out.mono ha hb)) (hD.out.keep HS2.out hb ha) ha hb) hab12 hbn (by omega))
                go_wp2_with fail
                refine C.out.mono ?_
                rintro e w3 ⟨pq, zs, rfl, r1, g1, s1, n1⟩
                cases pq
                · have HE : Hid (Swapped B g n cap a b ys w w3) := ⟨zs, r1, grown_tr HG2.out g1, HS2.out.trans s1⟩
                  clear r1 g1 s1 n1
                  go_wp2
                  go_meet
                  exact HE
                · have HE : Hid (Sorted B g n cap a0 b0 xs w (.returned (.tuple #[])) w3) := ⟨rfl, zs, r1, grown_tr HG2.out g1, hS.out.trans ((HS2.out.trans s1).mono ha hb), (hD.out.keep (HS2.out.trans s1) hb ha).done (n1 rfl)⟩
                  clear r1 g1 s1 n1
                  go_wp2
                  (try simp only [Exit.inBlock, Exit.then])
                  refine bodyPost_ret (results_none rfl _ _ _) rfl ?_
                  exact HE.out
            case rest =>
              obtain ⟨y3, hR3, hG3, hS3⟩ := hcut.out
              have HR3 := Lib.hid hR3
              have HG3 := Lib.hid hG3
              have HS3 := Lib.hid (hS.out.trans (hS3.mono ha hb))
              have HD3 := Lib.hid (hD.out.keep hS3 hb ha)
              clear hcut hR3 hG3 hS3 HR2 HG2 HS2 hS hD t1 t2
              have HP3 : Hid (Pre a b y3) := pre_of HP.out HS3.out HD3.out ha hb
              obtain ⟨v, hv⟩ : ∃ v, v = y3.getD pv' 0 := ⟨_, rfl⟩
              have c1 := HR3.out.cell pv' (by omega)
              rw [← hv] at c1
              have i1 : (0 : Int) ≤ (pv' : Int) := by omega
              have i2 : (pv' : Int) < (n : Int) := by omega
              have HV := Lib.hid hv
              clear hv
              obtain ⟨W3, rfl⟩ : ∃ W, W = wc := ⟨_, rfl⟩
              rcases Nat.eq_zero_or_pos a with h0 | h0
              · have g1 : decide ((0 : Int) < (a : Int)) = false := decide_eq_false (by omega)
                have g2 : decide (0 < a) = false := decide_eq_false (by omega)
                have H0 := Lib.hid h0
                clear h0
                go_wp2
                go_quiet (fail)
                have hR4 := HR3.out.draw nq
                have hG4 := grown_draw HG3.out nq
                generalize W3.drewN nq = W4 at hR4 hG4 ⊢
                have HR4 := Lib.hid hR4
                have HG4 := Lib.hid hG4
                clear hR4 hG4 HR3 HG3 c1
                go_wp2_with fail
                refine (partition_any HR4.out (show a < b by omega) hbn (by omega) hq1 hq2).mono ?_
                rintro e w5 ⟨mid, pq, zs, rfl, m1, m2, r5, g5, s5, p5⟩
                have HR5 := Lib.hid r5
                have HG5 := Lib.hid (grown_tr HG4.out g5)
                have HS5 := Lib.hid (HS3.out.trans (s5.mono ha hb))
                have HD5 := Lib.hid (HD3.out.keep s5 hb ha)
                have HPT := Lib.hid p5
                have HP5 := Lib.hid (HP3.out.keep s5)
                clear r5 g5 s5 p5 HR4 HG4 HS3 HD3 HP3
                obtain ⟨dl, hdl⟩ : ∃ d, d = mid - a := ⟨_, rfl⟩
                obtain ⟨dr, hdr⟩ : ∃ d, d = b - mid := ⟨_, rfl⟩
                have d1 : (mid : Int) - (a : Int) = (dl : Int) := by omega
                have d2 : IntKind.i64.wrap (dl : Int) = (dl : Int) := IntWalk.i64_in _ (by omega)
                have d3 : (b : Int) - (mid : Int) = (dr : Int) := by omega
                have d4 : IntKind.i64.wrap (dr : Int) = (dr : Int) := IntWalk.i64_in _ (by omega)
                obtain ⟨n1, hn1'⟩ : ∃ m, m = mid + 1 := ⟨_, rfl⟩
                have d5 : (mid : Int) + 1 = (n1 : Int) := by omega
                have d6 : IntKind.i64.wrap (n1 : Int) = (n1 : Int) := IntWalk.i64_in _ (by omega)
                have HDL := Lib.hid hdl
                have HDR := Lib.hid hdr
                have HN1 := Lib.hid hn1'
                clear hdl hdr hn1'
                by_cases hlr : dl < dr
                · have v1 : decide (dl < dr) = true := decide_eq_true hlr
                  have v2 : decide ((dl : Int) < (dr : Int)) = true := decide_eq_true (by omega)
                  have C := Lib.hid (IH.out B g n cap a mid zs w5 L' HR5.out m1 (by omega) hn1 (by have := HT.out; omega) ⟨hL1', hL2'⟩ (fun h k k1 k2 => HP5.out h k k1 (by omega)))
                  go_wp2_with fail
                  refine C.out.mono ?_
                  rintro e w6 ⟨rfl, us, r6, g6, s6, n6⟩
                  have HR6 := Lib.hid r6
                  have HG6 := Lib.hid (grown_tr HG5.out g6)
                  have HS6 := Lib.hid (HS5.out.trans (s6.mono ha (by omega)))
                  have HD6 := Lib.hid (dn_left HD5.out HPT.out s6 n6 ha hb m1 m2)
                  clear r6 g6 s6 n6 HR5 HG5 HS5 HD5 HPT HP5
                  go_wp2
                  go_roundw
                  case rel => exact ⟨n1, b, L', _, pq, us, by have := HN1.out; omega, by have := HN1.out; omega, hb, ⟨hL1', hL2'⟩, rfl, rfl, rfl, rfl, rfl, HR6, HG6, HS6, by rw [HN1.out]; exact HD6⟩
                  case measure => have := HN1.out; simp [intOf]; omega
                · have v1 : decide (dl < dr) = false := decide_eq_false hlr
                  have v2 : decide ((dl : Int) < (dr : Int)) = false := decide_eq_false (by omega)
                  have C := Lib.hid (IH.out B g n cap n1 b zs w5 L' HR5.out (by have := HN1.out; omega) hbn hn1 (by have := HT.out; have := HN1.out; omega) ⟨hL1', hL2'⟩ (fun h k k1 k2 => by
                    rw [show n1 - 1 = mid by have := HN1.out; omega]
                    exact HPT.out.2 k (by have := HN1.out; omega) k2))
                  go_wp2_with fail
                  refine C.out.mono ?_
                  rintro e w6 ⟨rfl, us, r6, g6, s6, n6⟩
                  have HR6 := Lib.hid r6
                  have HG6 := Lib.hid (grown_tr HG5.out g6)
                  have HS6 := Lib.hid (HS5.out.trans (s6.mono (by have := HN1.out; omega) hb))
                  have HD6 := Lib.hid (dn_right HD5.out HPT.out (by rw [← HN1.out]; exact s6) (by rw [← HN1.out]; exact n6) ha hb m1 m2)
                  clear r6 g6 s6 n6 HR5 HG5 HS5 HD5 HPT HP5
                  go_wp2
                  go_roundw
                  case rel => exact ⟨a, mid, L', _, pq, us, ha, m1, by omega, ⟨hL1', hL2'⟩, rfl, rfl, rfl, rfl, rfl, HR6, HG6, HS6, HD6⟩
                  case measure => simp [intOf]; omega
              · have g1 : decide ((0 : Int) < (a : Int)) = true := decide_eq_true (by omega)
                have g2 : decide (0 < a) = true := decide_eq_true h0
                obtain ⟨l, hl⟩ : ∃ l, l = a - 1 := ⟨_, rfl⟩
                have j1 : (a : Int) - 1 = (l : Int) := by omega
                have j2 : IntKind.i64.wrap (l : Int) = (l : Int) := IntWalk.i64_in _ (by omega)
                have j3 : (0 : Int) ≤ (l : Int) := by omega
                have j4 : (l : Int) < (n : Int) := by omega
                obtain ⟨u, hu⟩ : ∃ u, u = y3.getD l 0 := ⟨_, rfl⟩
                have c2 := HR3.out.cell l (by omega)
                rw [← hu] at c2
                obtain ⟨q2, hq2'⟩ : ∃ q, decide (u < v) = q := ⟨_, rfl⟩
                have LS := Lib.hid (less_is hq2')
                have HU := Lib.hid hu
                have HQ := Lib.hid hq2'
                have HLA := Lib.hid hl
                clear hu hq2' hl
                cases q2
                · go_wp2
                  go_quiet ((go_at_call 107; refine Calls.quiet_of_same (LS.out _)))
                  have hR4 := HR3.out.draw nq
                  have hG4 := grown_draw HG3.out nq
                  generalize W3.drewN nq = W4 at hR4 hG4 ⊢
                  have HR4 := Lib.hid hR4
                  have HG4 := Lib.hid hG4
                  clear hR4 hG4 HR3 HG3 c1 c2 LS
                  go_wp2_with fail
                  refine (partEq_any HR4.out (show a < b by omega) hbn (by omega) hq1 hq2).mono ?_
                  rintro e w5 ⟨mid, zs, rfl, m1, m2, r5, g5, s5, e5, e6, e7⟩
                  have HE5 : Hid (Dn a0 b0 mid b zs) := by
                    refine dn_equal (p := v) (HD3.out.keep s5 hb ha) (fun k k1 k2 => ?_) (fun k k1 k2 => by rw [HV.out]; exact e7 k k1 k2)
                    have hpre := (HP3.out.keep s5) (by omega) k k1 (by omega)
                    rw [s5.out (a - 1) (.inl (by omega)), ← HLA.out, ← HU.out] at hpre
                    have hno := of_decide_eq_false HQ.out
                    have h8 : zs.getD k 0 ≤ v := by
                      rw [HV.out]
                      by_cases hk : k = a
                      · rw [hk, e5]; exact Nat.le_refl _
                      · exact e6 k (by omega) k2
                    omega
                  have HR5 := Lib.hid r5
                  have HG5 := Lib.hid (grown_tr HG4.out g5)
                  have HS5 := Lib.hid (HS3.out.trans (s5.mono ha hb))
                  clear r5 g5 s5 e5 e6 e7 HR4 HG4 HS3 HD3 HP3 HQ
                  go_wp2
                  go_roundw
                  case rel => exact ⟨mid, b, L', wb, wp, zs, by omega, m2, hb, ⟨hL1', hL2'⟩, rfl, rfl, rfl, rfl, rfl, HR5, HG5, HS5, HE5⟩
                  case measure => simp [intOf]; omega
                · go_wp2
                  go_quiet ((go_at_call 107; refine Calls.quiet_of_same (LS.out _)))
                  have hR4 := HR3.out.draw nq
                  have hG4 := grown_draw HG3.out nq
                  generalize W3.drewN nq = W4 at hR4 hG4 ⊢
                  have HR4 := Lib.hid hR4
                  have HG4 := Lib.hid hG4
                  clear hR4 hG4 HR3 HG3 c1
                  go_wp2_with fail
                  refine (partition_any HR4.out (show a < b by omega) hbn (by omega) hq1 hq2).mono ?_
                  rintro e w5 ⟨mid, pq, zs, rfl, m1, m2, r5, g5, s5, p5⟩
                  have HR5 := Lib.hid r5
                  have HG5 := Lib.hid (grown_tr HG4.out g5)
                  have HS5 := Lib.hid (HS3.out.trans (s5.mono ha hb))
                  have HD5 := Lib.hid (HD3.out.keep s5 hb ha)
                  have HPT := Lib.hid p5
                  have HP5 := Lib.hid (HP3.out.keep s5)
                  clear r5 g5 s5 p5 HR4 HG4 HS3 HD3 HP3
                  obtain ⟨dl, hdl⟩ : ∃ d, d = mid - a := ⟨_, rfl⟩
                  obtain ⟨dr, hdr⟩ : ∃ d, d = b - mid := ⟨_, rfl⟩
                  have d1 : (mid : Int) - (a : Int) = (dl : Int) := by omega
                  have d2 : IntKind.i64.wrap (dl : Int) = (dl : Int) := IntWalk.i64_in _ (by omega)
                  have d3 : (b : Int) - (mid : Int) = (dr : Int) := by omega
                  have d4 : IntKind.i64.wrap (dr : Int) = (dr : Int) := IntWalk.i64_in _ (by omega)
                  obtain ⟨n1, hn1'⟩ : ∃ m, m = mid + 1 := ⟨_, rfl⟩
                  have d5 : (mid : Int) + 1 = (n1 : Int) := by omega
                  have d6 : IntKind.i64.wrap (n1 : Int) = (n1 : Int) := IntWalk.i64_in _ (by omega)
                  have HDL := Lib.hid hdl
                  have HDR := Lib.hid hdr
                  have HN1 := Lib.hid hn1'
                  clear hdl hdr hn1'
                  by_cases hlr : dl < dr
                  · have v1 : decide (dl < dr) = true := decide_eq_true hlr
                    have v2 : decide ((dl : Int) < (dr : Int)) = true := decide_eq_true (by omega)
                    have C := Lib.hid (IH.out B g n cap a mid zs w5 L' HR5.out m1 (by omega) hn1 (by have := HT.out; omega) ⟨hL1', hL2'⟩ (fun h k k1 k2 => HP5.out h k k1 (by omega)))
                    go_wp2_with fail
                    refine C.out.mono ?_
                    rintro e w6 ⟨rfl, us, r6, g6, s6, n6⟩
                    have HR6 := Lib.hid r6
                    have HG6 := Lib.hid (grown_tr HG5.out g6)
                    have HS6 := Lib.hid (HS5.out.trans (s6.mono ha (by omega)))
                    have HD6 := Lib.hid (dn_left HD5.out HPT.out s6 n6 ha hb m1 m2)
                    clear r6 g6 s6 n6 HR5 HG5 HS5 HD5 HPT HP5
                    go_wp2
                    go_roundw
                    case rel => exact ⟨n1, b, L', _, pq, us, by have := HN1.out; omega, by have := HN1.out; omega, hb, ⟨hL1', hL2'⟩, rfl, rfl, rfl, rfl, rfl, HR6, HG6, HS6, by rw [HN1.out]; exact HD6⟩
                    case measure => have := HN1.out; simp [intOf]; omega
                  · have v1 : decide (dl < dr) = false := decide_eq_false hlr
                    have v2 : decide ((dl : Int) < (dr : Int)) = false := decide_eq_false (by omega)
                    have C := Lib.hid (IH.out B g n cap n1 b zs w5 L' HR5.out (by have := HN1.out; omega) hbn hn1 (by have := HT.out; have := HN1.out; omega) ⟨hL1', hL2'⟩ (fun h k k1 k2 => by
                      rw [show n1 - 1 = mid by have := HN1.out; omega]
                      exact HPT.out.2 k (by have := HN1.out; omega) k2))
                    go_wp2_with fail
                    refine C.out.mono ?_
                    rintro e w6 ⟨rfl, us, r6, g6, s6, n6⟩
                    have HR6 := Lib.hid r6
                    have HG6 := Lib.hid (grown_tr HG5.out g6)
                    have HS6 := Lib.hid (HS5.out.trans (s6.mono (by have := HN1.out; omega) hb))
                    have HD6 := Lib.hid (dn_right HD5.out HPT.out (by rw [← HN1.out]; exact s6) (by rw [← HN1.out]; exact n6) ha hb m1 m2)
                    clear r6 g6 s6 n6 HR5 HG5 HS5 HD5 HPT HP5
                    go_wp2
                    go_roundw
                    case rel => exact ⟨a, mid, L', _, pq, us, ha, m1, by omega, ⟨hL1', hL2'⟩, rfl, rfl, rfl, rfl, rfl, HR6, HG6, HS6, HD6⟩
                    case measure => simp [intOf]; omega

set_option maxRecDepth 100000 in
theorem sort_many : SortC 1024 := fun B g n cap xs w hr hn => by
  have L := Lib.hid (len_any n (by omega))
  have P : Hid (∀ k : Nat, k ≤ 11 → Calls Tryz.prog 96 #[.slice (some ⟨g, 0, none⟩) n cap, .int .i64 0, .int .i64 (n : Int), .int .i64 (k : Int)] w (Sorted B g n cap 0 n xs w)) := fun k hk => pdq_any 1024 B g n cap 0 n xs w k hr (by omega) (Nat.le_refl _) hn (by omega) (by omega) (fun h => by omega)
  have e1 : IntKind.u64.wrap (n : Int) = (n : Int) := by rw [IntKind.wrap_u64]; omega
  clear hr
  go_enter Tryz.func82, Tryz.ntmps82
  go_wp2_with fail
  refine (L.out _).mono ?_
  rintro e w1 ⟨⟨k, rfl, hk⟩, rfl⟩
  have hk11 := hk.1
  clear hk
  go_wp2_with fail
  refine (P.out k hk11).mono ?_
  rintro e w2 ⟨rfl, h⟩
  have H := Lib.hid h
  clear h
  go_wp2
  go_end0
  exact ⟨rfl, H.out⟩
end Go.Proofs.YtpgdnenkjommfaaGreat.Srt

/- octavo/bag.Ids: what it answers. Conditions: the slice's cells are operations. -/
namespace Go.Proofs.YtpgdnenkjommfaaGreat.Bags
open Go.RowKit Go.WideShapes Stamp Go.Proofs.YtpgdnenkjommfaaGreat.Place Ops Codes
attribute [local go_sem ↓] Go.wp_at_zero Go.wp_at_succ

end Go.Proofs.YtpgdnenkjommfaaGreat.Bags

/- What the landed bag's walks come to: two bags gone through side by side, where a stamp stands or would. Conditions: none. -/
namespace Go.Proofs.YtpgdnenkjommfaaGreat.Bags
open Ops Stamp

/-! ### Two side by side -/
/-! ### Where a stamp stands, or would -/
def lessI (x : Opn) (a : Id) : Prop := x.t < a.t ∨ x.t = a.t ∧ x.r < a.r
instance (x : Opn) (a : Id) : Decidable (lessI x a) := inferInstanceAs (Decidable (_ ∨ _))
def moreI (x : Opn) (a : Id) : Prop := a.t < x.t ∨ a.t = x.t ∧ a.r < x.r
instance (x : Opn) (a : Id) : Decidable (moreI x a) := inferInstanceAs (Decidable (_ ∨ _))
end Go.Proofs.YtpgdnenkjommfaaGreat.Bags

/- octavo/bag.search: what it answers. Conditions: the slice's cells are operations whose stamps rise, not more than a million. -/
namespace Go.Proofs.YtpgdnenkjommfaaGreat.Bags
open Go.RowKit Go.WideShapes Stamp Go.Proofs.YtpgdnenkjommfaaGreat.Place Ops Codes
attribute [local go_sem ↓] Go.wp_at_zero Go.wp_at_succ
attribute [local go_sem] yielded_undef

end Go.Proofs.YtpgdnenkjommfaaGreat.Bags

/- slices.Insert of one operation into a list of the call's own without room: what it answers. Conditions: at most 1024 operations. -/
namespace Go.Proofs.YtpgdnenkjommfaaGreat.Bags
open Go.RowKit Go.WideShapes Stamp Go.Proofs.YtpgdnenkjommfaaGreat.Place Ops Codes
attribute [local go_sem ↓] Go.wp_at_zero Go.wp_at_succ

end Go.Proofs.YtpgdnenkjommfaaGreat.Bags

/- octavo/bag.Add: what it answers. Conditions: the slice's cells are operations, the place's are runs. -/
namespace Go.Proofs.YtpgdnenkjommfaaGreat.Bags
open Go.RowKit Go.WideShapes Stamp Go.Proofs.YtpgdnenkjommfaaGreat.Place Ops Codes
attribute [local go_sem ↓] Go.wp_at_zero Go.wp_at_succ

end Go.Proofs.YtpgdnenkjommfaaGreat.Bags

/- octavo/bag.joined: what it answers. Conditions: the slices' cells are operations, not more than two thousand in all. -/
namespace Go.Proofs.YtpgdnenkjommfaaGreat.Bags
open Go.RowKit Go.WideShapes Stamp Go.Proofs.YtpgdnenkjommfaaGreat.Place Ops Codes
attribute [local go_sem ↓] Go.wp_at_zero Go.wp_at_succ
attribute [local go_sem] yielded_undef

end Go.Proofs.YtpgdnenkjommfaaGreat.Bags

/- octavo/bag.Join: what it answers. Conditions: the slices' cells are operations. -/
namespace Go.Proofs.YtpgdnenkjommfaaGreat.Bags
open Go.RowKit Go.WideShapes Stamp Go.Proofs.YtpgdnenkjommfaaGreat.Place Ops Codes
attribute [local go_sem ↓] Go.wp_at_zero Go.wp_at_succ

end Go.Proofs.YtpgdnenkjommfaaGreat.Bags

/- octavo/clock: Has, Same, Count, Top with the library's ContainsFunc, IndexFunc, EqualFunc: what each answers. Conditions: the slices' cells are replicas' spans. -/
namespace Go.Proofs.YtpgdnenkjommfaaGreat.Clocks
open Go.RowKit Go.Proofs.YtpgdnenkjommfaaGreat.Spans
attribute [local go_sem ↓] Go.wp_at_zero Go.wp_at_succ

/-! ### Has -/
/-! ### Same -/
end Go.Proofs.YtpgdnenkjommfaaGreat.Clocks

/- octavo/bag.Less: what it answers. Conditions: the slices' cells are operations, and replicas' spans. -/
namespace Go.Proofs.YtpgdnenkjommfaaGreat.Bags
open Go.RowKit Go.WideShapes Stamp Go.Proofs.YtpgdnenkjommfaaGreat.Place Ops Codes
attribute [local go_sem ↓] Go.wp_at_zero Go.wp_at_succ

end Go.Proofs.YtpgdnenkjommfaaGreat.Bags

/- octavo/bag.Find: what it answers. Conditions: the slice's cells are operations. -/
namespace Go.Proofs.YtpgdnenkjommfaaGreat.Bags
open Go.RowKit Go.WideShapes Stamp Go.Proofs.YtpgdnenkjommfaaGreat.Place Ops Codes
attribute [local go_sem ↓] Go.wp_at_zero Go.wp_at_succ

end Go.Proofs.YtpgdnenkjommfaaGreat.Bags

/- octavo/bag: what each call answers (bCheck_any, bSame_any, bTwin_any, bIds_any, bAdd_any, bJoin_any, bLess_any, bFind_any): gathered. Conditions: none. -/


/- A map from stamps to nothing, as a set of stamps. Conditions: none. -/
namespace Go.Proofs.YtpgdnenkjommfaaGreat
open Go.RowKit Go.WideShapes
open Go.Maps (Keyed IsMap)

theorem laidOut : laidOutB Tryz.prog = true := by kernel_rfl
theorem idRow : (25 : TypeId) < Tryz.prog.types.size := of_decide_eq_true (by kernel_rfl)
theorem idWide : (match Tryz.prog.underlying 25 with | some (.array _ _) | some (.struct _) => true | _ => false) = true := by rw [Tryz.underlying25]
set_option maxRecDepth 100000 in
theorem idLaw : Keyed Tryz.prog 25 := Keyed.of_law (deep_law_laid laidOut (m := 2) (by omega) idRow (by kernel_rfl) idWide)
theorem idType : Tryz.prog.keyType 25 = true := by kernel_rfl
theorem idCells : Tryz.prog.cellsOf 25 = 2 := by kernel_rfl
theorem idCell0 : Tryz.prog.cellsOf 23 = 1 := by kernel_rfl
theorem idCell1 : Tryz.prog.cellsOf 5 = 1 := by kernel_rfl
theorem idKey_some (a : Id) : ∃ l, keyOf Tryz.prog 25 (idv a) = some l := by
  obtain ⟨n, hn⟩ : ∃ n, Tryz.prog.types.size = n + 1 := by
    have h := idRow
    generalize Tryz.prog.types.size = s at h ⊢
    cases s with
    | zero => exact absurd h (Nat.not_lt_zero _)
    | succ n => exact ⟨n, rfl⟩
  have w0 : (Lit.int .u32 (a.t : Int)).wf = true := by
    have h1 : IntKind.u32.min = 0 := by decide
    have h2 : IntKind.u32.max = 4294967295 := by decide
    have := a.ht
    simp [Lit.wf, h1, h2]
    omega
  have w1 : (Lit.int .u8 (a.r : Int)).wf = true := by
    have h1 : IntKind.u8.min = 0 := by decide
    have h2 : IntKind.u8.max = 255 := by decide
    have := a.hr
    simp [Lit.wf, h1, h2]
    omega
  unfold keyOf idv
  rw [Tryz.underlying25, idType, hn]
  simp [Value.formed, Program.keyLits, Tryz.underlying25, Tryz.underlying23, Tryz.underlying5, idCells, idCell0, idCell1, w0, w1, Value.cells]
/-- A stamp as a key. -/
noncomputable def key (a : Id) : Lit := (keyOf Tryz.prog 25 (idv a)).getD (.bool true)
theorem key_of (a : Id) : keyOf Tryz.prog 25 (idv a) = some (key a) := by
  obtain ⟨l, hl⟩ := idKey_some a
  unfold key
  rw [hl]
  rfl
theorem key_inj {a b : Id} (h : key a = key b) : a = b := by
  have h1 := key_of a
  rw [h] at h1
  have := idLaw.inj h1 (key_of b)
  unfold idv at this
  simp at this
  exact Id.ext' (by omega) (by omega)
/-- Block b is a map with just these stamps. -/
def SetI (w : World) (b n : Nat) (S : Id → Bool) : Prop := ∃ D : DataW Value, w.ownsMap Tryz.prog 25 unitElem b n D ∧ ∀ a : Id, Maps.has D (key a) = S a
theorem SetI.made (w : World) : SetI (w.alloc (.map #[] 0)) w.heap.size 0 (fun _ => false) := ⟨_, World.ownsMap_made w _ _ _, fun _ => rfl⟩
theorem SetI.keeps {w w' : World} {b n : Nat} {S : Id → Bool} (h : SetI w b n S) (hb : Below w.heap.size w w') : SetI w' b n S := by
  obtain ⟨D, ⟨es, clock, h1, h2, h3, h4⟩, h5⟩ := h
  exact ⟨D, ⟨es, clock, (hb.block b (Array.getElem?_eq_some_iff.1 h1).1).trans h1, h2, h3, h4⟩, h5⟩
theorem SetI.lt {w : World} {b n : Nat} {S : Id → Bool} (h : SetI w b n S) : b < w.heap.size := by
  obtain ⟨D, h1, _⟩ := h
  exact h1.lt
theorem SetI.kept {w w' : World} {b n : Nat} {S : Id → Bool} {row : Option Nat} (h : SetI w b n S) (hg : w.grownBy w' row) (hne : some b ≠ row) : SetI w' b n S := by
  obtain ⟨D, h1, h2⟩ := h
  exact ⟨D, h1.kept hg hne, h2⟩
theorem SetI.ext {w : World} {b n : Nat} {S T : Id → Bool} (h : SetI w b n S) (e : ∀ a, S a = T a) : SetI w b n T := by
  obtain ⟨D, h1, h2⟩ := h
  exact ⟨D, h1, fun a => (h2 a).trans (e a)⟩
set_option maxRecDepth 100000 in
/-- A store of one more, at the operation. -/
theorem wpList_put_set (w : World) {ops : Array Oper} {rest : List Oper} {o : Oper} {a : Act} {Q : Exit → Act → World → Prop}
    (hg : o.guard = none) (m x v : Operand) (t e : TypeId) (hop : o.op = Op.mapUpdate t m x v) (ht : Tryz.prog.underlying t = some (.map 25 e))
    (b n : Nat) (i : Id) (S : Id → Bool) (hM : SetI w b n S) (hn : n < 9223372036854775807) (hm : a.eval m = .map (some b)) (hx : a.eval x = .agg #[.int .u32 (i.t : Int), .int .u8 (i.r : Int)]) (hv : a.eval v = .agg #[])
    (hK : ∀ w', SetI w' b (n + 1) (fun k => decide (k = i) || S k) → w.grownBy w' (some b) → wpList Tryz.prog ops Q rest (a.put o.dst undef) w') : wpList Tryz.prog ops Q (o :: rest) a w := by
  obtain ⟨D, h1, h2⟩ := hM
  refine wpList_mapUpdate_own w hg m x v t hop 25 e idLaw ht unitElem b n D hm h1 (by unfold maxLen; omega) (idv i) (.agg #[]) (key i) hx hv (key_of i) (.agg []) [] unitElem_mk (fun w' h g => hK w' ⟨_, h, fun k => ?_⟩ g)
  by_cases hk : k = i
  · subst hk
    rw [Maps.has_put_same h1.isMap (idLaw.key (key_of k))]
    simp
  · rw [Maps.has_put_other (fun e => hk (key_inj e)), h2 k]
    simp [hk]
set_option maxRecDepth 100000 in
/-- A look-up with 'is it there', at a step of a drawn region. -/
theorem step_look_set {w : World} {ops : Array Oper} {o : Oper} {a : Act} {K : Act → World → Prop} {Q : Exit → Act → World → Prop} {E : Prop} (hgd : o.guard = none) (m x : Operand) (t e : TypeId) (hop : o.op = Op.lookup t m x true)
    (ht : Tryz.prog.underlying t = some (.map 25 e)) (hz : (zeroValue e).run Tryz.prog w = .ok (.agg #[]) w)
    (b n : Nat) (i : Id) (S : Id → Bool) (hM : SetI w b n S) (hm : a.eval m = .map (some b)) (hx : a.eval x = .agg #[.int .u32 (i.t : Int), .int .u8 (i.r : Int)])
    (hK : K (a.put o.dst (.tuple #[.agg #[], .bool (S i)])) w) : if Region.wanted o (yielded ops a.tmps) = true then Oper.wp Tryz.prog o a w K Q else E := by
  have hw : Region.wanted o (yielded ops a.tmps) = true := by simp [Region.wanted, hgd]
  rw [if_pos hw]
  obtain ⟨D, h1, h2⟩ := hM
  obtain ⟨v, ps, hrun, hv⟩ := h1.look_ok idLaw ht hz unitElem_mk (key_of i)
  obtain ⟨rfl, _⟩ := unitElem_inv hv
  rw [h2 i] at hrun
  unfold idv at hrun
  unfold Oper.wp
  simp [execOp, hop, hm, hx, hrun, Result.andThen]
  exact hK
theorem del_size {w : World} {b n : Nat} {D : DataW Value} (h : w.ownsMap Tryz.prog 25 unitElem b n D) (i : Id) : decide (Maps.size (D.del (key i)) < Maps.size D) = Maps.has D (key i) := by
  have e := Maps.size_del (h.tidy idLaw) (k := key i)
  cases hh : Maps.has D (key i) <;> rw [hh] at e <;> simp at e
  · exact decide_eq_false (by omega)
  · exact decide_eq_true (by omega)
theorem del_has {D : DataW Value} {S : Id → Bool} (h : ∀ a : Id, Maps.has D (key a) = S a) (i : Id) : ∀ a : Id, Maps.has (D.del (key i)) (key a) = (S a && !decide (a = i)) := fun a => by
  by_cases e : a = i
  · subst e
    rw [Maps.has_del_same]
    simp
  · rw [Maps.has_del_other (fun k => e (key_inj k)), h a]
    simp [e]
end Go.Proofs.YtpgdnenkjommfaaGreat

/- octavo/marks.joinedIn, takeOut: what each answers. Conditions: operations that may be, not more than a bag's. -/
namespace Go.Proofs.YtpgdnenkjommfaaGreat.Marks
open Go.RowKit Go.WideShapes Stamp Go.Proofs.YtpgdnenkjommfaaGreat.Place Ops Codes Bags
attribute [local go_sem ↓] Go.wp_at_zero Go.wp_at_succ

theorem ended_snoc (l : List Opn) (x : Opn) (a : Id) : ended (l ++ [x]) a = (ended l a || (decide (x.k = 4) && decide (tgt x = a))) := by
  unfold ended
  rw [List.any_append]
  simp

set_option maxRecDepth 100000 in
set_option maxHeartbeats 4000000 in
theorem joinedIn_any {v : Value} {l : List Opn} {w : World} (hv : OpL w v l) (hm : ∀ o ∈ l, mayO o = true) (hl : l.length ≤ 1024) :
    Calls Tryz.prog 17 #[v] w fun e w' => e = .returned (.map (some w.heap.size)) ∧ SetI w' w.heap.size l.length (ended l) ∧ Below w.heap.size w w' := by
  obtain ⟨ao, cap, rfl⟩ := hv.shape
  obtain ⟨n, hn⟩ : ∃ n, n = l.length := ⟨_, rfl⟩
  have HV : Hid (∀ W : World, Below w.heap.size w W → OpL W (.slice ao l.length cap) l) := fun W h => hv.keeps h
  have HN := Lib.hid hn
  have HMY := Lib.hid hm
  rw [← hn] at hl ⊢
  have hmm := @run_makeMap Tryz.prog
  have S0 : Hid (SetI (w.alloc (.map #[] 0)) w.heap.size 0 (ended (l.take 0))) := (SetI.made w).ext (fun a => by rw [List.take_zero]; rfl)
  have B0 := Lib.hid ((Below.refl w.heap.size w).alloc (Nat.le_refl _) (.map #[] 0))
  clear hv hn hm
  go_enter Tryz.func17, Tryz.ntmps17
  go_wp2
  go_loopw [9] (fun i wr => ∃ j : Nat, j ≤ n ∧ i = .int .i64 (j : Int) ∧ Hid (SetI wr w.heap.size j (ended (l.take j))) ∧ Hid (Below w.heap.size w wr)) (fun i _ => n - (intOf i).toNat)
  case atStart => exact ⟨0, by omega, rfl, S0, B0⟩
  case round =>
    clear S0 B0
    obtain ⟨j, hj, rfl, hset, hbel⟩ := hrel
    by_cases hjn : j < n
    rotate_left
    · have q3 : decide (j < n) = false := by simpa using hjn
      have hkk : l.take j = l := List.take_of_length_le (by have := HN.out; omega)
      rw [hkk] at hset
      obtain rfl : j = n := by omega
      clear hkk
      go_wp2
      go_ret
      exact ⟨rfl, hset.out, hbel.out⟩
    have q3 : decide (j < n) = true := by simpa using hjn
    have q4 : (0 : Int) ≤ (j : Int) := by omega
    have q5 : (j : Int) < (n : Int) := by omega
    have hjl : j < l.length := by rw [← HN.out]; exact hjn
    obtain ⟨bb, oo, u, e, hbb, hru, h0, h1, h2, h3, h4⟩ := opl_at (HV.out wr hbel.out) j hjl
    subst e
    obtain ⟨x, hx⟩ : ∃ x, x = l[j]'hjl := ⟨_, rfl⟩
    rw [← hx] at hru h0 h1 h2 h4
    have hxm : x ∈ l := by rw [hx]; exact List.getElem_mem _
    have MX := HMY.out x hxm
    have hsn : ∀ a, ended (l.take (j + 1)) a = (ended (l.take j) a || (decide (x.k = 4) && decide (tgt x = a))) := fun a => by rw [List.take_succ_eq_append_getElem hjl, ended_snoc, hx]
    have HSN := Lib.hid hsn
    have hc := tgt_cells MX
    have LS : Hid (∀ W : World, Below wr.heap.size wr W → Calls Tryz.prog 36 #[u] W fun e w' => e = .returned (.agg #[.int .u32 ((tgt x).t : Int), .int .u8 ((tgt x).r : Int)]) ∧ Below W.heap.size W w') := fun W h => by
      rw [hc.1, hc.2]
      exact pLast_any (hru.keeps h)
    obtain ⟨g, hg⟩ : ∃ g, tgt x = g := ⟨_, rfl⟩
    rw [hg] at LS HSN
    obtain ⟨T, R, hT, hR⟩ := g
    simp only at LS
    obtain ⟨uo, uc, rfl⟩ := hru.shape
    obtain ⟨nu, hnu⟩ : ∃ n, n = x.pl.length := ⟨_, rfl⟩
    rw [← hnu] at h3 LS
    obtain ⟨k, hk⟩ : ∃ z, x.k = z := ⟨_, rfl⟩
    obtain ⟨t, ht⟩ : ∃ z, x.t = z := ⟨_, rfl⟩
    obtain ⟨r, hr⟩ : ∃ z, x.r = z := ⟨_, rfl⟩
    obtain ⟨p, hp⟩ : ∃ z, x.p = z := ⟨_, rfl⟩
    rw [hk] at h0 HSN
    rw [ht] at h1
    rw [hr] at h2
    rw [hp] at h4
    have BL : Hid (Below wr.heap.size wr (wr.alloc (.cells #[.int .u8 (k : Int), .int .u32 (t : Int), .int .u8 (r : Int), .slice uo nu uc, .int .i64 p] 43))) := (Below.refl _ _).alloc (Nat.le_refl _) _
    have SL := Lib.hid (hset.out.keeps BL.out)
    have BW := Lib.hid (bt hbel.out BL.out)
    clear hru hx hxm MX hc hg hnu hk ht hr hp hsn hset
    by_cases hk4 : k = 4
    rotate_left
    · have qk : ((k : Int) == 4) = false := by simp; omega
      have qk2 : decide ((k : Int) = 4) = false := decide_eq_false (by omega)
      have S6 : Hid (SetI (wr.alloc (.cells #[.int .u8 (k : Int), .int .u32 (t : Int), .int .u8 (r : Int), .slice uo nu uc, .int .i64 p] 43)) w.heap.size (j + 1) (ended (l.take (j + 1)))) := by
        obtain ⟨D, d1, d2⟩ := SL.out
        exact ⟨D, d1.mono (Nat.le_succ _), fun a => by rw [d2 a, HSN.out a, decide_eq_false hk4]; simp⟩
      clear SL LS hk4 HSN
      go_wp2
      go_roundw
      case rel => exact ⟨j + 1, by omega, by go_num, S6, BW⟩
      case measure => simp [intOf]; omega
    · subst hk4
      have qk : ((((4 : Nat) : Int)) == 4) = true := by rfl
      go_wp2_with fail
      refine (LS.out _ BL.out).mono ?_
      rintro e w2 ⟨rfl, b2⟩
      have S2 := Lib.hid (SL.out.keeps b2)
      have B2 := Lib.hid (bt BW.out b2)
      clear b2 SL BW
      go_wp2_with (at_mapUpdate; refine wpList_put_set _ rfl _ _ _ 47 65 rfl Tryz.underlying47 w.heap.size j ⟨T, R, hT, hR⟩ (ended (l.take j)) S2.out (by omega) rfl rfl rfl ?_)
      intro w3 s3 g3
      have S3 : Hid (SetI w3 w.heap.size (j + 1) (ended (l.take (j + 1)))) := s3.ext (fun a => by
        rw [HSN.out a, Bool.or_comm]
        simp [eq_comm])
      have B3 : Hid (Below w.heap.size w w3) := B2.out.grown g3 B2.out.size (fun i e => by cases e; exact Nat.le_refl _)
      clear s3 g3 S2 B2 LS BL
      go_wp2
      go_roundw
      case rel => exact ⟨j + 1, by omega, by go_num, S3, B3⟩
      case measure => simp [intOf]; omega

set_option maxRecDepth 100000 in
set_option maxHeartbeats 4000000 in
theorem takeOut_any {b n : Nat} {S : Id → Bool} (i : Id) {w : World} (hs : SetI w b n S) :
    Calls Tryz.prog 18 #[.map (some b), .agg #[.int .u32 (i.t : Int), .int .u8 (i.r : Int)]] w fun e w' => e = .returned (.bool (S i)) ∧ SetI w' b n (fun a => S a && !decide (a = i)) ∧ w.grownBy w' (some b) := by
  obtain ⟨D, d1, d2⟩ := hs
  have D1 : Hid ((w.alloc (.cells #[.int .u32 (i.t : Int), .int .u8 (i.r : Int)] 25)).ownsMap Tryz.prog 25 unitElem b n D) := d1.alloc _
  have G1 : Hid (w.grownBy (w.alloc (.cells #[.int .u32 (i.t : Int), .int .u8 (i.r : Int)] 25)) none) := World.grownBy_alloc _ _ _
  have h := del_size d1 i
  rw [d2 i] at h
  obtain ⟨m1, hm1⟩ : ∃ z, Maps.size D = z := ⟨_, rfl⟩
  obtain ⟨m2, hm2⟩ : ∃ z, Maps.size (D.del (key i)) = z := ⟨_, rfl⟩
  rw [hm1, hm2] at h
  have HM1 := Lib.hid hm1
  have HM2 := Lib.hid hm2
  obtain ⟨q, hq⟩ : ∃ q, S i = q := ⟨_, rfl⟩
  rw [hq] at h ⊢
  have h' : decide ((m2 : Int) < (m1 : Int)) = q := by rw [← h]; exact decide_eq_decide.2 (by omega)
  have HD : Hid (∀ a : Id, Maps.has (D.del (key i)) (key a) = (S a && !decide (a = i))) := del_has d2 i
  clear d1 d2 hm1 hm2 hq
  obtain ⟨w3, hrun, d3, t3⟩ := D1.out.drop idLaw Tryz.underlying47 (key_of i) 0
  unfold idv at hrun
  have D3 := Lib.hid d3
  have G3 := Lib.hid t3.grown
  clear d3 t3
  have hl1 := D1.out.len Tryz.underlying47 3
  rw [HM1.out] at hl1
  have hl3 := D3.out.len Tryz.underlying47 3
  rw [HM2.out] at hl3
  go_enter Tryz.func18, Tryz.ntmps18
  go_wp2
  go_ret
  exact ⟨rfl, ⟨_, D3.out, HD.out⟩, ⟨G3.out.os.trans G1.out.os, G3.out.tape.trans G1.out.tape, G3.out.output.trans G1.out.output, Nat.le_trans G1.out.size G3.out.size, fun k hk hne => (G3.out.block k (Nat.lt_of_lt_of_le hk G1.out.size) hne).trans (G1.out.block k hk (by simp))⟩⟩
end Go.Proofs.YtpgdnenkjommfaaGreat.Marks
