/- slices.pdqsortOrdered, slices.Sort over at most 1024 32-bit numbers: they put in order. Conditions: the row is the call's own. octavo/bag.Ids: what it answers. Conditions: the slice's cells are operations. octavo/cover.chosen, Homed, Counts, Version: what each answers. Conditions: the slice's cells are operations. octavo/clock: Has, Same, Count, Top with the library's ContainsFunc, IndexFunc, EqualFunc: what each answers. Conditions: the slices' cells are replicas' spans. Operations as numbers, and numbers as bytes, in plain words; how such bytes are read, number by number; what is written is read back, and what is read is written as just these bytes. Conditions: none. octavo/code.numbers, lastTime, octavoref10.end: what each answers. Conditions: numbers up to the greatest time; at most ten of them. octavoref10.Numbers, fits, behind: what each answers. Conditions: the bytes read as such; -/
import Derived.Test.YtgjbnbojjgbmcaaGreatChecked
import Derived.WalkKit
import Derived.WalkSpells
import Derived.WalkLawsBesides
import Derived.Laws.BytesArg
import Derived.Lib.Hide
import Derived.Deep.LoopGhost
import Derived.Laws.AppendOwnNone
import Derived.Laws.OwnMore
import Derived.WideShapes
import Derived.RegionTactic
import Derived.Deep.DrawnRows
import Derived.Deep.QuietTactic
import Derived.BigQuiet
import Derived.Deep.DeepCutAuto
import Derived.IntWalk
import Derived.Deep.RegionHeld3
import Derived.Lib.Tables
import Derived.Laws.Bits64
import Derived.Maps.AppendAt
import Derived.ScopeJumps
import Derived.Test.YtgjbnbojjgbmcaaGreatProg
import Derived.LoopTactic
import Derived.Laws.EntriesVeiled
import Derived.RowKit
import Derived.Shelf.Abstract
import Derived.RangeFuncBox
import Derived.RangeFuncLeaves
import Derived.RangeFuncNested
import Derived.RangeFuncBound
import Derived.RangeFuncCalls
import Derived.OwnWalkIn
import Derived.TacticsInMore
import Derived.LoopNIn
import Derived.LoopIn
import Derived.Maps.Own
import Derived.Maps.OwnOps
import Derived.Maps.Views
import Derived.Maps.OwnSet
import Derived.DeepKeys4
import Derived.Scope
import Derived.Shelf.SlSortCmp.InsertionK
import Derived.Calls
import Derived.StepT
import Derived.Below
import Derived.Sort.Grow
import Derived.Deep.Draws
import Derived.Shelf.SlLaysF0
import Derived.Shelf.SlSortCmp.NoneTotal
import Derived.Lib.DecodeN
import Derived.Lib.RuneBytes
import Derived.Tactics
import Derived.Test.YtgjbnbojjgbmcaaGreatPk27
import Derived.Test.YtgjbnbojjgbmcaaGreatPk25
import Derived.Test.YtgjbnbojjgbmcaaGreatPk01
import Derived.Test.YtgjbnbojjgbmcaaGreatPk15
import Derived.Test.YtgjbnbojjgbmcaaGreatPk16
import Derived.Test.YtgjbnbojjgbmcaaGreatPk20
import Derived.Test.YtgjbnbojjgbmcaaGreatPk09
import Derived.Test.YtgjbnbojjgbmcaaGreatPk28
import Derived.Test.YtgjbnbojjgbmcaaGreatPk29
import Derived.Test.YtgjbnbojjgbmcaaGreatPk04
import Derived.Test.YtgjbnbojjgbmcaaGreatPk23
import Derived.Test.YtgjbnbojjgbmcaaGreatPk03
import Derived.Test.YtgjbnbojjgbmcaaGreatPk02
import Derived.Test.YtgjbnbojjgbmcaaGreatPk14
import Derived.Test.YtgjbnbojjgbmcaaGreatPk26
import Derived.Test.YtgjbnbojjgbmcaaGreatPk24
import Derived.Test.YtgjbnbojjgbmcaaGreatPk10
import Derived.Test.YtgjbnbojjgbmcaaGreatPk08
import Derived.Test.YtgjbnbojjgbmcaaGreatPk07
import Derived.Test.YtgjbnbojjgbmcaaGreatPk05
import Derived.Test.YtgjbnbojjgbmcaaGreatPk06

namespace Go.Proofs.YtgjbnbojjgbmcaaGreat.Num
end Go.Proofs.YtgjbnbojjgbmcaaGreat.Num

namespace Go.Proofs.YtgjbnbojjgbmcaaGreat.Srt
open Go.RowKit
attribute [local go_sem ↓] Go.wp_at_zero Go.wp_at_succ
/-- Of two between a0 and b0 that do not both lie between a and b, the first is no greater. -/
def Dn (a0 b0 a b : Nat) (ys : List Nat) : Prop := ∀ i j, a0 ≤ i → i ≤ j → j < b0 → (i < a ∨ b ≤ j) → ys.getD i 0 ≤ ys.getD j 0
theorem dn_start (a0 b0 : Nat) (ys : List Nat) : Dn a0 b0 a0 b0 ys := fun i j h1 h2 h3 h4 => by
  exfalso; omega
theorem Dn.keep {a0 b0 a b : Nat} {ys zs : List Nat} (h : Dn a0 b0 a b ys) (s : Sw a b ys zs) (hb : b ≤ b0) (ha : a0 ≤ a) : Dn a0 b0 a b zs := fun i j h1 h2 h3 h4 => by
  by_cases hi : a ≤ i ∧ i < b
  · have hj : b ≤ j := by omega
    rw [s.out j (.inr hj)]
    exact s.all (P := fun v => v ≤ ys.getD j 0) (fun k k1 k2 => h k j (by omega) (by omega) h3 (.inr hj)) i hi.1 hi.2
  · rw [s.out i (by omega)]
    by_cases hj : a ≤ j ∧ j < b
    · exact s.all (P := fun v => ys.getD i 0 ≤ v) (fun k k1 k2 => h i k h1 (by omega) (by omega) (.inl (by omega))) j hj.1 hj.2
    · rw [s.out j (by omega)]
      exact h i j h1 h2 h3 h4
theorem Dn.done {a0 b0 a b : Nat} {ys : List Nat} (h : Dn a0 b0 a b ys) (hi : Inc a b ys) : Inc a0 b0 ys := fun i j h1 h2 h3 => by
  by_cases hc : i < a ∨ b ≤ j
  · exact h i j h1 h2 h3 hc
  · exact hi i j (by omega) h2 (by omega)
theorem pre_of {a0 b0 a b : Nat} {xs ys : List Nat} (hp : Pre a0 b0 xs) (s : Sw a0 b0 xs ys) (h : Dn a0 b0 a b ys) (ha : a0 ≤ a) (hb : b ≤ b0) : Pre a b ys := fun h0 k h1 h2 => by
  by_cases e : a = a0
  · subst e
    exact (hp.keep s) h0 k h1 (by omega)
  · exact h (a - 1) k (by omega) (by omega) (by omega) (.inl (by omega))
theorem dn_left {a0 b0 a b m : Nat} {zs ys : List Nat} (h : Dn a0 b0 a b zs) (hp : Pt a b m zs) (hs : Sw a m zs ys) (hi : Inc a m ys) (ha : a0 ≤ a) (hb : b ≤ b0) (h1 : a ≤ m) (h2 : m < b) : Dn a0 b0 (m + 1) b ys := by
  have hd := Dn.keep h (hs.mono (Nat.le_refl _) (Nat.le_of_lt h2)) hb ha
  have hl : ∀ k, a ≤ k → k < m → ys.getD k 0 < ys.getD m 0 := by
    rw [hs.out m (.inr (Nat.le_refl _))]
    exact hs.all (P := fun v => v < zs.getD m 0) hp.1
  have hg : ∀ k, m < k → k < b → ys.getD m 0 ≤ ys.getD k 0 := fun k k1 k2 => by
    rw [hs.out m (.inr (Nat.le_refl _)), hs.out k (.inr (by omega))]
    exact hp.2 k k1 k2
  intro i j i1 i2 i3 i4
  by_cases hc : i < a ∨ b ≤ j
  · exact hd i j i1 i2 i3 hc
  · by_cases him : i = m
    · subst him
      by_cases hjm : i = j
      · subst hjm; exact Nat.le_refl _
      · exact hg j (by omega) (by omega)
    · by_cases hjm : j < m
      · exact hi i j (by omega) i2 hjm
      · have := hl i (by omega) (by omega)
        by_cases e : j = m
        · subst e; omega
        · have := hg j (by omega) (by omega)
          omega
theorem dn_right {a0 b0 a b m : Nat} {zs ys : List Nat} (h : Dn a0 b0 a b zs) (hp : Pt a b m zs) (hs : Sw (m + 1) b zs ys) (hi : Inc (m + 1) b ys) (ha : a0 ≤ a) (hb : b ≤ b0) (h1 : a ≤ m) (h2 : m < b) : Dn a0 b0 a m ys := by
  have hd := Dn.keep h (hs.mono (by omega) (Nat.le_refl _)) hb ha
  have hl : ∀ k, a ≤ k → k < m → ys.getD k 0 < ys.getD m 0 := fun k k1 k2 => by
    rw [hs.out m (.inl (by omega)), hs.out k (.inl (by omega))]
    exact hp.1 k k1 k2
  have hg : ∀ k, m + 1 ≤ k → k < b → ys.getD m 0 ≤ ys.getD k 0 := by
    rw [hs.out m (.inl (by omega))]
    exact hs.all (P := fun v => zs.getD m 0 ≤ v) (fun k k1 k2 => hp.2 k (by omega) k2)
  intro i j i1 i2 i3 i4
  by_cases hc : i < a ∨ b ≤ j
  · exact hd i j i1 i2 i3 hc
  · by_cases hjm : j = m
    · subst hjm
      by_cases e : i = j
      · subst e; exact Nat.le_refl _
      · have := hl i (by omega) (by omega)
        omega
    · by_cases him : i ≤ m
      · have h3 := hg j (by omega) (by omega)
        by_cases e : i = m
        · subst e; exact h3
        · have := hl i (by omega) (by omega)
          omega
      · exact hi i j (by omega) i2 (by omega)
theorem dn_equal {a0 b0 a b m p : Nat} {ys : List Nat} (h : Dn a0 b0 a b ys) (he : ∀ k, a ≤ k → k < m → ys.getD k 0 = p) (hg : ∀ k, m ≤ k → k < b → p < ys.getD k 0) : Dn a0 b0 m b ys := by
  intro i j i1 i2 i3 i4
  by_cases hc : i < a ∨ b ≤ j
  · exact h i j i1 i2 i3 hc
  · rw [he i (by omega) (by omega)]
    by_cases hj : j < m
    · rw [he j (by omega) hj]; exact Nat.le_refl _
    · exact Nat.le_of_lt (hg j (by omega) (by omega))
/-- What a call that puts a range in order does. -/
def Sorted (B g n cap a b : Nat) (xs : List Nat) (w : World) (e : Ending) (w' : World) : Prop :=
  e = .returned (.tuple #[]) ∧ ∃ ys, Row w' B g n cap ys ∧ w.grownBy w' (some g) ∧ Sw a b xs ys ∧ Inc a b ys
def Swapped (B g n cap a b : Nat) (xs : List Nat) (w w' : World) : Prop := ∃ ys, Row w' B g n cap ys ∧ w.grownBy w' (some g) ∧ Sw a b xs ys
set_option maxRecDepth 100000 in
set_option maxHeartbeats 32000000 in
theorem pdq_any (N : Nat) : ∀ (B g n cap a0 b0 : Nat) (xs : List Nat) (w : World) (l0 : Int), Row w B g n cap xs → a0 ≤ b0 → b0 ≤ n → n ≤ 1024 → b0 ≤ a0 + N → 0 ≤ l0 ∧ l0 ≤ 100 → Pre a0 b0 xs →
    Calls Tryz.prog 202 #[.slice (some ⟨g, 0, none⟩) n cap, .int .i64 (a0 : Int), .int .i64 (b0 : Int), .int .i64 l0] w (Sorted B g n cap a0 b0 xs w) := by
  induction N with
  | zero =>
    intro B g n cap a0 b0 xs w l0 hr hab hb hn hN hl hp
    exact pdq_small hr hab hb (by omega) (by omega) l0
  | succ N ih =>
    intro B g n cap a0 b0 xs w l0 hr hab hb hn hN hl hp
    have IH := Lib.hid ih
    clear ih
    have HR := Lib.hid hr
    have HP := Lib.hid hp
    have G0 := Lib.hid (World.grownBy.refl w (some g))
    have S0 := Lib.hid (Sw.refl a0 b0 xs)
    have D0 := Lib.hid (dn_start a0 b0 xs)
    have HT : Hid (b0 ≤ n ∧ n ≤ 1024 ∧ b0 ≤ a0 + (N + 1)) := by show _ ∧ _; omega
    clear hr hp hb hn hN
    go_enter Tryz.func202, Tryz.ntmps202
    go_wp2
    go_loopw [1, 2, 3, 8, 9] (fun i j l wb wp wr => ∃ (a b : Nat) (L : Int) (p q : Bool) (ys : List Nat), a0 ≤ a ∧ a ≤ b ∧ b ≤ b0 ∧ (0 ≤ L ∧ L ≤ 100) ∧ i = .int .i64 (a : Int) ∧ j = .int .i64 (b : Int) ∧ l = .int .i64 L ∧ wb = .bool p ∧ wp = .bool q ∧ Hid (Row wr B g n cap ys) ∧ Hid (w.grownBy wr (some g)) ∧ Hid (Sw a0 b0 xs ys) ∧ Hid (Dn a0 b0 a b ys)) (fun i j _ _ _ _ => (intOf j).toNat - (intOf i).toNat)
    case atStart => exact ⟨a0, b0, l0, true, true, xs, by omega, by omega, by omega, hl, rfl, rfl, rfl, rfl, rfl, HR, G0, S0, D0⟩
    case round =>
      clear HR G0 S0 D0 hl hab
      obtain ⟨a, b, L, wb, wp, ys, ha, hab, hb, ⟨hL1, hL2⟩, rfl, rfl, rfl, rfl, rfl, hR, hG, hS, hD⟩ := hrel
      obtain ⟨len, hlen⟩ : ∃ len, len = b - a := ⟨_, rfl⟩
      have el : (b : Int) - (a : Int) = (len : Int) := by omega
      have el2 : IntKind.i64.wrap (len : Int) = (len : Int) := IntWalk.i64_in _ (by have := HT.out; omega)
      have HLen := Lib.hid hlen
      have hbn : b ≤ n := by have := HT.out; omega
      have hn1 : n ≤ 1024 := HT.out.2.1
      clear hlen
      by_cases h12 : len ≤ 12
      · have t1 : decide ((len : Int) ≤ 12) = true := decide_eq_true (by omega)
        have t2 : decide (len ≤ 12) = true := decide_eq_true h12
        have C := Lib.hid (insertion_any hR.out hab hbn (by omega))
        go_wp2_with fail
        refine C.out.mono ?_
        rintro e w1 ⟨rfl, zs, r1, g1, s1, n1⟩
        have HE : Hid (Sorted B g n cap a0 b0 xs w (.returned (.tuple #[])) w1) := ⟨rfl, zs, r1, grown_tr hG.out g1, hS.out.trans (s1.mono ha hb), (hD.out.keep s1 hb ha).done n1⟩
        clear r1 g1 s1 n1
        go_wp2
        (try simp only [Exit.inBlock, Exit.then])
        refine bodyPost_ret (results_none rfl _ _ _) rfl ?_
        exact HE.out
      have t1 : decide ((len : Int) ≤ 12) = false := decide_eq_false (by omega)
      have t2 : decide (len ≤ 12) = false := decide_eq_false h12
      have hab12 : a + 12 < b := by have := HLen.out; omega
      by_cases hL0 : L = 0
      · have t3 : (L == 0) = true := by simp [hL0]
        have C := Lib.hid (heap_any hR.out (show a < b by omega) hbn (by omega))
        have HL0 := Lib.hid hL0
        clear hL0
        go_wp2_with fail
        refine C.out.mono ?_
        rintro e w1 ⟨rfl, zs, r1, g1, s1, n1⟩
        have HE : Hid (Sorted B g n cap a0 b0 xs w (.returned (.tuple #[])) w1) := ⟨rfl, zs, r1, grown_tr hG.out g1, hS.out.trans (s1.mono ha hb), (hD.out.keep s1 hb ha).done n1⟩
        clear r1 g1 s1 n1
        go_wp2
        (try simp only [Exit.inBlock, Exit.then])
        refine bodyPost_ret (results_none rfl _ _ _) rfl ?_
        exact HE.out
      have t3 : (L == 0) = false := by simp [hL0]
      have eL : IntKind.i64.wrap (L - 1) = L - 1 := IntWalk.i64_in _ (by omega)
      go_upto_if 35 with fail
      go_cut [3] (fun l wx => ∃ L' : Int, l = .int .i64 L' ∧ (0 ≤ L' ∧ L' ≤ 100) ∧ Hid (Swapped B g n cap a b ys w wx))
      case first =>
        have C := Lib.hid (break_any hR.out hab12 hbn hn1)
        cases wb
        · go_wp2_with fail
          refine C.out.mono ?_
          rintro e w1 ⟨rfl, zs, r1, g1, s1⟩
          have HE : Hid (Swapped B g n cap a b ys w w1) := ⟨zs, r1, grown_tr hG.out g1, s1⟩
          clear r1 g1 s1
          go_wp2
          go_meet
          exact ⟨L - 1, rfl, by omega, HE⟩
        · have HE : Hid (Swapped B g n cap a b ys w wr) := ⟨ys, hR.out, hG.out, Sw.refl _ _ _⟩
          go_wp2
          go_meet
          exact ⟨L, rfl, by omega, HE⟩
      case rest =>
        obtain ⟨L', rfl, ⟨hL1', hL2'⟩, hsw⟩ := hcut
        obtain ⟨y1, hR1, hG1, hS1⟩ := hsw.out
        have HR1 := Lib.hid hR1
        have HG1 := Lib.hid hG1
        have HS1 := Lib.hid hS1
        clear hR hG hsw hR1 hG1 hS1 t3 eL hL0 hL1 hL2
        go_wp2_with fail
        refine (pivot_any HR1.out hab12 hbn (by omega)).mono ?_
        rintro e w2 ⟨pv, hint, rfl, hp1, hp2, hh, hR2, hG2⟩
        have HR2 := Lib.hid hR2
        have HG2 := Lib.hid (grown_tr HG1.out hG2)
        clear HR1 HG1 hR2 hG2
        go_upto_if 50 with fail
        go_cut [11, 12] (fun p h wx => ∃ (p' : Nat) (h' : Int), p = .int .i64 (p' : Int) ∧ h = .int .i64 h' ∧ a ≤ p' ∧ p' < b ∧ (h' = 0 ∨ h' = 1) ∧ Hid (Swapped B g n cap a b ys w wx))
        case first =>
          have C := Lib.hid (reverse_any HR2.out (show a < b by omega) hbn (by omega))
          by_cases h2 : hint = 2
          · subst h2
            obtain ⟨d, hd⟩ : ∃ d, d = pv - a := ⟨_, rfl⟩
            have e1 : (pv : Int) - (a : Int) = (d : Int) := by omega
            have e2 : IntKind.i64.wrap (d : Int) = (d : Int) := IntWalk.i64_in _ (by omega)
            obtain ⟨t, ht⟩ : ∃ t, t = b - 1 := ⟨_, rfl⟩
            have e3 : (b : Int) - 1 = (t : Int) := by omega
            have e4 : IntKind.i64.wrap (t : Int) = (t : Int) := IntWalk.i64_in _ (by omega)
            obtain ⟨u, hu⟩ : ∃ u, u = t - d := ⟨_, rfl⟩
            have e5 : (t : Int) - (d : Int) = (u : Int) := by omega
            have e6 : IntKind.i64.wrap (u : Int) = (u : Int) := IntWalk.i64_in _ (by omega)
            have HU : Hid (a ≤ u ∧ u < b) := by show _ ∧ _; omega
            clear hd ht hu
            go_wp2_with fail
            refine C.out.mono ?_
            rintro e w3 ⟨rfl, zs, r1, g1, s1⟩
            have HE : Hid (Swapped B g n cap a b ys w w3) := ⟨zs, r1, grown_tr HG2.out g1, HS1.out.trans s1⟩
            clear r1 g1 s1
            go_wp2
            go_meet
            exact ⟨u, 1, rfl, rfl, HU.out.1, HU.out.2, .inr rfl, HE⟩
          · have h3 : (hint == 2) = false := by simp [h2]
            have HH : Hid (hint = 0 ∨ hint = 1) := by show _ ∨ _; omega
            have HE : Hid (Swapped B g n cap a b ys w w2) := ⟨y1, HR2.out, HG2.out, HS1.out⟩
            clear hh h2
            go_wp2
            go_meet
            exact ⟨pv, hint, rfl, rfl, hp1, hp2, HH.out, HE⟩
        case rest =>
          obtain ⟨pv', h', rfl, rfl, hq1, hq2, hh', hsw⟩ := hcut
          clear HR2 HG2 HS1 hh hp1 hp2
          go_upto_region 15 with fail
          go_cut [68] (fun t wx => ∃ q : Bool, t = .bool q ∧ wx = wc)
          case first =>
            rcases hh' with rfl | rfl
            all_goals
              cases wb
              all_goals
                cases wp
                all_goals
                  go_wp2
                  go_meet
                  exact ⟨_, rfl, rfl⟩
          case rest =>
            obtain ⟨q, rfl, rfl⟩ := hcut
            obtain ⟨y2, hR2, hG2, hS2⟩ := hsw.out
            have HR2 := Lib.hid hR2
            have HG2 := Lib.hid hG2
            have HS2 := Lib.hid hS2
            clear hR2 hG2 hS2 hsw
            obtain ⟨W0, hW0⟩ : ∃ W, W = wc := ⟨_, rfl⟩
            rw [← hW0] at HR2 HG2 ⊢
            clear hW0 wc
            go_upto_if 68 with fail
            go_cut [12] (fun _ wx => Hid (Swapped B g n cap a b ys w wx))
            case first =>
              cases q
              · have HE : Hid (Swapped B g n cap a b ys w W0) := ⟨y2, HR2.out, HG2.out, HS2.out⟩
                go_wp2
                go_meet
                exact HE
              · have C := Lib.hid (partial_any HR2.out (pre_of HP.out (hS.out.trans (HS2.out.mono ha hb)) (hD.out.keep HS2.out hb ha) ha hb) hab12 hbn (by omega))
                go_wp2_with fail
                refine C.out.mono ?_
                rintro e w3 ⟨pq, zs, rfl, r1, g1, s1, n1⟩
                cases pq
                · have HE : Hid (Swapped B g n cap a b ys w w3) := ⟨zs, r1, grown_tr HG2.out g1, HS2.out.trans s1⟩
                  clear r1 g1 s1 n1
                  go_wp2
                  go_meet
                  exact HE
                · have HE : Hid (Sorted B g n cap a0 b0 xs w (.returned (.tuple #[])) w3) := ⟨rfl, zs, r1, grown_tr HG2.out g1, hS.out.trans ((HS2.out.trans s1).mono ha hb), (hD.out.keep (HS2.out.trans s1) hb ha).done (n1 rfl)⟩
                  clear r1 g1 s1 n1
                  go_wp2
                  (try simp only [Exit.inBlock, Exit.then])
                  refine bodyPost_ret (results_none rfl _ _ _) rfl ?_
                  exact HE.out
            case rest =>
              obtain ⟨y3, hR3, hG3, hS3⟩ := hcut.out
              have HR3 := Lib.hid hR3
              have HG3 := Lib.hid hG3
              have HS3 := Lib.hid (hS.out.trans (hS3.mono ha hb))
              have HD3 := Lib.hid (hD.out.keep hS3 hb ha)
              clear hcut hR3 hG3 hS3 HR2 HG2 HS2 hS hD t1 t2
              have HP3 : Hid (Pre a b y3) := pre_of HP.out HS3.out HD3.out ha hb
              obtain ⟨v, hv⟩ : ∃ v, v = y3.getD pv' 0 := ⟨_, rfl⟩
              have c1 := HR3.out.cell pv' (by omega)
              rw [← hv] at c1
              have i1 : (0 : Int) ≤ (pv' : Int) := by omega
              have i2 : (pv' : Int) < (n : Int) := by omega
              have HV := Lib.hid hv
              clear hv
              obtain ⟨W3, rfl⟩ : ∃ W, W = wc := ⟨_, rfl⟩
              rcases Nat.eq_zero_or_pos a with h0 | h0
              · have g1 : decide ((0 : Int) < (a : Int)) = false := decide_eq_false (by omega)
                have g2 : decide (0 < a) = false := decide_eq_false (by omega)
                have H0 := Lib.hid h0
                clear h0
                go_wp2
                go_quiet (fail)
                have hR4 := HR3.out.draw nq
                have hG4 := grown_draw HG3.out nq
                generalize W3.drewN nq = W4 at hR4 hG4 ⊢
                have HR4 := Lib.hid hR4
                have HG4 := Lib.hid hG4
                clear hR4 hG4 HR3 HG3 c1
                go_wp2_with fail
                refine (partition_any HR4.out (show a < b by omega) hbn (by omega) hq1 hq2).mono ?_
                rintro e w5 ⟨mid, pq, zs, rfl, m1, m2, r5, g5, s5, p5⟩
                have HR5 := Lib.hid r5
                have HG5 := Lib.hid (grown_tr HG4.out g5)
                have HS5 := Lib.hid (HS3.out.trans (s5.mono ha hb))
                have HD5 := Lib.hid (HD3.out.keep s5 hb ha)
                have HPT := Lib.hid p5
                have HP5 := Lib.hid (HP3.out.keep s5)
                clear r5 g5 s5 p5 HR4 HG4 HS3 HD3 HP3
                obtain ⟨dl, hdl⟩ : ∃ d, d = mid - a := ⟨_, rfl⟩
                obtain ⟨dr, hdr⟩ : ∃ d, d = b - mid := ⟨_, rfl⟩
                have d1 : (mid : Int) - (a : Int) = (dl : Int) := by omega
                have d2 : IntKind.i64.wrap (dl : Int) = (dl : Int) := IntWalk.i64_in _ (by omega)
                have d3 : (b : Int) - (mid : Int) = (dr : Int) := by omega
                have d4 : IntKind.i64.wrap (dr : Int) = (dr : Int) := IntWalk.i64_in _ (by omega)
                obtain ⟨n1, hn1'⟩ : ∃ m, m = mid + 1 := ⟨_, rfl⟩
                have d5 : (mid : Int) + 1 = (n1 : Int) := by omega
                have d6 : IntKind.i64.wrap (n1 : Int) = (n1 : Int) := IntWalk.i64_in _ (by omega)
                have HDL := Lib.hid hdl
                have HDR := Lib.hid hdr
                have HN1 := Lib.hid hn1'
                clear hdl hdr hn1'
                by_cases hlr : dl < dr
                · have v1 : decide (dl < dr) = true := decide_eq_true hlr
                  have v2 : decide ((dl : Int) < (dr : Int)) = true := decide_eq_true (by omega)
                  have C := Lib.hid (IH.out B g n cap a mid zs w5 L' HR5.out m1 (by omega) hn1 (by have := HT.out; omega) ⟨hL1', hL2'⟩ (fun h k k1 k2 => HP5.out h k k1 (by omega)))
                  go_wp2_with fail
                  refine C.out.mono ?_
                  rintro e w6 ⟨rfl, us, r6, g6, s6, n6⟩
                  have HR6 := Lib.hid r6
                  have HG6 := Lib.hid (grown_tr HG5.out g6)
                  have HS6 := Lib.hid (HS5.out.trans (s6.mono ha (by omega)))
                  have HD6 := Lib.hid (dn_left HD5.out HPT.out s6 n6 ha hb m1 m2)
                  clear r6 g6 s6 n6 HR5 HG5 HS5 HD5 HPT HP5
                  go_wp2
                  go_roundw
                  case rel => exact ⟨n1, b, L', _, pq, us, by have := HN1.out; omega, by have := HN1.out; omega, hb, ⟨hL1', hL2'⟩, rfl, rfl, rfl, rfl, rfl, HR6, HG6, HS6, by rw [HN1.out]; exact HD6⟩
                  case measure => have := HN1.out; simp [intOf]; omega
                · have v1 : decide (dl < dr) = false := decide_eq_false hlr
                  have v2 : decide ((dl : Int) < (dr : Int)) = false := decide_eq_false (by omega)
                  have C := Lib.hid (IH.out B g n cap n1 b zs w5 L' HR5.out (by have := HN1.out; omega) hbn hn1 (by have := HT.out; have := HN1.out; omega) ⟨hL1', hL2'⟩ (fun h k k1 k2 => by
                    rw [show n1 - 1 = mid by have := HN1.out; omega]
                    exact HPT.out.2 k (by have := HN1.out; omega) k2))
                  go_wp2_with fail
                  refine C.out.mono ?_
                  rintro e w6 ⟨rfl, us, r6, g6, s6, n6⟩
                  have HR6 := Lib.hid r6
                  have HG6 := Lib.hid (grown_tr HG5.out g6)
                  have HS6 := Lib.hid (HS5.out.trans (s6.mono (by have := HN1.out; omega) hb))
                  have HD6 := Lib.hid (dn_right HD5.out HPT.out (by rw [← HN1.out]; exact s6) (by rw [← HN1.out]; exact n6) ha hb m1 m2)
                  clear r6 g6 s6 n6 HR5 HG5 HS5 HD5 HPT HP5
                  go_wp2
                  go_roundw
                  case rel => exact ⟨a, mid, L', _, pq, us, ha, m1, by omega, ⟨hL1', hL2'⟩, rfl, rfl, rfl, rfl, rfl, HR6, HG6, HS6, HD6⟩
                  case measure => simp [intOf]; omega
              · have g1 : decide ((0 : Int) < (a : Int)) = true := decide_eq_true (by omega)
                have g2 : decide (0 < a) = true := decide_eq_true h0
                obtain ⟨l, hl⟩ : ∃ l, l = a - 1 := ⟨_, rfl⟩
                have j1 : (a : Int) - 1 = (l : Int) := by omega
                have j2 : IntKind.i64.wrap (l : Int) = (l : Int) := IntWalk.i64_in _ (by omega)
                have j3 : (0 : Int) ≤ (l : Int) := by omega
                have j4 : (l : Int) < (n : Int) := by omega
                obtain ⟨u, hu⟩ : ∃ u, u = y3.getD l 0 := ⟨_, rfl⟩
                have c2 := HR3.out.cell l (by omega)
                rw [← hu] at c2
                obtain ⟨q2, hq2'⟩ : ∃ q, decide (u < v) = q := ⟨_, rfl⟩
                have LS := Lib.hid (less_is hq2')
                have HU := Lib.hid hu
                have HQ := Lib.hid hq2'
                have HLA := Lib.hid hl
                clear hu hq2' hl
                cases q2
                · go_wp2
                  go_quiet ((go_at_call 210; refine Calls.quiet_of_same (LS.out _)))
                  have hR4 := HR3.out.draw nq
                  have hG4 := grown_draw HG3.out nq
                  generalize W3.drewN nq = W4 at hR4 hG4 ⊢
                  have HR4 := Lib.hid hR4
                  have HG4 := Lib.hid hG4
                  clear hR4 hG4 HR3 HG3 c1 c2 LS
                  go_wp2_with fail
                  refine (partEq_any HR4.out (show a < b by omega) hbn (by omega) hq1 hq2).mono ?_
                  rintro e w5 ⟨mid, zs, rfl, m1, m2, r5, g5, s5, e5, e6, e7⟩
                  have HE5 : Hid (Dn a0 b0 mid b zs) := by
                    refine dn_equal (p := v) (HD3.out.keep s5 hb ha) (fun k k1 k2 => ?_) (fun k k1 k2 => by rw [HV.out]; exact e7 k k1 k2)
                    have hpre := (HP3.out.keep s5) (by omega) k k1 (by omega)
                    rw [s5.out (a - 1) (.inl (by omega)), ← HLA.out, ← HU.out] at hpre
                    have hno := of_decide_eq_false HQ.out
                    have h8 : zs.getD k 0 ≤ v := by
                      rw [HV.out]
                      by_cases hk : k = a
                      · rw [hk, e5]; exact Nat.le_refl _
                      · exact e6 k (by omega) k2
                    omega
                  have HR5 := Lib.hid r5
                  have HG5 := Lib.hid (grown_tr HG4.out g5)
                  have HS5 := Lib.hid (HS3.out.trans (s5.mono ha hb))
                  clear r5 g5 s5 e5 e6 e7 HR4 HG4 HS3 HD3 HP3 HQ
                  go_wp2
                  go_roundw
                  case rel => exact ⟨mid, b, L', wb, wp, zs, by omega, m2, hb, ⟨hL1', hL2'⟩, rfl, rfl, rfl, rfl, rfl, HR5, HG5, HS5, HE5⟩
                  case measure => simp [intOf]; omega
                · go_wp2
                  go_quiet ((go_at_call 210; refine Calls.quiet_of_same (LS.out _)))
                  have hR4 := HR3.out.draw nq
                  have hG4 := grown_draw HG3.out nq
                  generalize W3.drewN nq = W4 at hR4 hG4 ⊢
                  have HR4 := Lib.hid hR4
                  have HG4 := Lib.hid hG4
                  clear hR4 hG4 HR3 HG3 c1
                  go_wp2_with fail
                  refine (partition_any HR4.out (show a < b by omega) hbn (by omega) hq1 hq2).mono ?_
                  rintro e w5 ⟨mid, pq, zs, rfl, m1, m2, r5, g5, s5, p5⟩
                  have HR5 := Lib.hid r5
                  have HG5 := Lib.hid (grown_tr HG4.out g5)
                  have HS5 := Lib.hid (HS3.out.trans (s5.mono ha hb))
                  have HD5 := Lib.hid (HD3.out.keep s5 hb ha)
                  have HPT := Lib.hid p5
                  have HP5 := Lib.hid (HP3.out.keep s5)
                  clear r5 g5 s5 p5 HR4 HG4 HS3 HD3 HP3
                  obtain ⟨dl, hdl⟩ : ∃ d, d = mid - a := ⟨_, rfl⟩
                  obtain ⟨dr, hdr⟩ : ∃ d, d = b - mid := ⟨_, rfl⟩
                  have d1 : (mid : Int) - (a : Int) = (dl : Int) := by omega
                  have d2 : IntKind.i64.wrap (dl : Int) = (dl : Int) := IntWalk.i64_in _ (by omega)
                  have d3 : (b : Int) - (mid : Int) = (dr : Int) := by omega
                  have d4 : IntKind.i64.wrap (dr : Int) = (dr : Int) := IntWalk.i64_in _ (by omega)
                  obtain ⟨n1, hn1'⟩ : ∃ m, m = mid + 1 := ⟨_, rfl⟩
                  have d5 : (mid : Int) + 1 = (n1 : Int) := by omega
                  have d6 : IntKind.i64.wrap (n1 : Int) = (n1 : Int) := IntWalk.i64_in _ (by omega)
                  have HDL := Lib.hid hdl
                  have HDR := Lib.hid hdr
                  have HN1 := Lib.hid hn1'
                  clear hdl hdr hn1'
                  by_cases hlr : dl < dr
                  · have v1 : decide (dl < dr) = true := decide_eq_true hlr
                    have v2 : decide ((dl : Int) < (dr : Int)) = true := decide_eq_true (by omega)
                    have C := Lib.hid (IH.out B g n cap a mid zs w5 L' HR5.out m1 (by omega) hn1 (by have := HT.out; omega) ⟨hL1', hL2'⟩ (fun h k k1 k2 => HP5.out h k k1 (by omega)))
                    go_wp2_with fail
                    refine C.out.mono ?_
                    rintro e w6 ⟨rfl, us, r6, g6, s6, n6⟩
                    have HR6 := Lib.hid r6
                    have HG6 := Lib.hid (grown_tr HG5.out g6)
                    have HS6 := Lib.hid (HS5.out.trans (s6.mono ha (by omega)))
                    have HD6 := Lib.hid (dn_left HD5.out HPT.out s6 n6 ha hb m1 m2)
                    clear r6 g6 s6 n6 HR5 HG5 HS5 HD5 HPT HP5
                    go_wp2
                    go_roundw
                    case rel => exact ⟨n1, b, L', _, pq, us, by have := HN1.out; omega, by have := HN1.out; omega, hb, ⟨hL1', hL2'⟩, rfl, rfl, rfl, rfl, rfl, HR6, HG6, HS6, by rw [HN1.out]; exact HD6⟩
                    case measure => have := HN1.out; simp [intOf]; omega
                  · have v1 : decide (dl < dr) = false := decide_eq_false hlr
                    have v2 : decide ((dl : Int) < (dr : Int)) = false := decide_eq_false (by omega)
                    have C := Lib.hid (IH.out B g n cap n1 b zs w5 L' HR5.out (by have := HN1.out; omega) hbn hn1 (by have := HT.out; have := HN1.out; omega) ⟨hL1', hL2'⟩ (fun h k k1 k2 => by
                      rw [show n1 - 1 = mid by have := HN1.out; omega]
                      exact HPT.out.2 k (by have := HN1.out; omega) k2))
                    go_wp2_with fail
                    refine C.out.mono ?_
                    rintro e w6 ⟨rfl, us, r6, g6, s6, n6⟩
                    have HR6 := Lib.hid r6
                    have HG6 := Lib.hid (grown_tr HG5.out g6)
                    have HS6 := Lib.hid (HS5.out.trans (s6.mono (by have := HN1.out; omega) hb))
                    have HD6 := Lib.hid (dn_right HD5.out HPT.out (by rw [← HN1.out]; exact s6) (by rw [← HN1.out]; exact n6) ha hb m1 m2)
                    clear r6 g6 s6 n6 HR5 HG5 HS5 HD5 HPT HP5
                    go_wp2
                    go_roundw
                    case rel => exact ⟨a, mid, L', _, pq, us, ha, m1, by omega, ⟨hL1', hL2'⟩, rfl, rfl, rfl, rfl, rfl, HR6, HG6, HS6, HD6⟩
                    case measure => simp [intOf]; omega
set_option maxRecDepth 100000 in
theorem sort_many : SortC 1024 := fun B g n cap xs w hr hn => by
  have L := Lib.hid (len_any n (by omega))
  have P : Hid (∀ k : Nat, k ≤ 11 → Calls Tryz.prog 202 #[.slice (some ⟨g, 0, none⟩) n cap, .int .i64 0, .int .i64 (n : Int), .int .i64 (k : Int)] w (Sorted B g n cap 0 n xs w)) := fun k hk => pdq_any 1024 B g n cap 0 n xs w k hr (by omega) (Nat.le_refl _) hn (by omega) (by omega) (fun h => by omega)
  have e1 : IntKind.u64.wrap (n : Int) = (n : Int) := by rw [IntKind.wrap_u64]; omega
  clear hr
  go_enter Tryz.func195, Tryz.ntmps195
  go_wp2_with fail
  refine (L.out _).mono ?_
  rintro e w1 ⟨⟨k, rfl, hk⟩, rfl⟩
  have hk11 := hk.1
  clear hk
  go_wp2_with fail
  refine (P.out k hk11).mono ?_
  rintro e w2 ⟨rfl, h⟩
  have H := Lib.hid h
  clear h
  go_wp2
  go_end0
  exact ⟨rfl, H.out⟩
end Go.Proofs.YtgjbnbojjgbmcaaGreat.Srt

namespace Go.Proofs.YtgjbnbojjgbmcaaGreat.Bags
open Go.RowKit Go.WideShapes Stamp Go.Proofs.YtgjbnbojjgbmcaaGreat.Place Ops Codes
attribute [local go_sem ↓] Go.wp_at_zero Go.wp_at_succ
theorem ofC_bag {l : List Opn} (h : Bag l) : Clocks.ofC (stampsO l) = (Clocks.among (stampsO l), 0) := by
  have hl : (stampsO l).length ≤ 1024 := by unfold stampsO; rw [List.length_map]; exact h.1
  have hm : Clocks.allMay (stampsO l) = true := by
    unfold Clocks.allMay stampsO
    rw [List.all_eq_true]
    intro a ha
    obtain ⟨o, ho, rfl⟩ := List.mem_map.1 ha
    exact (mayO_parts (h.2.1 o ho)).1
  unfold Clocks.ofC
  rw [if_neg (by omega), if_pos hm]
set_option maxRecDepth 100000 in
set_option maxHeartbeats 4000000 in
theorem bIds_any {v : Value} {l : List Opn} {w : World} (hv : OpL w v l) : Calls Tryz.prog 63 #[v] w (DoneC (idsC l) (chkL l) w) := by
  have CK := Lib.hid (bCheck_any hv)
  obtain ⟨ao, cap, rfl⟩ := hv.shape
  obtain ⟨n, hn⟩ : ∃ n, n = l.length := ⟨_, rfl⟩
  have HV : Hid (∀ W : World, Below w.heap.size w W → OpL W (.slice ao l.length cap) l) := fun W h => hv.keeps h
  have HN := Lib.hid hn
  have B0 : Hid (Below w.heap.size w w) := Below.refl _ _
  rw [← hn] at CK ⊢
  by_cases hbag : Bag l
  rotate_left
  · have e1 : chkL l = 8 := chkL_no hbag
    have e2 : idsC l = [] := by unfold idsC; rw [bagB_no hbag]; rfl
    rw [e1] at CK ⊢
    rw [e2]
    clear hv hn e1 e2
    go_enter Tryz.func63, Tryz.ntmps63
    go_wp2_with fail
    refine CK.out.mono ?_
    rintro e w1 ⟨rfl, b1⟩
    have B1 := Lib.hid b1
    clear b1
    go_wp2
    go_ret2
    exact ⟨_, rfl, ⟨[], World.ownsRow_nil _ _ _ _, trivial⟩, B1.out⟩
  have e1 : chkL l = 0 := chkL_yes hbag
  have e2 : idsC l = Clocks.among (stampsO l) := by unfold idsC; rw [(bagB_iff l).2 hbag]; rfl
  rw [e1] at CK ⊢
  rw [e2]
  have OF : Hid (∀ (W : World) (v : Value), Ids W v (stampsO l) → Calls Tryz.prog 113 #[v] W fun e w' => ∃ v', e = .returned (.tuple #[v', .int .i64 0]) ∧ OwnC w' W.heap.size v' (Clocks.among (stampsO l)) ∧ Below W.heap.size W w') := fun W v h => by
    refine (Clocks.cOf_any Srt.sort_many (by decide) h (by unfold stampsO; rw [List.length_map]; exact hbag.1)).mono ?_
    rw [ofC_bag hbag]
    rintro e w' ⟨v', rfl, ho, hb⟩
    exact ⟨v', rfl, ho, hb⟩
  have hnm : n ≤ 1024 := by rw [hn]; exact hbag.1
  obtain ⟨R, hR⟩ : ∃ z, Clocks.among (stampsO l) = z := ⟨_, rfl⟩
  rw [hR] at OF ⊢
  clear hv hn e1 e2 hR hbag
  go_enter Tryz.func63, Tryz.ntmps63
  go_wp2_with fail
  refine CK.out.mono ?_
  rintro e w1 ⟨rfl, b1⟩
  have S1 : Hid (Shr idE 28 w w1 (.slice none 0 0) (stampsO (l.take 0))) := Shr.nil _ _ _ _
  have B1 := Lib.hid b1
  clear b1 B0 CK
  go_wp2
  go_loopw [5, 15] (fun v i wr => ∃ j : Nat, j ≤ n ∧ i = .int .i64 (j : Int) ∧ (∃ ao cap, v = .slice ao j cap) ∧ Hid (Shr idE 28 w wr v (stampsO (l.take j))) ∧ Hid (Below w.heap.size w wr)) (fun _ i _ => n - (intOf i).toNat)
  case atStart => exact ⟨0, by omega, rfl, ⟨none, 0, rfl⟩, S1, B1⟩
  case round =>
    clear S1 B1
    obtain ⟨j, hj, rfl, ⟨aoL, capL, rfl⟩, hshr, hbel⟩ := hrel
    by_cases hjn : j < n
    rotate_left
    · have q3 : decide (j < n) = false := by simpa using hjn
      have hkk : l.take j = l := List.take_of_length_le (by have := HN.out; omega)
      rw [hkk] at hshr
      clear hkk
      have SI := Lib.hid (shr_ids hshr.out)
      clear hshr
      go_wp2_with fail
      refine (OF.out _ _ SI.out).mono ?_
      rintro e w2 ⟨v2, rfl, o2, b2⟩
      have O2 : Hid (OwnC w2 w.heap.size v2 R) := Clocks.OwnC.base o2 hbel.out.size
      have B2 := Lib.hid (bt hbel.out b2)
      clear o2 b2
      go_wp2
      go_ret2
      exact ⟨_, rfl, O2.out, B2.out⟩
    have q3 : decide (j < n) = true := by simpa using hjn
    have q4 : (0 : Int) ≤ (j : Int) := by omega
    have q5 : (j : Int) < (n : Int) := by omega
    have hjl : j < l.length := by rw [← HN.out]; exact hjn
    obtain ⟨bb, oo, u, e, hbb, hru, h0, h1, h2, h3, h4⟩ := opl_at (HV.out wr hbel.out) j hjl
    subst e
    obtain ⟨x, hx⟩ : ∃ x, x = l[j]'hjl := ⟨_, rfl⟩
    rw [← hx] at hru h0 h1 h2 h4
    have HO : Hid (∀ v : Value, opv x v = .agg #[.int .u8 (x.k : Int), .int .u32 (x.t : Int), .int .u8 (x.r : Int), v, .int .i64 x.p]) := fun v => rfl
    obtain ⟨uo, uc, rfl⟩ := hru.shape
    obtain ⟨nu, hnu⟩ : ∃ n, n = x.pl.length := ⟨_, rfl⟩
    have HNU := Lib.hid hnu
    rw [← hnu] at hru h3
    clear hnu
    have INN : Hid (idE.inn w [.int .u32 (x.t : Int), .int .u8 (x.r : Int)] (idO x)) := rfl
    have FT : Hid (stampsO (l.take (j + 1)) = stampsO (l.take j) ++ [idO x]) := by unfold Hid stampsO; rw [List.take_succ_eq_append_getElem hjl, List.map_append, hx]; rfl
    have HM : Hid (j = (stampsO (l.take j)).length) := by unfold Hid stampsO; rw [List.length_map, List.length_take, ← HN.out]; omega
    clear hx hru
    obtain ⟨k, hk⟩ : ∃ z, x.k = z := ⟨_, rfl⟩
    obtain ⟨t, ht⟩ : ∃ z, x.t = z := ⟨_, rfl⟩
    obtain ⟨r, hr⟩ : ∃ z, x.r = z := ⟨_, rfl⟩
    obtain ⟨p, hp⟩ : ∃ z, x.p = z := ⟨_, rfl⟩
    rw [hk, ht, hr, hp] at HO
    rw [hk] at h0
    rw [ht] at h1
    rw [hr] at h2
    rw [hp] at h4
    rw [ht, hr] at INN
    have BL : Hid (Below wr.heap.size wr (wr.alloc (.cells #[.int .u8 (k : Int), .int .u32 (t : Int), .int .u8 (r : Int), .slice uo nu uc, .int .i64 p] 38))) := (Below.refl _ _).alloc (Nat.le_refl _) _
    have SL := Lib.hid (hshr.out.keeps BL.out)
    have GZ : Hid ((wr.alloc (.cells #[.int .u8 (k : Int), .int .u32 (t : Int), .int .u8 (r : Int), .slice uo nu uc, .int .i64 p] 38)).heap.size = wr.heap.size + 1) := Array.size_push _
    have HZ : Hid (w.heap.size ≤ (wr.alloc (.cells #[.int .u8 (k : Int), .int .u32 (t : Int), .int .u8 (r : Int), .slice uo nu uc, .int .i64 p] 38)).heap.size) := by have := hbel.out.size; have := GZ.out; unfold Hid; omega
    clear hk ht hr hp HO hshr
    go_wp2_with (at_builtin; refine wpList_append_enc (E := idE) Tryz.underlying58 id_info rfl (w0 := w) (wp := (wr.alloc (.cells #[.int .u8 (k : Int), .int .u32 (t : Int), .int .u8 (r : Int), .slice uo nu uc, .int .i64 p] 38))) (by rfl) (.tmp 19) (.tmp 22) (by rfl) (by rfl) SL.out (G := wr.heap.size + 1) (by rfl) GZ.out (c := #[.int .u32 (t : Int), .int .u8 (r : Int)]) INN.out HM.out (by omega) (by omega) HZ.out ?_)
    rintro v6 w6 s6 va vc rfl b6
    have S6 := Lib.hid s6
    rw [← FT.out] at S6
    have B6 := Lib.hid ((bt hbel.out BL.out).trans b6)
    clear s6 b6 SL
    go_wp2
    go_roundw
    case rel => exact ⟨j + 1, by omega, by go_num, ⟨va, vc, rfl⟩, S6, B6⟩
    case measure => simp [intOf]; omega
end Go.Proofs.YtgjbnbojjgbmcaaGreat.Bags

namespace Go.Proofs.YtgjbnbojjgbmcaaGreat.Covers
open Go.RowKit Go.WideShapes Stamp Go.Proofs.YtgjbnbojjgbmcaaGreat.Place Ops Codes Bags Marks Homes
attribute [local go_sem ↓] Go.wp_at_zero Go.wp_at_succ
attribute [local go_sem] yielded_undef
set_option maxRecDepth 100000 in
set_option maxHeartbeats 4000000 in
theorem cVersion_any {v : Value} {l : List Opn} (s : Id) {w : World} (hv : OpL w v l) : Calls Tryz.prog 26 #[v, .agg #[.int .u32 (s.t : Int), .int .u8 (s.r : Int)]] w (Bags.DoneC (versionL l s) (spanE l s) w) := by
  have B0 : Hid (Below w.heap.size w (w.alloc (.cells #[.int .u32 (s.t : Int), .int .u8 (s.r : Int)] 28))) := (Below.refl _ _).alloc (Nat.le_refl _) _
  have CH : Hid (Calls Tryz.prog 56 #[v, .agg #[.int .u32 (s.t : Int), .int .u8 (s.r : Int)]] (w.alloc (.cells #[.int .u32 (s.t : Int), .int .u8 (s.r : Int)] 28)) (DoneN (countsL l s) (spanE l s) (w.alloc (.cells #[.int .u32 (s.t : Int), .int .u8 (s.r : Int)] 28)))) := cCounts_any s (hv.keeps B0.out)
  have ID : Hid (spanE l s = 0 → ∀ (W : World) (y : Value), OpL W y (countsL l s) → Calls Tryz.prog 63 #[y] W (Bags.DoneC (versionL l s) 0 W)) := fun hE W y h => by
    have e1 : countsL l s = countL l (livesM l l) s := by unfold countsL; rw [if_pos hE]
    have hb := bag_count (spanE_zero.1 hE).1 (livesM l l) s
    have e2 : idsC (countsL l s) = versionL l s := by unfold idsC versionL; rw [e1, (bagB_iff _).2 hb, if_pos hE]; rfl
    have := bIds_any h
    rw [e2, e1, chkL_yes hb] at this
    exact this
  have VN : Hid (¬ spanE l s = 0 → versionL l s = []) := fun h => by unfold versionL; rw [if_neg h]
  obtain ⟨ao, cap, rfl⟩ := hv.shape
  obtain ⟨n, hn⟩ : ∃ n, n = l.length := ⟨_, rfl⟩
  rw [← hn] at CH ⊢
  obtain ⟨R, hR⟩ : ∃ R, countsL l s = R := ⟨_, rfl⟩
  obtain ⟨c, hc⟩ : ∃ c, spanE l s = c := ⟨_, rfl⟩
  obtain ⟨V, hV⟩ : ∃ V, versionL l s = V := ⟨_, rfl⟩
  rw [hR, hc] at CH
  rw [hR, hc, hV] at ID
  rw [hc, hV] at VN ⊢
  obtain ⟨st, sr, hst, hsr⟩ := s
  simp only at CH B0 ⊢
  clear hv hn hR hc hV
  by_cases hE : c = 0
  · subst hE
    have ID2 := Lib.hid (ID.out rfl)
    clear ID VN
    go_enter Tryz.func26, Tryz.ntmps26
    go_wp2_with fail
    refine CH.out.mono ?_
    rintro e w1 ⟨va, rfl, o1, b1⟩
    have B1 := Lib.hid (bt B0.out b1)
    have O1 := Lib.hid o1.opl
    clear b1 o1 CH B0
    go_wp2_with fail
    refine (ID2.out _ _ O1.out).mono ?_
    rintro e w2 ⟨vb, rfl, o2, b2⟩
    have B2 := Lib.hid (bt B1.out b2)
    have O2 : Hid (OwnC w2 w.heap.size vb V) := Clocks.OwnC.base o2 B1.out.size
    clear b2 o2 ID2 O1 B1
    go_wp2
    go_ret2
    exact ⟨_, rfl, O2.out, B2.out⟩
  · obtain rfl := VN.out hE
    have q1 : (c != 0) = true := by simpa using hE
    have q2 : decide (c = 0) = false := decide_eq_false hE
    clear ID VN
    go_enter Tryz.func26, Tryz.ntmps26
    go_wp2_with fail
    refine CH.out.mono ?_
    rintro e w1 ⟨va, rfl, o1, b1⟩
    have B1 := Lib.hid (bt B0.out b1)
    clear b1 o1 CH B0
    go_wp2
    go_ret2
    exact ⟨_, rfl, Clocks.OwnC.nil _ _, B1.out⟩
end Go.Proofs.YtgjbnbojjgbmcaaGreat.Covers

namespace Go.Proofs.YtgjbnbojjgbmcaaGreat.Clocks
open Go.RowKit Go.Proofs.YtgjbnbojjgbmcaaGreat.Spans
attribute [local go_sem ↓] Go.wp_at_zero Go.wp_at_succ
def hit (a : Id) (x : Tm) : Bool := decide (x.1 = a.r) && has x.2 a.t
theorem hits_is (a : Id) : ∀ {c : List Tm} {lo : Nat}, Up lo c → c.any (hit a) = inB (spn c a.r) a.t
  | [], _, _ => rfl
  | x :: c, lo, h => by
    have h2 : Up (x.1 + 1) c := by
      unfold Up at h
      exact h.2.2.2.2
    have hm := (up_all h x (by simp)).2.2.2
    rw [List.any_cons, spn_cons]
    unfold hit
    by_cases e : x.1 = a.r
    · rw [if_pos e, decide_eq_true e, Bool.true_and]
      have hno : c.any (hit a) = false := by
        rw [List.any_eq_false]
        intro y hy
        have := (up_all h2 y hy).1
        unfold hit
        rw [decide_eq_false (by omega)]
        simp
      unfold hit at hno
      rw [hno, Bool.or_false]
      unfold has
      rw [hm, Bool.true_and]
    · rw [if_neg e, decide_eq_false e, Bool.false_and, Bool.false_or]
      exact hits_is a h2
set_option maxHeartbeats 2000000 in
theorem cHasOne_any (x : Tm) (u : Value) (a : Id) (B : Nat) {w : World} (hu : Sps w u x.2) (hc : w.cell? ⟨B, 0, none⟩ = some (.int .u32 (a.t : Int)) ∧ w.cell? ⟨B, 1, none⟩ = some (.int .u8 (a.r : Int))) (hB : B < w.heap.size) :
    Calls Tryz.prog 66 #[.agg #[.int .u8 (x.1 : Int), u], .pointer (some ⟨B, 0, none⟩)] w fun e w' => e = .returned (.bool (hit a x)) ∧ Below w.heap.size w w' := by
  obtain ⟨xr, xs⟩ := x
  obtain ⟨t, r, ht, hr⟩ := a
  simp only at hu hc
  unfold hit
  simp only
  have BX := Lib.hid (fun o : Obj => (Below.refl w.heap.size w).alloc (Nat.le_refl _) o)
  have c0 : Hid (∀ o : Obj, (w.alloc o).cell? ⟨B, 0, none⟩ = some (.int .u32 (t : Int)) ∧ (w.alloc o).cell? ⟨B, 1, none⟩ = some (.int .u8 (r : Int))) := fun o => ⟨((BX.out o).cell (p := ⟨B, 0, none⟩) hB).trans hc.1, ((BX.out o).cell (p := ⟨B, 1, none⟩) hB).trans hc.2⟩
  have HP : Hid (∀ o : Obj, Calls Tryz.prog 67 #[u, .int .u32 (t : Int)] (w.alloc o) fun e w' => e = .returned (.bool (has xs t)) ∧ Below (w.alloc o).heap.size (w.alloc o) w') := fun o => pHas_any t (hu.keeps (BX.out o))
  obtain ⟨so, sc, rfl⟩ := hu.shape
  obtain ⟨d0, d1⟩ := c0.out (.cells #[.int .u8 (xr : Int), .slice so xs.length sc] 114)
  obtain ⟨sl, hsl⟩ : ∃ sl, sl = xs.length := ⟨_, rfl⟩
  rw [← hsl] at d0 d1 HP ⊢
  obtain ⟨b, hb⟩ : ∃ b, has xs t = b := ⟨_, rfl⟩
  rw [hb] at HP ⊢
  clear hu hc c0 hsl hb
  by_cases h1 : xr = r
  · subst h1
    have s1 : ((xr : Int) == (xr : Int)) = true := by simp
    rw [decide_eq_true rfl, Bool.true_and]
    go_enter Tryz.func66, Tryz.ntmps66
    go_wp2_with fail
    refine (HP.out _).mono ?_
    rintro e w1 ⟨rfl, b1⟩
    have B1 := Lib.hid (bt (BX.out _) b1)
    clear b1
    go_wp2
    go_ret
    exact ⟨rfl, B1.out⟩
  · have s1 : ((xr : Int) == (r : Int)) = false := by simp; omega
    have s2 : decide (xr = r) = false := decide_eq_false h1
    rw [s2, Bool.false_and]
    go_enter Tryz.func66, Tryz.ntmps66
    go_wp2
    go_ret
    exact ⟨rfl, BX.out _⟩
theorem any_snoc (p : Tm → Bool) (c : List Tm) (k : Nat) (h : k < c.length) : (c.take (k + 1)).any p = ((c.take k).any p || p (c.getD k ztm)) := by
  rw [tm_take_snoc c k h, List.any_append]
  simp
set_option maxRecDepth 100000 in
set_option maxHeartbeats 2000000 in
theorem cIdx_any {v : Value} {c : List Tm} (a : Id) (B : Nat) {w : World} (hv : Tms w v c) (hc : w.cell? ⟨B, 0, none⟩ = some (.int .u32 (a.t : Int)) ∧ w.cell? ⟨B, 1, none⟩ = some (.int .u8 (a.r : Int))) (hB : B < w.heap.size) :
    Calls Tryz.prog 115 #[v, .func (.func 66) #[] #[.pointer (some ⟨B, 0, none⟩)]] w fun e w' => (∃ q : Int, e = .returned (.int .i64 q) ∧ decide (0 ≤ q) = c.any (hit a)) ∧ Below w.heap.size w w' := by
  obtain ⟨ao, cap, rfl⟩ := hv.shape
  obtain ⟨n, hn⟩ : ∃ n, n = c.length := ⟨_, rfl⟩
  have hm : n ≤ 9223372036854775807 := by rw [hn]; exact Tms.max hv
  have HV := Lib.hid hv
  have HN := Lib.hid hn
  have HC := Lib.hid hc
  obtain ⟨b0, hb0⟩ : ∃ b, c.any (hit a) = b := ⟨_, rfl⟩
  have HB0 := Lib.hid hb0
  rw [← hn, hb0]
  have B0 := Lib.hid (Below.refl w.heap.size w)
  clear hv hn hb0 hc
  have eg := enters_of Tryz.func66 (by kernel_rfl) rfl
  go_enter Tryz.func115, Tryz.ntmps115
  go_wp2
  go_loopw [8] (fun i wr => ∃ k : Nat, k ≤ n ∧ i = .int .i64 (k : Int) ∧ Hid ((c.take k).any (hit a) = false) ∧ Hid (Below w.heap.size w wr)) (fun i _ => n - (intOf i).toNat)
  case atStart => exact ⟨0, by omega, rfl, Lib.hid rfl, B0⟩
  case round =>
    obtain ⟨k, hk, rfl, hno, hbel⟩ := hrel
    by_cases hkn : k < n
    · have q1 : decide (k < n) = true := by simpa using hkn
      have q2 : (0 : Int) ≤ (k : Int) := by omega
      have q3 : (k : Int) < (n : Int) := by omega
      have hkl : k < c.length := by rw [← HN.out]; exact hkn
      obtain ⟨b1, o1, u, rfl, hb1, ha0, ha1, -, hsp⟩ := (HV.out.keeps hbel.out).at k hkl
      have hsn := any_snoc (hit a) c k hkl
      rw [hno.out, Bool.false_or] at hsn
      have hall : hit a (c.getD k ztm) = true → b0 = true := fun h => by
        rw [← HB0.out, List.any_eq_true]
        exact ⟨_, tm_mem hkl, h⟩
      obtain ⟨x, hx⟩ : ∃ x, x = c.getD k ztm := ⟨_, rfl⟩
      have hx' : c.getD k (0, []) = x := hx.symm
      rw [hx'] at ha0 hsp
      rw [← hx] at hsn hall
      have C := Lib.hid (cHasOne_any x u a B (w := wr) hsp ⟨(hbel.out.cell (p := ⟨B, 0, none⟩) hB).trans HC.out.1, (hbel.out.cell (p := ⟨B, 1, none⟩) hB).trans HC.out.2⟩ (Nat.lt_of_lt_of_le hB hbel.out.size))
      obtain ⟨q, hq⟩ : ∃ q, hit a x = q := ⟨_, rfl⟩
      rw [hq] at C hsn hall
      have HIn := Lib.hid hall
      have HSn := Lib.hid hsn
      obtain ⟨so, sc, rfl⟩ := hsp.shape
      obtain ⟨xr, xs⟩ := x
      simp only at ha0 ha1 C
      obtain ⟨sl, hsl⟩ : ∃ sl, sl = xs.length := ⟨_, rfl⟩
      rw [← hsl] at ha1 C
      clear hx hx' hsn hall hq hsp hsl
      cases q
      · go_wp2_with fail
        refine C.out.mono ?_
        rintro e w1 ⟨rfl, b1⟩
        have B1 := Lib.hid (bt hbel.out b1)
        clear b1
        go_wp2
        go_roundw
        case rel => exact ⟨k + 1, by omega, by go_num, HSn, B1⟩
        case measure => simp [intOf]; omega
      · obtain rfl : b0 = true := HIn.out rfl
        go_wp2_with fail
        refine C.out.mono ?_
        rintro e w1 ⟨rfl, b1⟩
        have B1 := Lib.hid (bt hbel.out b1)
        clear b1
        go_wp2
        go_ret
        exact ⟨⟨_, rfl, decide_eq_true q2⟩, B1.out⟩
    · have q1 : decide (k < n) = false := by simpa using hkn
      have hkk : c.take k = c := List.take_of_length_le (by have := HN.out; omega)
      have hf : b0 = false := by rw [← HB0.out, ← hkk]; exact hno.out
      subst hf
      clear hkk
      go_wp2
      go_ret
      exact ⟨⟨_, rfl, rfl⟩, hbel.out⟩
theorem cContains_any {v : Value} {c : List Tm} (a : Id) (B : Nat) {w : World} (hv : Tms w v c) (hc : w.cell? ⟨B, 0, none⟩ = some (.int .u32 (a.t : Int)) ∧ w.cell? ⟨B, 1, none⟩ = some (.int .u8 (a.r : Int))) (hB : B < w.heap.size) :
    Calls Tryz.prog 65 #[v, .func (.func 66) #[] #[.pointer (some ⟨B, 0, none⟩)]] w fun e w' => e = .returned (.bool (c.any (hit a))) ∧ Below w.heap.size w w' := by
  have C := Lib.hid (cIdx_any a B hv hc hB)
  obtain ⟨b0, hb0⟩ : ∃ b, c.any (hit a) = b := ⟨_, rfl⟩
  rw [hb0] at C ⊢
  clear hv hc hb0
  go_enter Tryz.func65, Tryz.ntmps65
  go_wp2_with fail
  refine C.out.mono ?_
  rintro e w1 ⟨⟨q, rfl, hq⟩, b1⟩
  go_wp2
  go_ret
  exact ⟨rfl, b1⟩
set_option maxRecDepth 100000 in
set_option maxHeartbeats 2000000 in
theorem cHas_any {v : Value} {c : List Tm} (a : Id) {w : World} (hv : Tms w v c) :
    Calls Tryz.prog 29 #[v, .agg #[.int .u32 (a.t : Int), .int .u8 (a.r : Int)]] w fun e w' => e = .returned (.bool (hasC c a)) ∧ Below w.heap.size w w' := by
  have X0 := Lib.hid ((Below.refl w.heap.size w).alloc (Nat.le_refl _) (.cells #[.int .u32 (a.t : Int), .int .u8 (a.r : Int)] 28))
  have C0 := Lib.hid (two_blk (heap_alloc_new w (.cells #[.int .u32 (a.t : Int), .int .u8 (a.r : Int)] 28)))
  have M := Lib.hid (cCheck_any (hv.keeps X0.out))
  have HV := Lib.hid hv
  unfold hasC
  unfold chkC at M
  cases hb : mayC c
  · rw [hb, if_neg (by simp)] at M
    rw [Bool.false_and]
    clear hb hv
    go_enter Tryz.func29, Tryz.ntmps29
    go_wp2_with fail
    refine M.out.mono ?_
    rintro e w1 ⟨rfl, b1⟩
    have B1 := Lib.hid (bt X0.out b1)
    clear b1
    go_wp2
    go_ret
    exact ⟨rfl, B1.out⟩
  · rw [hb, if_pos rfl] at M
    rw [Bool.true_and, ← hits_is a ((mayC_iff c).1 hb)]
    obtain ⟨b0, hb0⟩ : ∃ b, c.any (hit a) = b := ⟨_, rfl⟩
    have HB0 := Lib.hid hb0
    rw [hb0]
    clear hb hv hb0
    go_enter Tryz.func29, Tryz.ntmps29
    go_wp2_with fail
    refine M.out.mono ?_
    rintro e w1 ⟨rfl, b1⟩
    have B1 := Lib.hid (bt X0.out b1)
    have K := cContains_any a w.heap.size (w := w1) ((HV.out.keeps X0.out).keeps b1) ⟨(b1.cell (p := ⟨w.heap.size, 0, none⟩) (by simp)).trans C0.out.1, (b1.cell (p := ⟨w.heap.size, 1, none⟩) (by simp)).trans C0.out.2⟩ (by have := b1.size; simp at this; omega)
    rw [HB0.out] at K
    have K := Lib.hid K
    clear b1
    go_wp2_with fail
    refine K.out.mono ?_
    rintro e w2 ⟨rfl, b2⟩
    have B2 := Lib.hid (bt B1.out b2)
    clear b2
    go_wp2
    go_ret
    exact ⟨rfl, B2.out⟩
end Go.Proofs.YtgjbnbojjgbmcaaGreat.Clocks

namespace Go.Proofs.YtgjbnbojjgbmcaaGreat.Codes
open Num Go.Proofs.YtgjbnbojjgbmcaaGreat.Place Ops Stamp
def mkO (k t r : Nat) (l : List Run) (p : Int) : Opn := ⟨k % 256, t % 4294967296, r % 256, l, if -9223372036854775808 ≤ p ∧ p ≤ 9223372036854775807 then p else 0, Nat.mod_lt _ (by decide), Nat.mod_lt _ (by decide), Nat.mod_lt _ (by decide), by split <;> omega⟩
end Go.Proofs.YtgjbnbojjgbmcaaGreat.Codes

namespace Go.Proofs.YtgjbnbojjgbmcaaGreat.Codes
open Go.RowKit Go.WideShapes Num Go.Proofs.YtgjbnbojjgbmcaaGreat.Place Ops
attribute [local go_sem ↓] Go.wp_at_zero Go.wp_at_succ
/-- Numbers as cells. -/
def nv (L : List Nat) : List Value := L.map fun n : Nat => .int .i64 (n : Int)
end Go.Proofs.YtgjbnbojjgbmcaaGreat.Codes

namespace Go.Proofs.YtgjbnbojjgbmcaaGreat.Codes
open Go.RowKit Go.WideShapes Num Go.Proofs.YtgjbnbojjgbmcaaGreat.Place Ops
attribute [local go_sem ↓] Go.wp_at_zero Go.wp_at_succ
theorem int_info : (Tryz.prog.info? 3).map (fun i => (i.zero, i.size, i.bytes)) = some (some (.int .i64 0), 1, 8) := by kernel_rfl
end Go.Proofs.YtgjbnbojjgbmcaaGreat.Codes

namespace Go.Proofs.YtgjbnbojjgbmcaaGreat.Edits
open Go.RowKit Go.WideShapes Stamp Go.Proofs.YtgjbnbojjgbmcaaGreat.Place Ops Codes Bags Marks Homes Covers Views
attribute [local go_sem ↓] Go.wp_at_zero Go.wp_at_succ
attribute [local go_sem] yielded_undef
set_option maxRecDepth 100000 in
set_option maxHeartbeats 4000000 in
theorem points16_any {v : Value} {l : List Opn} {w : World} (hv : ElL w v l) (hl : l.length ≤ 1000000) :
    Calls Tryz.prog 27 #[v] w fun e w' => ∃ v', e = .returned v' ∧ Ints w' v' (l.map (·.p)) ∧ Below w.heap.size w w' := by
  obtain ⟨ao, cap, rfl⟩ := hv.shape
  obtain ⟨n, hn⟩ : ∃ n, n = l.length := ⟨_, rfl⟩
  have hmx : n ≤ 1000000 := by omega
  have HV : Hid (∀ W : World, Below w.heap.size w W → ElL W (.slice ao l.length cap) l) := fun W h => hv.keeps h
  have HN := Lib.hid hn
  rw [← hn]
  obtain ⟨M, hM⟩ : ∃ M, l.map (·.p) = M := ⟨_, rfl⟩
  rw [hM]
  have HM := Lib.hid hM
  clear hM
  have S0 : Hid (w.ownsRow w.heap.size 3 1 (.slice none 0 0) 0 (is (M.take 0))) := World.ownsRow_nil _ _ _ _
  have B0 : Hid (Below w.heap.size w w) := Below.refl _ _
  clear hv hn hl
  go_enter Tryz.func27, Tryz.ntmps27
  go_wp2
  go_loopw [3, 4] (fun v i wr => ∃ (j : Nat) (vo : Option Addr) (vc : Nat), j ≤ n ∧ v = .slice vo j vc ∧ i = .int .i64 (j : Int) ∧ Hid (wr.ownsRow w.heap.size 3 1 (.slice vo j vc) j (is (M.take j))) ∧ Hid (Below w.heap.size w wr)) (fun _ i _ => n - (intOf i).toNat)
  case atStart => exact ⟨0, none, 0, by omega, rfl, rfl, S0, B0⟩
  case round =>
    clear S0 B0
    obtain ⟨j, vo, vc, hj, rfl, rfl, hown, hbel⟩ := hrel
    by_cases hjn : j < n
    rotate_left
    · have q3 : decide (j < n) = false := by simpa using hjn
      have hkk : M.take j = M := List.take_of_length_le (by have := HN.out; rw [← HM.out, List.length_map]; omega)
      rw [hkk] at hown
      clear hkk
      go_wp2
      go_ret
      exact ⟨_, rfl, Ints.own hown.out, hbel.out⟩
    have q3 : decide (j < n) = true := by simpa using hjn
    have q4 : (0 : Int) ≤ (j : Int) := by omega
    have q5 : (j : Int) < (n : Int) := by omega
    have hjl : j < l.length := by rw [← HN.out]; exact hjn
    obtain ⟨b, off, u, rfl, -, -, -, -, -, h3⟩ := el_at (HV.out wr hbel.out) j hjl
    obtain ⟨p, hp⟩ : ∃ p, (l[j]'hjl).p = p := ⟨_, rfl⟩
    rw [hp] at h3
    have FT : Hid (is (M.take (j + 1)) = is (M.take j) ++ [.int .i64 p]) := by
      unfold Hid
      have hjm : j < M.length := by rw [← HM.out, List.length_map]; exact hjl
      have e : M[j]'hjm = p := by simp only [← HM.out, List.getElem_map]; exact hp
      rw [List.take_succ_eq_append_getElem hjm, is_append, e]
      rfl
    have hsz := hbel.out.size
    have HS : Hid (Sees (wr.alloc (.cells #[.int .i64 p] 3)) (.slice (some ⟨wr.heap.size, 0, none⟩) 1 1) 1 1 [.int .i64 p]) := sees_new wr [.int .i64 p] 1 1 rfl (by omega) _ _
    clear hp
    go_wp2_with (at_builtin; refine wpList_append_sees rfl (.tmp 11) (.tmp 17) 55 3 rfl Tryz.underlying55 Codes.int_info rfl (by decide) w.heap.size _ j _ rfl (hown.out.alloc _) _ 1 _ rfl HS.out ?k1 ?k2 ?k3 ?k4 ?_)
    case k1 => exact is_oneCell [p]
    case k2 => omega
    case k3 => omega
    case k4 => first | (simp; done) | (simp; omega) | fail "K4"
    rintro v' w' ho hg hb
    obtain ⟨ao', cap', rfl⟩ : ∃ ao cap, v' = .slice ao (j + 1) cap := Sees.shape (Sees.own ho)
    have HO : Hid (w'.ownsRow w.heap.size 3 1 (.slice ao' (j + 1) cap') (j + 1) (is (M.take (j + 1)))) := by unfold Hid; rw [FT.out]; exact ho
    have HB : Hid (Below w.heap.size w w') := (hbel.out.alloc hsz _).trans hb
    clear ho hg hb h3 hown hbel
    go_wp2
    go_roundw
    case rel => exact ⟨j + 1, ao', cap', by omega, rfl, by go_num, HO, HB⟩
    case measure => simp [intOf]; omega
end Go.Proofs.YtgjbnbojjgbmcaaGreat.Edits

namespace Go.Proofs.YtgjbnbojjgbmcaaGreat.Edits
open Go.RowKit Go.WideShapes Stamp Go.Proofs.YtgjbnbojjgbmcaaGreat.Place Ops Codes Bags Marks Homes Covers Views
attribute [local go_sem ↓] Go.wp_at_zero Go.wp_at_succ
set_option maxRecDepth 100000 in
set_option maxHeartbeats 4000000 in
theorem same16_yes {a b : Value} {l : List Int} {w : World} (ha : Ints w a l) (hb : Ints w b l) :
    Calls Tryz.prog 28 #[a, b] w fun e w' => e = .returned (.bool true) ∧ Below w.heap.size w w' := by
  obtain ⟨ao, ca, rfl⟩ := ha.shape
  obtain ⟨bo, cb, rfl⟩ := hb.shape
  obtain ⟨n, hn⟩ : ∃ n, n = l.length := ⟨_, rfl⟩
  have hm : n ≤ 9223372036854775807 := by rw [hn]; exact Sees.max ha
  have HA := Lib.hid ha
  have HB := Lib.hid hb
  have HN := Lib.hid hn
  rw [← hn]
  clear ha hb hn
  have t1 : ((n : Int) != (n : Int)) = false := by simp
  go_enter Tryz.func28, Tryz.ntmps28
  go_wp2
  go_loopw [5] (fun i wr => ∃ k : Nat, k ≤ n ∧ i = .int .i64 (k : Int) ∧ ∃ q, wr = w.drewN q) (fun i _ => n - (intOf i).toNat)
  case atStart => exact ⟨0, by omega, rfl, 0, rfl⟩
  case round =>
    obtain ⟨k, hk, rfl, q, rfl⟩ := hrel
    by_cases hkn : k < n
    · have q1 : decide (k < n) = true := by simpa using hkn
      obtain ⟨b1, o1, rfl, hb1, hc1⟩ := HA.out.at k (by rw [← HN.out]; exact hkn)
      obtain ⟨b2, o2, rfl, hb2, hc2⟩ := HB.out.at k (by rw [← HN.out]; exact hkn)
      obtain ⟨x, hx⟩ : ∃ x, x = l.getD k 0 := ⟨_, rfl⟩
      rw [← hx] at hc1 hc2
      have q2 : (0 : Int) ≤ (k : Int) := by omega
      have q3 : (k : Int) < (n : Int) := by omega
      have t2 : (x != x) = false := by simp
      clear hx
      go_wp2
      go_quiet (fail)
      go_wp2
      go_roundw
      case rel => exact ⟨k + 1, by omega, by go_num, _, rfl⟩
      case measure => simp [intOf]; omega
    · have q1 : decide (k < n) = false := by simpa using hkn
      go_wp2
      go_ret
      exact ⟨rfl, below_draw (Below.refl _ _) _⟩
end Go.Proofs.YtgjbnbojjgbmcaaGreat.Edits

namespace Go.Proofs.YtgjbnbojjgbmcaaGreat
open Go.RowKit Go.WideShapes
theorem ints_take {w : World} {ao : Option Addr} {n cap k : Nat} {l : List Int} (h : Ints w (.slice ao n cap) l) (hk : k ≤ n) : Ints w (.slice ao k cap) (l.take k) := by
  obtain ⟨h1, ao', cap', he, h2, h3, h4, h5⟩ := h
  obtain ⟨rfl, rfl, rfl⟩ := Value.slice.inj he
  have hl : (l.take k).length = k := by rw [List.length_take]; omega
  refine ⟨by rw [is_len, hl]; omega, ao, cap, by rw [hl], by omega, h3, h4, ?_⟩
  rcases h5 with h5 | ⟨b, off, e, hb, hc⟩
  · left
    have : l = [] := by simpa [is] using h5
    rw [this]; simp [is]
  · right
    refine ⟨b, off, e, hb, fun j u hj => hc j u ?_⟩
    unfold is at hj ⊢
    rw [List.map_take, List.getElem?_take] at hj
    split at hj
    · exact hj
    · cases hj
/-- The numbers from a place on: at the end of the memory it is another slice. -/
theorem ints_from {w : World} {ao : Option Addr} {n cap k : Nat} {l : List Int} (h : Ints w (.slice ao n cap) l) (hk : k ≤ n) :
    (ao = none ∧ cap = 0 ∧ l = [] ∧ n = 0) ∨ (l = [] ∧ n = 0 ∧ ∃ b off sp, ao = some ⟨b, off, sp⟩) ∨
    ∃ b off, ao = some ⟨b, off, none⟩ ∧ ((cap = k ∧ n = k ∧ Ints w (.slice (some ⟨b, off, none⟩) 0 0) (l.drop k)) ∨ (cap ≠ k ∧ Ints w (.slice (some ⟨b, off + k, none⟩) (n - k) (cap - k)) (l.drop k))) := by
  obtain ⟨h1, ao', cap', he, h2, h3, h4, h5⟩ := h
  obtain ⟨rfl, rfl, rfl⟩ := Value.slice.inj he
  have hl : (l.drop k).length = l.length - k := List.length_drop
  cases ao with
  | none =>
    have hc := h4 rfl
    exact .inl ⟨rfl, hc, List.length_eq_zero_iff.1 (by omega), by omega⟩
  | some a =>
    right
    rcases h5 with h5 | ⟨b, off, e, hlt, hc⟩
    · have h0 : l = [] := by simpa [is] using h5
      obtain ⟨b, off, sp⟩ := a
      exact .inl ⟨h0, by rw [h0]; rfl, b, off, sp, rfl⟩
    · cases e
      refine .inr ⟨b, off, rfl, ?_⟩
      by_cases hcs : cap = k
      · refine .inl ⟨hcs, by omega, ?_⟩
        have : l.drop k = [] := by rw [List.drop_eq_nil_iff]; omega
        rw [this]
        exact ⟨rfl, some ⟨b, off, none⟩, 0, rfl, by simp, by simp, by simp, .inl rfl⟩
      · refine .inr ⟨hcs, by rw [is_len, hl]; omega, some ⟨b, off + k, none⟩, cap - k, by rw [hl], by omega, by omega, by simp, ?_⟩
        refine .inr ⟨b, off + k, rfl, hlt, fun j u hj => ?_⟩
        rw [Nat.add_assoc]
        refine hc (k + j) u ?_
        unfold is at hj ⊢
        rw [List.map_drop, List.getElem?_drop] at hj
        exact hj
set_option maxRecDepth 100000 in
/-- The operations' own words for a beginning and for the rest. -/
theorem slice_to {w : World} {ao : Option Addr} {n cap k : Nat} {l : List Int} (h : Ints w (.slice ao n cap) l) (hk : k ≤ n) :
    ∃ V, (∀ W : World, (Instr.slice 55 (.slice ao n cap) none (some (.int .i64 (k : Int))) none).run Tryz.prog W = .ok V W) ∧ ∀ W : World, Below w.heap.size w W → Ints W V (l.take k) := by
  have hc := (Sees.cap h).2.1
  have hn := (Sees.cap h).1
  refine ⟨.slice ao k cap, fun W => ?_, fun W hb => (ints_take h hk).keeps hb⟩
  have q1 : (0 : Int) ≤ (k : Int) := by omega
  have q2 : (k : Int) ≤ (cap : Int) := by omega
  rw [run_slice_h W 55 ao n cap Tryz.underlying55 .i64 (k : Int) q1 q2]
  rw [show Tryz.prog.elem 55 = 3 by kernel_rfl, Tryz.sizeOf3]
  simp only [Result.andThen, sliced, Int.toNat_natCast, Nat.zero_mul, Nat.sub_zero]
  congr 1
  split
  · rfl
  · cases ao with
    | none => rfl
    | some a => obtain ⟨b, o, s⟩ := a; rfl
set_option maxRecDepth 100000 in
theorem slice_from {w : World} {ao : Option Addr} {n cap k : Nat} {l : List Int} (h : Ints w (.slice ao n cap) l) (hk : k ≤ n) :
    ∃ V, (∀ W : World, (Instr.slice 55 (.slice ao n cap) (some (.int .i64 (k : Int))) none none).run Tryz.prog W = .ok V W) ∧ ∀ W : World, Below w.heap.size w W → Ints W V (l.drop k) := by
  have hc := (Sees.cap h).2.1
  have hn := (Sees.cap h).1
  have q1 : (0 : Int) ≤ (k : Int) := by omega
  have q2 : (k : Int) ≤ (n : Int) := by omega
  refine ⟨sliced ao k n cap 1, fun W => ?_, fun W hb => ?_⟩
  · rw [run_slice_l W 55 ao n cap Tryz.underlying55 .i64 (k : Int) q1 q2]
    rw [show Tryz.prog.elem 55 = 3 by kernel_rfl, Tryz.sizeOf3]
    simp only [Result.andThen, Int.toNat_natCast]
  · have hi : Ints w (sliced ao k n cap 1) (l.drop k) := by
      unfold sliced
      rcases ints_from h hk with ⟨rfl, rfl, rfl, rfl⟩ | ⟨rfl, rfl, b, off, sp, rfl⟩ | ⟨b, off, rfl, ⟨rfl, rfl, h2⟩ | ⟨h1, h2⟩⟩
      · obtain rfl : k = 0 := by omega
        exact Sees.nil w 1
      · obtain rfl : k = 0 := by omega
        have hm := (Sees.cap h).2.2.1
        refine ⟨rfl, _, _, rfl, by simp, by omega, ?_, .inl rfl⟩
        intro h0
        split at h0
        · cases h0
        · cases h0
      · rw [if_pos rfl, Nat.sub_self]
        exact h2
      · rw [if_neg h1, Nat.mul_one]
        have hadd : (⟨b, off, none⟩ : Addr).add k = ⟨b, off + k, none⟩ := by unfold Addr.add; split <;> simp_all
        rw [Option.map_some, hadd]
        exact h2
    exact hi.keeps hb
end Go.Proofs.YtgjbnbojjgbmcaaGreat
