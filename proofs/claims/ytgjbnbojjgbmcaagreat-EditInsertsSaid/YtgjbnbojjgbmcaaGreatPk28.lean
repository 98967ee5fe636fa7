/- slices.partitionOrdered over 32-bit numbers. Conditions: the row is the call's own; the pivot stands in the range. slices.partitionEqualOrdered over 32-bit numbers. Conditions: the row is the call's own; the pivot stands in the range. -/
import Derived.Test.YtgjbnbojjgbmcaaGreatChecked
import Derived.WalkKit
import Derived.WalkSpells
import Derived.WalkLawsBesides
import Derived.Laws.BytesArg
import Derived.Lib.Hide
import Derived.Deep.LoopGhost
import Derived.Laws.AppendOwnNone
import Derived.Laws.OwnMore
import Derived.WideShapes
import Derived.RegionTactic
import Derived.Deep.DrawnRows
import Derived.Deep.QuietTactic
import Derived.BigQuiet
import Derived.Deep.DeepCutAuto
import Derived.IntWalk
import Derived.Deep.RegionHeld3
import Derived.Test.YtgjbnbojjgbmcaaGreatPk27
import Derived.Test.YtgjbnbojjgbmcaaGreatPk25
import Derived.Test.YtgjbnbojjgbmcaaGreatPk01
import Derived.Test.YtgjbnbojjgbmcaaGreatPk15
import Derived.Test.YtgjbnbojjgbmcaaGreatPk16
import Derived.Test.YtgjbnbojjgbmcaaGreatPk20

namespace Go.Proofs.YtgjbnbojjgbmcaaGreat.Srt
open Go.RowKit
attribute [local go_sem ↓] Go.wp_at_zero Go.wp_at_succ
/-- Below i less than p, above j not; p stands at a. -/
def Pm (p a b i j : Nat) (zs : List Nat) : Prop := zs.getD a 0 = p ∧ (∀ k, a < k → k < i → zs.getD k 0 < p) ∧ (∀ k, j < k → k < b → p ≤ zs.getD k 0)
theorem pm_i {p a b i j : Nat} {zs : List Nat} (h : Pm p a b i j zs) (hi : zs.getD i 0 < p) : Pm p a b (i + 1) j zs :=
  ⟨h.1, fun k h1 h2 => by rcases Nat.lt_or_ge k i with h3 | h3
                          · exact h.2.1 k h1 h3
                          · obtain rfl : k = i := by omega
                            exact hi, h.2.2⟩
theorem pm_j {p a b i j : Nat} {zs : List Nat} (h : Pm p a b i (j + 1) zs) (hj : ¬ zs.getD (j + 1) 0 < p) : Pm p a b i j zs :=
  ⟨h.1, h.2.1, fun k h1 h2 => by rcases Nat.lt_or_ge (j + 1) k with h3 | h3
                                 · exact h.2.2 k h3 h2
                                 · obtain rfl : k = j + 1 := by omega
                                   omega⟩
theorem pm_swap {p a b i j : Nat} {zs : List Nat} (h : Pm p a b i (j + 1) zs) (hai : a < i) (hij : i < j + 1) (hjn : j + 1 < zs.length) (hi : ¬ zs.getD i 0 < p) (hj : zs.getD (j + 1) 0 < p) : Pm p a b (i + 1) j (ex zs i (j + 1)) := by
  refine ⟨?_, fun k h1 h2 => ?_, fun k h1 h2 => ?_⟩
  · rw [ex_get (by omega) hjn, if_neg (by omega), if_neg (by omega)]; exact h.1
  · rw [ex_get (by omega) hjn, if_neg (by omega)]
    split
    · exact hj
    · exact h.2.1 k h1 (by omega)
  · rw [ex_get (by omega) hjn]
    split
    · omega
    · rw [if_neg (by omega)]; exact h.2.2 k (by omega) h2
/-- What stands behind it: the place mid parts the range. -/
def Pt (a b mid : Nat) (ys : List Nat) : Prop := (∀ k, a ≤ k → k < mid → ys.getD k 0 < ys.getD mid 0) ∧ (∀ k, mid < k → k < b → ys.getD mid 0 ≤ ys.getD k 0)
theorem pm_end {p a b i j : Nat} {zs : List Nat} (h : Pm p a b i j zs) (haj : a ≤ j) (hji : j < i) (hjn : j < zs.length) : Pt a b j (ex zs j a) := by
  have e : (ex zs j a).getD j 0 = p := by
    rw [ex_get hjn (by omega)]
    split
    · rename_i e; rw [e]; exact h.1
    · rw [if_pos rfl]; exact h.1
  refine ⟨fun k h1 h2 => ?_, fun k h1 h2 => ?_⟩
  · rw [e, ex_get hjn (by omega)]
    split
    · exact h.2.1 j (by omega) hji
    · rw [if_neg (by omega)]; exact h.2.1 k (by omega) (by omega)
  · rw [e, ex_get hjn (by omega), if_neg (by omega), if_neg (by omega)]
    exact h.2.2 k h1 h2
set_option maxRecDepth 100000 in
set_option maxHeartbeats 8000000 in
theorem partition_any {B g n cap a b pv : Nat} {xs : List Nat} {w : World} (hr : Row w B g n cap xs) (hab : a < b) (hb : b ≤ n) (hn : n ≤ 1000000) (hp1 : a ≤ pv) (hp2 : pv < b) :
    Calls Tryz.prog 212 #[.slice (some ⟨g, 0, none⟩) n cap, .int .i64 (a : Int), .int .i64 (b : Int), .int .i64 (pv : Int)] w fun e w' => ∃ (mid : Nat) (q : Bool) (ys : List Nat), e = .returned (.tuple #[.int .i64 (mid : Int), .bool q]) ∧
      a ≤ mid ∧ mid < b ∧ Row w' B g n cap ys ∧ w.grownBy w' (some g) ∧ Sw a b xs ys ∧ Pt a b mid ys := by
  obtain ⟨t, ht⟩ : ∃ t, b = t + 1 := ⟨b - 1, by omega⟩
  have e1 : (b : Int) - 1 = (t : Int) := by omega
  have e2 : IntKind.i64.wrap (t : Int) = (t : Int) := IntWalk.i64_in _ (by omega)
  have e3 : IntKind.i64.wrap ((a : Int) + 1) = (a : Int) + 1 := IntWalk.i64_in _ (by omega)
  have hlen := hr.len
  obtain ⟨x, hx⟩ : ∃ x, x = xs.getD a 0 := ⟨_, rfl⟩
  obtain ⟨p, hp⟩ : ∃ p, p = xs.getD pv 0 := ⟨_, rfl⟩
  have c1 := hr.cell a (by omega)
  have c2 := hr.cell pv (by omega)
  have f1 := hr.free a
  have f2 := hr.free pv
  have s1 := hr.sec a pv (by omega) (by omega)
  rw [← hx] at c1
  rw [← hp] at c2 s1
  obtain ⟨s1a, s1b⟩ := s1
  have HE : Hid (∀ N, Row (((w.drewN N).setCell ⟨g, a, none⟩ (.int .u32 (p : Int))).setCell ⟨g, pv, none⟩ (.int .u32 (x : Int))) B g n cap (ex xs a pv) ∧ w.grownBy (((w.drewN N).setCell ⟨g, a, none⟩ (.int .u32 (p : Int))).setCell ⟨g, pv, none⟩ (.int .u32 (x : Int))) (some g)) := fun N => by
    have h := (hr.draw N).ex a pv
    rw [← hx, ← hp] at h
    exact ⟨h.1, grown_tr (grown_draw (World.grownBy.refl w _) N) h.2⟩
  have S0 : Hid (Sw a b xs (ex xs a pv)) := Sw.ex (by omega) (by omega) (by omega) (by omega) (by omega)
  have P0 : Hid (Pm p a b (a + 1) t (ex xs a pv)) := by
    refine ⟨?_, fun k h1 h2 => by omega, fun k h1 h2 => by omega⟩
    rw [ex_get (by omega) (by omega)]
    split
    · rename_i e; rw [e, hp]
    · rw [if_pos rfl, hp]
  have HT : Hid (b = t + 1 ∧ a < b ∧ b ≤ n ∧ n ≤ 1000000) := by show _ ∧ _; omega
  have i1 : (0 : Int) ≤ (a : Int) := by omega
  have i2 : (a : Int) < (n : Int) := by omega
  have i3 : (0 : Int) ≤ (pv : Int) := by omega
  have i4 : (pv : Int) < (n : Int) := by omega
  clear hr hx hp ht hp1 hp2 hlen hab hb hn
  go_enter Tryz.func212, Tryz.ntmps212
  go_wp2
  go_region
  obtain ⟨W1, hW1⟩ : ∃ W, W = ((w.setCell ⟨g, a, none⟩ (.int .u32 (p : Int))).setCell ⟨g, pv, none⟩ (.int .u32 (x : Int))).drew := ⟨_, rfl⟩
  rw [← hW1]
  have R1 : Hid (Row W1 B g n cap (ex xs a pv)) := by rw [hW1]; exact (HE.out 1).1
  have G1 : Hid (w.grownBy W1 (some g)) := by rw [hW1]; exact (HE.out 1).2
  clear hW1 HE c1 c2 f1 f2 s1a s1b
  go_wp2
  obtain ⟨Z, hZ⟩ : ∃ Z, Z = ex xs a pv := ⟨_, rfl⟩
  rw [← hZ] at R1 S0 P0
  clear hZ
  go_loopw [10] (fun x wr => ∃ i : Nat, x = .int .i64 (i : Int) ∧ a + 1 ≤ i ∧ i ≤ t + 1 ∧ Hid (Row wr B g n cap Z) ∧ Hid (w.grownBy wr (some g)) ∧ Hid (Pm p a b i t Z)) (fun x _ => t + 1 - (intOf x).toNat)
  case atStart => exact ⟨(a + 1), by go_num, by omega, by have := HT.out; omega, R1, G1, P0⟩
  case round =>
    clear R1 G1 P0
    obtain ⟨i, rfl, h1, h2, hR, hG, hP⟩ := hrel
    obtain ⟨wo, rfl⟩ : ∃ wo : World, wo = wr := ⟨_, rfl⟩
    by_cases hij : i ≤ t
    · skip
      have p1 : decide (i ≤ t) = true := decide_eq_true (by omega)
      have p1' : decide ((i : Int) ≤ (t : Int)) = true := decide_eq_true (by omega)
      obtain ⟨u, hu⟩ : ∃ u, u = Z.getD i 0 := ⟨_, rfl⟩
      have c1 := hR.out.cell i (by have := HT.out; omega)
      have c2 := hR.out.cell a (by have := HT.out; omega)
      rw [← hu] at c1
      rw [hP.out.1] at c2
      have k1 : (0 : Int) ≤ (i : Int) := by omega
      have k2 : (i : Int) < (n : Int) := by have := HT.out; omega
      obtain ⟨q, hq⟩ : ∃ q, decide (u < p) = q := ⟨_, rfl⟩
      have LS := Lib.hid (less_is hq)
      have HU := Lib.hid hu
      have HQ := Lib.hid hq
      clear hu hq
      cases q
      · have E1 : Hid (¬ Z.getD i 0 < p) := by show ¬ _; rw [← HU.out]; exact of_decide_eq_false HQ.out
        go_wp2
        go_quiet ((go_at_call 210; refine Calls.quiet_of_same (LS.out _)))
        go_wp2
        have hR1 := hR.out.draw nq
        have hG1 := grown_draw hG.out nq
        generalize wo.drewN nq = w1 at hR1 hG1 ⊢
        have R1 := Lib.hid hR1
        have G1 := Lib.hid hG1
        clear hR1 hG1 hR hG c1 c2 k1 k2 LS
        clear HU HQ p1 p1'
        go_loopw [11] (fun y wr => ∃ j : Nat, y = .int .i64 (j : Int) ∧ i ≤ j + 1 ∧ j ≤ t ∧ Hid (Row wr B g n cap Z) ∧ Hid (w.grownBy wr (some g)) ∧ Hid (Pm p a b i j Z)) (fun y _ => (intOf y).toNat)
        case atStart => exact ⟨t, rfl, by omega, by omega, R1, G1, hP⟩
        case round =>
          clear R1 G1 hP
          obtain ⟨j, rfl, h3, h4, hR, hG, hP⟩ := hrel
          obtain ⟨wo, rfl⟩ : ∃ wo : World, wo = wr := ⟨_, rfl⟩
          by_cases hij2 : i ≤ j
          · skip
            have p2 : decide (i ≤ j) = true := decide_eq_true (by omega)
            have p2' : decide ((i : Int) ≤ (j : Int)) = true := decide_eq_true (by omega)
            obtain ⟨u, hu⟩ : ∃ u, u = Z.getD j 0 := ⟨_, rfl⟩
            have c1 := hR.out.cell j (by have := HT.out; omega)
            have c2 := hR.out.cell a (by have := HT.out; omega)
            rw [← hu] at c1
            rw [hP.out.1] at c2
            have k1 : (0 : Int) ≤ (j : Int) := by omega
            have k2 : (j : Int) < (n : Int) := by have := HT.out; omega
            obtain ⟨q, hq⟩ : ∃ q, decide (u < p) = q := ⟨_, rfl⟩
            have LS := Lib.hid (less_is hq)
            have HU := Lib.hid hu
            have HQ := Lib.hid hq
            clear hu hq
            cases q
            · obtain ⟨j', hj'⟩ : ∃ j', j = j' + 1 := ⟨j - 1, by omega⟩
              have HP2 : Hid (Pm p a b i j' Z) := pm_j (by rw [← hj']; exact hP.out) (by rw [← hj', ← HU.out]; exact of_decide_eq_false HQ.out)
              have e5 : (j : Int) - 1 = (j' : Int) := by omega
              have e6 : IntKind.i64.wrap (j' : Int) = (j' : Int) := IntWalk.i64_in _ (by have := HT.out; omega)
              have HJ := Lib.hid hj'
              clear hP hj'
              go_wp2
              go_quiet ((go_at_call 210; refine Calls.quiet_of_same (LS.out _)))
              go_wp2
              go_roundw
              case rel => exact ⟨j', by go_num, by have := HJ.out; omega, by have := HJ.out; omega, hR.out.draw _, grown_draw hG.out _, HP2⟩
              case measure => have := HJ.out; simp [intOf]; omega
            · have hlt : Z.getD j 0 < p := by rw [← HU.out]; exact of_decide_eq_true HQ.out
              have hne : i < j := by
                rcases Nat.lt_or_ge i j with h | h
                · exact h
                · obtain rfl : i = j := by omega
                  exact absurd hlt E1.out
              have HLT := Lib.hid hlt
              clear hlt
              go_wp2
              go_quiet ((go_at_call 210; refine Calls.quiet_of_same (LS.out _)))
              go_wp2
              have hR1 := hR.out.draw nq
              have hG1 := grown_draw hG.out nq
              generalize wo.drewN nq = w1 at hR1 hG1 ⊢
              have R1 := Lib.hid hR1
              have G1 := Lib.hid hG1
              clear hR1 hG1 hR hG c1 c2 k1 k2 LS
              clear HU HQ p2 p2'
              have q1 : decide (j < i) = false := decide_eq_false (by omega)
              have q1' : decide ((j : Int) < (i : Int)) = false := decide_eq_false (by omega)
              obtain ⟨j', hj'⟩ : ∃ j', j = j' + 1 := ⟨j - 1, by omega⟩
              obtain ⟨u, hu⟩ : ∃ u, u = Z.getD i 0 := ⟨_, rfl⟩
              obtain ⟨v, hv⟩ : ∃ v, v = Z.getD j 0 := ⟨_, rfl⟩
              have d1 := R1.out.cell i (by have := HT.out; omega)
              have d2 := R1.out.cell j (by have := HT.out; omega)
              have d3 := R1.out.free i
              have d4 := R1.out.free j
              have d5 := R1.out.sec i j (by have := HT.out; omega) (by have := HT.out; omega)
              rw [← hu] at d1
              rw [← hv] at d2 d5
              obtain ⟨d5a, d5b⟩ := d5
              have hlen := R1.out.len
              have mi1 : (0 : Int) ≤ (i : Int) := by omega
              have mi2 : (i : Int) < (n : Int) := by have := HT.out; omega
              have mj1 : (0 : Int) ≤ (j : Int) := by omega
              have mj2 : (j : Int) < (n : Int) := by have := HT.out; omega
              have HE : Hid (∀ N, Row (((w1.drewN N).setCell ⟨g, i, none⟩ (.int .u32 (v : Int))).setCell ⟨g, j, none⟩ (.int .u32 (u : Int))) B g n cap (ex Z i j) ∧ w.grownBy (((w1.drewN N).setCell ⟨g, i, none⟩ (.int .u32 (v : Int))).setCell ⟨g, j, none⟩ (.int .u32 (u : Int))) (some g)) := fun N => by
                have h := (R1.out.draw N).ex i j
                rw [← hu, ← hv] at h
                exact ⟨h.1, grown_tr (grown_draw G1.out N) h.2⟩
              have HS2 : Hid (Sw a b xs (ex Z i j)) := S0.out.trans (Sw.ex (by omega) (by have := HT.out; omega) (by omega) (by have := HT.out; omega) (by have := HT.out; omega))
              have HP2 : Hid (Pm p a b (i + 1) j' (ex Z i j)) := by
                have h := pm_swap (i := i) (j := j') (by rw [← hj']; exact hP.out) (by omega) (by omega) (by have := HT.out; omega) E1.out (by rw [← hj']; exact HLT.out)
                rw [← hj'] at h
                exact h
              clear hu hv hlen
              have e5 : (j : Int) - 1 = (j' : Int) := by omega
              have e6 : IntKind.i64.wrap (j' : Int) = (j' : Int) := IntWalk.i64_in _ (by have := HT.out; omega)
              have e7 : IntKind.i64.wrap ((i : Int) + 1) = (i : Int) + 1 := IntWalk.i64_in _ (by have := HT.out; omega)
              have HJ := Lib.hid hj'
              clear hP hj'
              go_wp2
              go_region
              obtain ⟨W2, hW2⟩ : ∃ W, W = ((w1.setCell ⟨g, i, none⟩ (.int .u32 (v : Int))).setCell ⟨g, j, none⟩ (.int .u32 (u : Int))).drew := ⟨_, rfl⟩
              rw [← hW2]
              have R2 : Hid (Row W2 B g n cap (ex Z i j)) := by rw [hW2]; exact (HE.out 1).1
              have G2 : Hid (w.grownBy W2 (some g)) := by rw [hW2]; exact (HE.out 1).2
              clear hW2 HE d1 d2 d3 d4 d5a d5b R1 G1
              go_wp2
              go_loopw [10, 11] (fun x y wr => ∃ (i j : Nat) (zs : List Nat), x = .int .i64 (i : Int) ∧ y = .int .i64 (j : Int) ∧ a + 1 ≤ i ∧ i ≤ j + 1 ∧ j < b ∧ Hid (Row wr B g n cap zs) ∧ Hid (w.grownBy wr (some g)) ∧ Hid (Sw a b xs zs) ∧ Hid (Pm p a b i j zs)) (fun x y _ => (intOf y).toNat)
              case atStart => exact ⟨i + 1, j', _, by go_num, by go_num, by omega, by have := HJ.out; omega, by have := HJ.out; have := HT.out; omega, R2, G2, HS2, HP2⟩
              case round =>
                clear R2 G2 HS2 HP2 HJ e5 e6 e7 hne h3 h4 hij2 hij h1 h2 E1 HLT q1 q1' mi1 mi2 mj1 mj2
                obtain ⟨i0, jt, zs, rfl, rfl, g1, g2, g3, hR, hG, hS, hP⟩ := hrel
                obtain ⟨wq, rfl⟩ : ∃ wq : World, wq = wr := ⟨_, rfl⟩
                go_wp2
                go_loopw [10] (fun x wr => ∃ i : Nat, x = .int .i64 (i : Int) ∧ a + 1 ≤ i ∧ i ≤ jt + 1 ∧ Hid (Row wr B g n cap zs) ∧ Hid (w.grownBy wr (some g)) ∧ Hid (Pm p a b i jt zs)) (fun x _ => jt + 1 - (intOf x).toNat)
                case atStart => exact ⟨i0, by go_num, by omega, by have := HT.out; omega, hR, hG, hP⟩
                case round =>
                  clear hR hG hP
                  obtain ⟨i, rfl, h1, h2, hR, hG, hP⟩ := hrel
                  obtain ⟨wo, rfl⟩ : ∃ wo : World, wo = wr := ⟨_, rfl⟩
                  by_cases hij : i ≤ jt
                  · skip
                    have p1 : decide (i ≤ jt) = true := decide_eq_true (by omega)
                    have p1' : decide ((i : Int) ≤ (jt : Int)) = true := decide_eq_true (by omega)
                    obtain ⟨u, hu⟩ : ∃ u, u = zs.getD i 0 := ⟨_, rfl⟩
                    have c1 := hR.out.cell i (by have := HT.out; omega)
                    have c2 := hR.out.cell a (by have := HT.out; omega)
                    rw [← hu] at c1
                    rw [hP.out.1] at c2
                    have k1 : (0 : Int) ≤ (i : Int) := by omega
                    have k2 : (i : Int) < (n : Int) := by have := HT.out; omega
                    obtain ⟨q, hq⟩ : ∃ q, decide (u < p) = q := ⟨_, rfl⟩
                    have LS := Lib.hid (less_is hq)
                    have HU := Lib.hid hu
                    have HQ := Lib.hid hq
                    clear hu hq
                    cases q
                    · have E1 : Hid (¬ zs.getD i 0 < p) := by show ¬ _; rw [← HU.out]; exact of_decide_eq_false HQ.out
                      go_wp2
                      go_quiet ((go_at_call 210; refine Calls.quiet_of_same (LS.out _)))
                      go_wp2
                      have hR1 := hR.out.draw nq
                      have hG1 := grown_draw hG.out nq
                      generalize wo.drewN nq = w1 at hR1 hG1 ⊢
                      have R1 := Lib.hid hR1
                      have G1 := Lib.hid hG1
                      clear hR1 hG1 hR hG c1 c2 k1 k2 LS
                      clear HU HQ p1 p1'
                      go_loopw [11] (fun y wr => ∃ j : Nat, y = .int .i64 (j : Int) ∧ i ≤ j + 1 ∧ j ≤ jt ∧ Hid (Row wr B g n cap zs) ∧ Hid (w.grownBy wr (some g)) ∧ Hid (Pm p a b i j zs)) (fun y _ => (intOf y).toNat)
                      case atStart => exact ⟨jt, rfl, by omega, by omega, R1, G1, hP⟩
                      case round =>
                        clear R1 G1 hP
                        obtain ⟨j, rfl, h3, h4, hR, hG, hP⟩ := hrel
                        obtain ⟨wo, rfl⟩ : ∃ wo : World, wo = wr := ⟨_, rfl⟩
                        by_cases hij2 : i ≤ j
                        · skip
                          have p2 : decide (i ≤ j) = true := decide_eq_true (by omega)
                          have p2' : decide ((i : Int) ≤ (j : Int)) = true := decide_eq_true (by omega)
                          obtain ⟨u, hu⟩ : ∃ u, u = zs.getD j 0 := ⟨_, rfl⟩
                          have c1 := hR.out.cell j (by have := HT.out; omega)
                          have c2 := hR.out.cell a (by have := HT.out; omega)
                          rw [← hu] at c1
                          rw [hP.out.1] at c2
                          have k1 : (0 : Int) ≤ (j : Int) := by omega
                          have k2 : (j : Int) < (n : Int) := by have := HT.out; omega
                          obtain ⟨q, hq⟩ : ∃ q, decide (u < p) = q := ⟨_, rfl⟩
                          have LS := Lib.hid (less_is hq)
                          have HU := Lib.hid hu
                          have HQ := Lib.hid hq
                          clear hu hq
                          cases q
                          · obtain ⟨j', hj'⟩ : ∃ j', j = j' + 1 := ⟨j - 1, by omega⟩
                            have HP2 : Hid (Pm p a b i j' zs) := pm_j (by rw [← hj']; exact hP.out) (by rw [← hj', ← HU.out]; exact of_decide_eq_false HQ.out)
                            have e5 : (j : Int) - 1 = (j' : Int) := by omega
                            have e6 : IntKind.i64.wrap (j' : Int) = (j' : Int) := IntWalk.i64_in _ (by have := HT.out; omega)
                            have HJ := Lib.hid hj'
                            clear hP hj'
                            go_wp2
                            go_quiet ((go_at_call 210; refine Calls.quiet_of_same (LS.out _)))
                            go_wp2
                            go_roundw
                            case rel => exact ⟨j', by go_num, by have := HJ.out; omega, by have := HJ.out; omega, hR.out.draw _, grown_draw hG.out _, HP2⟩
                            case measure => have := HJ.out; simp [intOf]; omega
                          · have hlt : zs.getD j 0 < p := by rw [← HU.out]; exact of_decide_eq_true HQ.out
                            have hne : i < j := by
                              rcases Nat.lt_or_ge i j with h | h
                              · exact h
                              · obtain rfl : i = j := by omega
                                exact absurd hlt E1.out
                            have HLT := Lib.hid hlt
                            clear hlt
                            go_wp2
                            go_quiet ((go_at_call 210; refine Calls.quiet_of_same (LS.out _)))
                            go_wp2
                            have hR1 := hR.out.draw nq
                            have hG1 := grown_draw hG.out nq
                            generalize wo.drewN nq = w1 at hR1 hG1 ⊢
                            have R1 := Lib.hid hR1
                            have G1 := Lib.hid hG1
                            clear hR1 hG1 hR hG c1 c2 k1 k2 LS
                            clear HU HQ p2 p2'
                            have q1 : decide (j < i) = false := decide_eq_false (by omega)
                            have q1' : decide ((j : Int) < (i : Int)) = false := decide_eq_false (by omega)
                            obtain ⟨j', hj'⟩ : ∃ j', j = j' + 1 := ⟨j - 1, by omega⟩
                            obtain ⟨u, hu⟩ : ∃ u, u = zs.getD i 0 := ⟨_, rfl⟩
                            obtain ⟨v, hv⟩ : ∃ v, v = zs.getD j 0 := ⟨_, rfl⟩
                            have d1 := R1.out.cell i (by have := HT.out; omega)
                            have d2 := R1.out.cell j (by have := HT.out; omega)
                            have d3 := R1.out.free i
                            have d4 := R1.out.free j
                            have d5 := R1.out.sec i j (by have := HT.out; omega) (by have := HT.out; omega)
                            rw [← hu] at d1
                            rw [← hv] at d2 d5
                            obtain ⟨d5a, d5b⟩ := d5
                            have hlen := R1.out.len
                            have mi1 : (0 : Int) ≤ (i : Int) := by omega
                            have mi2 : (i : Int) < (n : Int) := by have := HT.out; omega
                            have mj1 : (0 : Int) ≤ (j : Int) := by omega
                            have mj2 : (j : Int) < (n : Int) := by have := HT.out; omega
                            have HE : Hid (∀ N, Row (((w1.drewN N).setCell ⟨g, i, none⟩ (.int .u32 (v : Int))).setCell ⟨g, j, none⟩ (.int .u32 (u : Int))) B g n cap (ex zs i j) ∧ w.grownBy (((w1.drewN N).setCell ⟨g, i, none⟩ (.int .u32 (v : Int))).setCell ⟨g, j, none⟩ (.int .u32 (u : Int))) (some g)) := fun N => by
                              have h := (R1.out.draw N).ex i j
                              rw [← hu, ← hv] at h
                              exact ⟨h.1, grown_tr (grown_draw G1.out N) h.2⟩
                            have HS2 : Hid (Sw a b xs (ex zs i j)) := hS.out.trans (Sw.ex (by omega) (by have := HT.out; omega) (by omega) (by have := HT.out; omega) (by have := HT.out; omega))
                            have HP2 : Hid (Pm p a b (i + 1) j' (ex zs i j)) := by
                              have h := pm_swap (i := i) (j := j') (by rw [← hj']; exact hP.out) (by omega) (by omega) (by have := HT.out; omega) E1.out (by rw [← hj']; exact HLT.out)
                              rw [← hj'] at h
                              exact h
                            clear hu hv hlen
                            have e5 : (j : Int) - 1 = (j' : Int) := by omega
                            have e6 : IntKind.i64.wrap (j' : Int) = (j' : Int) := IntWalk.i64_in _ (by have := HT.out; omega)
                            have e7 : IntKind.i64.wrap ((i : Int) + 1) = (i : Int) + 1 := IntWalk.i64_in _ (by have := HT.out; omega)
                            have HJ := Lib.hid hj'
                            clear hP hj'
                            go_wp2
                            go_region
                            go_wp2
                            go_roundw
                            case rel => exact ⟨i + 1, j', _, by go_num, by go_num, by omega, by have := HJ.out; omega, by have := HJ.out; have := HT.out; omega, Lib.hid (HE.out 1).1, Lib.hid (HE.out 1).2, HS2, HP2⟩
                            case measure => have := HJ.out; simp [intOf]; omega
                        · skip
                          have p2 : decide (i ≤ j) = false := decide_eq_false (by omega)
                          have p2' : decide ((i : Int) ≤ (j : Int)) = false := decide_eq_false (by omega)
                          go_wp2
                          go_quiet (fail)
                          go_wp2
                          have hR1 := hR.out.draw nq
                          have hG1 := grown_draw hG.out nq
                          generalize wo.drewN nq = w1 at hR1 hG1 ⊢
                          have R1 := Lib.hid hR1
                          have G1 := Lib.hid hG1
                          clear hR1 hG1 hR hG
                          clear p2 p2'
                          have q1 : decide (j < i) = true := decide_eq_true (by omega)
                          have q1' : decide ((j : Int) < (i : Int)) = true := decide_eq_true (by omega)
                          obtain ⟨u, hu⟩ : ∃ u, u = zs.getD j 0 := ⟨_, rfl⟩
                          obtain ⟨v, hv⟩ : ∃ v, v = zs.getD a 0 := ⟨_, rfl⟩
                          have d1 := R1.out.cell j (by have := HT.out; omega)
                          have d2 := R1.out.cell a (by have := HT.out; omega)
                          have d3 := R1.out.free j
                          have d4 := R1.out.free a
                          have d5 := R1.out.sec j a (by have := HT.out; omega) (by have := HT.out; omega)
                          rw [← hu] at d1
                          rw [← hv] at d2 d5
                          obtain ⟨d5a, d5b⟩ := d5
                          have hlen := R1.out.len
                          have mj1 : (0 : Int) ≤ (j : Int) := by omega
                          have mj2 : (j : Int) < (n : Int) := by have := HT.out; omega
                          have ma1 : (0 : Int) ≤ (a : Int) := by omega
                          have ma2 : (a : Int) < (n : Int) := by have := HT.out; omega
                          have HE : Hid (∀ N, Row (((w1.drewN N).setCell ⟨g, j, none⟩ (.int .u32 (v : Int))).setCell ⟨g, a, none⟩ (.int .u32 (u : Int))) B g n cap (ex zs j a) ∧ w.grownBy (((w1.drewN N).setCell ⟨g, j, none⟩ (.int .u32 (v : Int))).setCell ⟨g, a, none⟩ (.int .u32 (u : Int))) (some g)) := fun N => by
                            have h := (R1.out.draw N).ex j a
                            rw [← hu, ← hv] at h
                            exact ⟨h.1, grown_tr (grown_draw G1.out N) h.2⟩
                          have HS2 : Hid (Sw a b xs (ex zs j a)) := hS.out.trans (Sw.ex (by omega) (by have := HT.out; omega) (by omega) (by have := HT.out; omega) (by have := HT.out; omega))
                          have HPT : Hid (Pt a b j (ex zs j a)) := pm_end hP.out (by omega) (by omega) (by have := HT.out; omega)
                          clear hu hv hlen
                          clear hP
                          go_wp2
                          go_region
                          go_wp2
                          go_ret2
                          exact ⟨j, false, ex zs j a, rfl, by omega, by have := HT.out; omega, (HE.out 1).1, (HE.out 1).2, HS2.out, HPT.out⟩
                    · have HP2 : Hid (Pm p a b (i + 1) jt zs) := pm_i hP.out (by rw [← HU.out]; exact of_decide_eq_true HQ.out)
                      have e5 : IntKind.i64.wrap ((i : Int) + 1) = (i : Int) + 1 := IntWalk.i64_in _ (by have := HT.out; omega)
                      clear hP
                      go_wp2
                      go_quiet ((go_at_call 210; refine Calls.quiet_of_same (LS.out _)))
                      go_wp2
                      go_roundw
                      case rel => exact ⟨i + 1, by go_num, by omega, by omega, hR.out.draw _, grown_draw hG.out _, HP2⟩
                      case measure => simp [intOf]; omega
                  · skip
                    have p1 : decide (i ≤ jt) = false := decide_eq_false (by omega)
                    have p1' : decide ((i : Int) ≤ (jt : Int)) = false := decide_eq_false (by omega)
                    go_wp2
                    go_quiet (fail)
                    go_wp2
                    have hR1 := hR.out.draw nq
                    have hG1 := grown_draw hG.out nq
                    generalize wo.drewN nq = w1 at hR1 hG1 ⊢
                    have R1 := Lib.hid hR1
                    have G1 := Lib.hid hG1
                    clear hR1 hG1 hR hG
                    obtain ⟨w2, rfl⟩ : ∃ w2 : World, w2 = w1 := ⟨_, rfl⟩
                    go_loopw [11] (fun y wr => y = .int .i64 (jt : Int) ∧ wr = w2) (fun _ _ => 0)
                    case atStart => exact ⟨rfl, rfl⟩
                    case round =>
                      obtain ⟨rfl, rfl⟩ := hrel
                      obtain ⟨wo, rfl⟩ : ∃ wo : World, wo = wr := ⟨_, rfl⟩
                      have hR := R1
                      have hG := G1
                      clear R1 G1
                      go_wp2
                      go_quiet (fail)
                      go_wp2
                      have hR1 := hR.out.draw nq
                      have hG1 := grown_draw hG.out nq
                      generalize wo.drewN nq = w1 at hR1 hG1 ⊢
                      have R1 := Lib.hid hR1
                      have G1 := Lib.hid hG1
                      clear hR1 hG1 hR hG
                      clear p1 p1'
                      obtain ⟨j, rfl⟩ : ∃ j, j = jt := ⟨_, rfl⟩
                      have q1 : decide (j < i) = true := decide_eq_true (by omega)
                      have q1' : decide ((j : Int) < (i : Int)) = true := decide_eq_true (by omega)
                      obtain ⟨u, hu⟩ : ∃ u, u = zs.getD j 0 := ⟨_, rfl⟩
                      obtain ⟨v, hv⟩ : ∃ v, v = zs.getD a 0 := ⟨_, rfl⟩
                      have d1 := R1.out.cell j (by have := HT.out; omega)
                      have d2 := R1.out.cell a (by have := HT.out; omega)
                      have d3 := R1.out.free j
                      have d4 := R1.out.free a
                      have d5 := R1.out.sec j a (by have := HT.out; omega) (by have := HT.out; omega)
                      rw [← hu] at d1
                      rw [← hv] at d2 d5
                      obtain ⟨d5a, d5b⟩ := d5
                      have hlen := R1.out.len
                      have mj1 : (0 : Int) ≤ (j : Int) := by omega
                      have mj2 : (j : Int) < (n : Int) := by have := HT.out; omega
                      have ma1 : (0 : Int) ≤ (a : Int) := by omega
                      have ma2 : (a : Int) < (n : Int) := by have := HT.out; omega
                      have HE : Hid (∀ N, Row (((w1.drewN N).setCell ⟨g, j, none⟩ (.int .u32 (v : Int))).setCell ⟨g, a, none⟩ (.int .u32 (u : Int))) B g n cap (ex zs j a) ∧ w.grownBy (((w1.drewN N).setCell ⟨g, j, none⟩ (.int .u32 (v : Int))).setCell ⟨g, a, none⟩ (.int .u32 (u : Int))) (some g)) := fun N => by
                        have h := (R1.out.draw N).ex j a
                        rw [← hu, ← hv] at h
                        exact ⟨h.1, grown_tr (grown_draw G1.out N) h.2⟩
                      have HS2 : Hid (Sw a b xs (ex zs j a)) := hS.out.trans (Sw.ex (by omega) (by have := HT.out; omega) (by omega) (by have := HT.out; omega) (by have := HT.out; omega))
                      have HPT : Hid (Pt a b j (ex zs j a)) := pm_end hP.out (by omega) (by omega) (by have := HT.out; omega)
                      clear hu hv hlen
                      clear hP
                      go_wp2
                      go_region
                      go_wp2
                      go_ret2
                      exact ⟨j, false, ex zs j a, rfl, by omega, by have := HT.out; omega, (HE.out 1).1, (HE.out 1).2, HS2.out, HPT.out⟩
          · skip
            have p2 : decide (i ≤ j) = false := decide_eq_false (by omega)
            have p2' : decide ((i : Int) ≤ (j : Int)) = false := decide_eq_false (by omega)
            go_wp2
            go_quiet (fail)
            go_wp2
            have hR1 := hR.out.draw nq
            have hG1 := grown_draw hG.out nq
            generalize wo.drewN nq = w1 at hR1 hG1 ⊢
            have R1 := Lib.hid hR1
            have G1 := Lib.hid hG1
            clear hR1 hG1 hR hG
            clear p2 p2'
            have q1 : decide (j < i) = true := decide_eq_true (by omega)
            have q1' : decide ((j : Int) < (i : Int)) = true := decide_eq_true (by omega)
            obtain ⟨u, hu⟩ : ∃ u, u = Z.getD j 0 := ⟨_, rfl⟩
            obtain ⟨v, hv⟩ : ∃ v, v = Z.getD a 0 := ⟨_, rfl⟩
            have d1 := R1.out.cell j (by have := HT.out; omega)
            have d2 := R1.out.cell a (by have := HT.out; omega)
            have d3 := R1.out.free j
            have d4 := R1.out.free a
            have d5 := R1.out.sec j a (by have := HT.out; omega) (by have := HT.out; omega)
            rw [← hu] at d1
            rw [← hv] at d2 d5
            obtain ⟨d5a, d5b⟩ := d5
            have hlen := R1.out.len
            have mj1 : (0 : Int) ≤ (j : Int) := by omega
            have mj2 : (j : Int) < (n : Int) := by have := HT.out; omega
            have ma1 : (0 : Int) ≤ (a : Int) := by omega
            have ma2 : (a : Int) < (n : Int) := by have := HT.out; omega
            have HE : Hid (∀ N, Row (((w1.drewN N).setCell ⟨g, j, none⟩ (.int .u32 (v : Int))).setCell ⟨g, a, none⟩ (.int .u32 (u : Int))) B g n cap (ex Z j a) ∧ w.grownBy (((w1.drewN N).setCell ⟨g, j, none⟩ (.int .u32 (v : Int))).setCell ⟨g, a, none⟩ (.int .u32 (u : Int))) (some g)) := fun N => by
              have h := (R1.out.draw N).ex j a
              rw [← hu, ← hv] at h
              exact ⟨h.1, grown_tr (grown_draw G1.out N) h.2⟩
            have HS2 : Hid (Sw a b xs (ex Z j a)) := S0.out.trans (Sw.ex (by omega) (by have := HT.out; omega) (by omega) (by have := HT.out; omega) (by have := HT.out; omega))
            have HPT : Hid (Pt a b j (ex Z j a)) := pm_end hP.out (by omega) (by omega) (by have := HT.out; omega)
            clear hu hv hlen
            clear hP
            go_wp2
            go_region
            go_wp2
            go_ret2
            exact ⟨j, true, ex Z j a, rfl, by omega, by have := HT.out; omega, (HE.out 1).1, (HE.out 1).2, HS2.out, HPT.out⟩
      · have HP2 : Hid (Pm p a b (i + 1) t Z) := pm_i hP.out (by rw [← HU.out]; exact of_decide_eq_true HQ.out)
        have e5 : IntKind.i64.wrap ((i : Int) + 1) = (i : Int) + 1 := IntWalk.i64_in _ (by have := HT.out; omega)
        clear hP
        go_wp2
        go_quiet ((go_at_call 210; refine Calls.quiet_of_same (LS.out _)))
        go_wp2
        go_roundw
        case rel => exact ⟨i + 1, by go_num, by omega, by omega, hR.out.draw _, grown_draw hG.out _, HP2⟩
        case measure => simp [intOf]; omega
    · skip
      have p1 : decide (i ≤ t) = false := decide_eq_false (by omega)
      have p1' : decide ((i : Int) ≤ (t : Int)) = false := decide_eq_false (by omega)
      go_wp2
      go_quiet (fail)
      go_wp2
      have hR1 := hR.out.draw nq
      have hG1 := grown_draw hG.out nq
      generalize wo.drewN nq = w1 at hR1 hG1 ⊢
      have R1 := Lib.hid hR1
      have G1 := Lib.hid hG1
      clear hR1 hG1 hR hG
      obtain ⟨w2, rfl⟩ : ∃ w2 : World, w2 = w1 := ⟨_, rfl⟩
      go_loopw [11] (fun y wr => y = .int .i64 (t : Int) ∧ wr = w2) (fun _ _ => 0)
      case atStart => exact ⟨rfl, rfl⟩
      case round =>
        obtain ⟨rfl, rfl⟩ := hrel
        obtain ⟨wo, rfl⟩ : ∃ wo : World, wo = wr := ⟨_, rfl⟩
        have hR := R1
        have hG := G1
        clear R1 G1
        go_wp2
        go_quiet (fail)
        go_wp2
        have hR1 := hR.out.draw nq
        have hG1 := grown_draw hG.out nq
        generalize wo.drewN nq = w1 at hR1 hG1 ⊢
        have R1 := Lib.hid hR1
        have G1 := Lib.hid hG1
        clear hR1 hG1 hR hG
        clear p1 p1'
        obtain ⟨j, rfl⟩ : ∃ j, j = t := ⟨_, rfl⟩
        have q1 : decide (j < i) = true := decide_eq_true (by omega)
        have q1' : decide ((j : Int) < (i : Int)) = true := decide_eq_true (by omega)
        obtain ⟨u, hu⟩ : ∃ u, u = Z.getD j 0 := ⟨_, rfl⟩
        obtain ⟨v, hv⟩ : ∃ v, v = Z.getD a 0 := ⟨_, rfl⟩
        have d1 := R1.out.cell j (by have := HT.out; omega)
        have d2 := R1.out.cell a (by have := HT.out; omega)
        have d3 := R1.out.free j
        have d4 := R1.out.free a
        have d5 := R1.out.sec j a (by have := HT.out; omega) (by have := HT.out; omega)
        rw [← hu] at d1
        rw [← hv] at d2 d5
        obtain ⟨d5a, d5b⟩ := d5
        have hlen := R1.out.len
        have mj1 : (0 : Int) ≤ (j : Int) := by omega
        have mj2 : (j : Int) < (n : Int) := by have := HT.out; omega
        have ma1 : (0 : Int) ≤ (a : Int) := by omega
        have ma2 : (a : Int) < (n : Int) := by have := HT.out; omega
        have HE : Hid (∀ N, Row (((w1.drewN N).setCell ⟨g, j, none⟩ (.int .u32 (v : Int))).setCell ⟨g, a, none⟩ (.int .u32 (u : Int))) B g n cap (ex Z j a) ∧ w.grownBy (((w1.drewN N).setCell ⟨g, j, none⟩ (.int .u32 (v : Int))).setCell ⟨g, a, none⟩ (.int .u32 (u : Int))) (some g)) := fun N => by
          have h := (R1.out.draw N).ex j a
          rw [← hu, ← hv] at h
          exact ⟨h.1, grown_tr (grown_draw G1.out N) h.2⟩
        have HS2 : Hid (Sw a b xs (ex Z j a)) := S0.out.trans (Sw.ex (by omega) (by have := HT.out; omega) (by omega) (by have := HT.out; omega) (by have := HT.out; omega))
        have HPT : Hid (Pt a b j (ex Z j a)) := pm_end hP.out (by omega) (by omega) (by have := HT.out; omega)
        clear hu hv hlen
        clear hP
        go_wp2
        go_region
        go_wp2
        go_ret2
        exact ⟨j, true, ex Z j a, rfl, by omega, by have := HT.out; omega, (HE.out 1).1, (HE.out 1).2, HS2.out, HPT.out⟩
end Go.Proofs.YtgjbnbojjgbmcaaGreat.Srt

namespace Go.Proofs.YtgjbnbojjgbmcaaGreat.Srt
open Go.RowKit
attribute [local go_sem ↓] Go.wp_at_zero Go.wp_at_succ
/-- Below i none greater than p, above j all are; p stands at a. -/
def Qm (p a b i j : Nat) (zs : List Nat) : Prop := zs.getD a 0 = p ∧ (∀ k, a < k → k < i → zs.getD k 0 ≤ p) ∧ (∀ k, j < k → k < b → p < zs.getD k 0)
theorem qm_i {p a b i j : Nat} {zs : List Nat} (h : Qm p a b i j zs) (hi : ¬ p < zs.getD i 0) : Qm p a b (i + 1) j zs :=
  ⟨h.1, fun k h1 h2 => by rcases Nat.lt_or_ge k i with h3 | h3
                          · exact h.2.1 k h1 h3
                          · obtain rfl : k = i := by omega
                            omega, h.2.2⟩
theorem qm_j {p a b i j : Nat} {zs : List Nat} (h : Qm p a b i (j + 1) zs) (hj : p < zs.getD (j + 1) 0) : Qm p a b i j zs :=
  ⟨h.1, h.2.1, fun k h1 h2 => by rcases Nat.lt_or_ge (j + 1) k with h3 | h3
                                 · exact h.2.2 k h3 h2
                                 · obtain rfl : k = j + 1 := by omega
                                   exact hj⟩
theorem qm_swap {p a b i j : Nat} {zs : List Nat} (h : Qm p a b i (j + 1) zs) (hai : a < i) (hij : i < j + 1) (hjn : j + 1 < zs.length) (hi : p < zs.getD i 0) (hj : ¬ p < zs.getD (j + 1) 0) : Qm p a b (i + 1) j (ex zs i (j + 1)) := by
  refine ⟨?_, fun k h1 h2 => ?_, fun k h1 h2 => ?_⟩
  · rw [ex_get (by omega) hjn, if_neg (by omega), if_neg (by omega)]; exact h.1
  · rw [ex_get (by omega) hjn, if_neg (by omega)]
    split
    · omega
    · exact h.2.1 k h1 (by omega)
  · rw [ex_get (by omega) hjn]
    split
    · exact hi
    · rw [if_neg (by omega)]; exact h.2.2 k (by omega) h2
set_option maxRecDepth 100000 in
set_option maxHeartbeats 8000000 in
theorem partEq_any {B g n cap a b pv : Nat} {xs : List Nat} {w : World} (hr : Row w B g n cap xs) (hab : a < b) (hb : b ≤ n) (hn : n ≤ 1000000) (hp1 : a ≤ pv) (hp2 : pv < b) :
    Calls Tryz.prog 211 #[.slice (some ⟨g, 0, none⟩) n cap, .int .i64 (a : Int), .int .i64 (b : Int), .int .i64 (pv : Int)] w fun e w' => ∃ (mid : Nat) (ys : List Nat), e = .returned (.int .i64 (mid : Int)) ∧
      a < mid ∧ mid ≤ b ∧ Row w' B g n cap ys ∧ w.grownBy w' (some g) ∧ Sw a b xs ys ∧ ys.getD a 0 = xs.getD pv 0 ∧ (∀ k, a < k → k < mid → ys.getD k 0 ≤ xs.getD pv 0) ∧ (∀ k, mid ≤ k → k < b → xs.getD pv 0 < ys.getD k 0) := by
  obtain ⟨t, ht⟩ : ∃ t, b = t + 1 := ⟨b - 1, by omega⟩
  have e1 : (b : Int) - 1 = (t : Int) := by omega
  have e2 : IntKind.i64.wrap (t : Int) = (t : Int) := IntWalk.i64_in _ (by omega)
  have e3 : IntKind.i64.wrap ((a : Int) + 1) = (a : Int) + 1 := IntWalk.i64_in _ (by omega)
  have hlen := hr.len
  obtain ⟨x, hx⟩ : ∃ x, x = xs.getD a 0 := ⟨_, rfl⟩
  obtain ⟨p, hp⟩ : ∃ p, p = xs.getD pv 0 := ⟨_, rfl⟩
  rw [← hp]
  have c1 := hr.cell a (by omega)
  have c2 := hr.cell pv (by omega)
  have f1 := hr.free a
  have f2 := hr.free pv
  have s1 := hr.sec a pv (by omega) (by omega)
  rw [← hx] at c1
  rw [← hp] at c2 s1
  obtain ⟨s1a, s1b⟩ := s1
  have HE : Hid (∀ N, Row (((w.drewN N).setCell ⟨g, a, none⟩ (.int .u32 (p : Int))).setCell ⟨g, pv, none⟩ (.int .u32 (x : Int))) B g n cap (ex xs a pv) ∧ w.grownBy (((w.drewN N).setCell ⟨g, a, none⟩ (.int .u32 (p : Int))).setCell ⟨g, pv, none⟩ (.int .u32 (x : Int))) (some g)) := fun N => by
    have h := (hr.draw N).ex a pv
    rw [← hx, ← hp] at h
    exact ⟨h.1, grown_tr (grown_draw (World.grownBy.refl w _) N) h.2⟩
  have S0 : Hid (Sw a b xs (ex xs a pv)) := Sw.ex (by omega) (by omega) (by omega) (by omega) (by omega)
  have P0 : Hid (Qm p a b (a + 1) t (ex xs a pv)) := by
    refine ⟨?_, fun k h1 h2 => by omega, fun k h1 h2 => by omega⟩
    rw [ex_get (by omega) (by omega)]
    split
    · rename_i e; rw [e, hp]
    · rw [if_pos rfl, hp]
  have HT : Hid (b = t + 1 ∧ a < b ∧ b ≤ n ∧ n ≤ 1000000) := by show _ ∧ _; omega
  have i1 : (0 : Int) ≤ (a : Int) := by omega
  have i2 : (a : Int) < (n : Int) := by omega
  have i3 : (0 : Int) ≤ (pv : Int) := by omega
  have i4 : (pv : Int) < (n : Int) := by omega
  clear hr hx hp ht hp1 hp2 hlen hab hb hn
  go_enter Tryz.func211, Tryz.ntmps211
  go_wp2
  go_region
  obtain ⟨W1, hW1⟩ : ∃ W, W = ((w.setCell ⟨g, a, none⟩ (.int .u32 (p : Int))).setCell ⟨g, pv, none⟩ (.int .u32 (x : Int))).drew := ⟨_, rfl⟩
  rw [← hW1]
  have R1 : Hid (Row W1 B g n cap (ex xs a pv)) := by rw [hW1]; exact (HE.out 1).1
  have G1 : Hid (w.grownBy W1 (some g)) := by rw [hW1]; exact (HE.out 1).2
  clear hW1 HE c1 c2 f1 f2 s1a s1b
  go_wp2
  obtain ⟨Z, hZ⟩ : ∃ Z, Z = ex xs a pv := ⟨_, rfl⟩
  rw [← hZ] at R1 S0 P0
  clear hZ
  go_loopw [9, 10] (fun x y wr => ∃ (i j : Nat) (zs : List Nat), x = .int .i64 (i : Int) ∧ y = .int .i64 (j : Int) ∧ a + 1 ≤ i ∧ i ≤ j + 1 ∧ j < b ∧ Hid (Row wr B g n cap zs) ∧ Hid (w.grownBy wr (some g)) ∧ Hid (Sw a b xs zs) ∧ Hid (Qm p a b i j zs)) (fun x y _ => (intOf y).toNat)
  case atStart => exact ⟨a + 1, t, Z, by go_num, by go_num, by omega, by have := HT.out; omega, by have := HT.out; omega, R1, G1, S0, P0⟩
  case round =>
    clear R1 G1 S0 P0
    obtain ⟨i0, jt, zs, rfl, rfl, g1, g2, g3, hR, hG, hS, hP⟩ := hrel
    obtain ⟨wq, rfl⟩ : ∃ wq : World, wq = wr := ⟨_, rfl⟩
    go_wp2
    go_loopw [9] (fun x wr => ∃ i : Nat, x = .int .i64 (i : Int) ∧ a + 1 ≤ i ∧ i ≤ jt + 1 ∧ Hid (Row wr B g n cap zs) ∧ Hid (w.grownBy wr (some g)) ∧ Hid (Qm p a b i jt zs)) (fun x _ => jt + 1 - (intOf x).toNat)
    case atStart => exact ⟨i0, by go_num, by omega, by have := HT.out; omega, hR, hG, hP⟩
    case round =>
      clear hR hG hP
      obtain ⟨i, rfl, h1, h2, hR, hG, hP⟩ := hrel
      obtain ⟨wo, rfl⟩ : ∃ wo : World, wo = wr := ⟨_, rfl⟩
      by_cases hij : i ≤ jt
      · skip
        have p1 : decide (i ≤ jt) = true := decide_eq_true (by omega)
        have p1' : decide ((i : Int) ≤ (jt : Int)) = true := decide_eq_true (by omega)
        obtain ⟨u, hu⟩ : ∃ u, u = zs.getD i 0 := ⟨_, rfl⟩
        have c1 := hR.out.cell i (by have := HT.out; omega)
        have c2 := hR.out.cell a (by have := HT.out; omega)
        rw [← hu] at c1
        rw [hP.out.1] at c2
        have k1 : (0 : Int) ≤ (i : Int) := by omega
        have k2 : (i : Int) < (n : Int) := by have := HT.out; omega
        obtain ⟨q, hq⟩ : ∃ q, decide (p < u) = q := ⟨_, rfl⟩
        have LS := Lib.hid (less_is hq)
        have HU := Lib.hid hu
        have HQ := Lib.hid hq
        clear hu hq
        cases q
        · have HP2 : Hid (Qm p a b (i + 1) jt zs) := qm_i hP.out (by rw [← HU.out]; exact of_decide_eq_false HQ.out)
          have e5 : IntKind.i64.wrap ((i : Int) + 1) = (i : Int) + 1 := IntWalk.i64_in _ (by have := HT.out; omega)
          clear hP
          go_wp2
          go_quiet ((go_at_call 210; refine Calls.quiet_of_same (LS.out _)))
          go_wp2
          go_roundw
          case rel => exact ⟨i + 1, by go_num, by omega, by omega, hR.out.draw _, grown_draw hG.out _, HP2⟩
          case measure => simp [intOf]; omega
        · have E1 : Hid (p < zs.getD i 0) := by show _ < _; rw [← HU.out]; exact of_decide_eq_true HQ.out
          go_wp2
          go_quiet ((go_at_call 210; refine Calls.quiet_of_same (LS.out _)))
          go_wp2
          have hR1 := hR.out.draw nq
          have hG1 := grown_draw hG.out nq
          generalize wo.drewN nq = w1 at hR1 hG1 ⊢
          have R1 := Lib.hid hR1
          have G1 := Lib.hid hG1
          clear hR1 hG1 hR hG c1 c2 k1 k2 LS
          clear HU HQ p1 p1'
          go_loopw [10] (fun y wr => ∃ j : Nat, y = .int .i64 (j : Int) ∧ i ≤ j + 1 ∧ j ≤ jt ∧ Hid (Row wr B g n cap zs) ∧ Hid (w.grownBy wr (some g)) ∧ Hid (Qm p a b i j zs)) (fun y _ => (intOf y).toNat)
          case atStart => exact ⟨jt, rfl, by omega, by omega, R1, G1, hP⟩
          case round =>
            clear R1 G1 hP
            obtain ⟨j, rfl, h3, h4, hR, hG, hP⟩ := hrel
            obtain ⟨wo, rfl⟩ : ∃ wo : World, wo = wr := ⟨_, rfl⟩
            by_cases hij2 : i ≤ j
            · skip
              have p2 : decide (i ≤ j) = true := decide_eq_true (by omega)
              have p2' : decide ((i : Int) ≤ (j : Int)) = true := decide_eq_true (by omega)
              obtain ⟨u, hu⟩ : ∃ u, u = zs.getD j 0 := ⟨_, rfl⟩
              have c1 := hR.out.cell j (by have := HT.out; omega)
              have c2 := hR.out.cell a (by have := HT.out; omega)
              rw [← hu] at c1
              rw [hP.out.1] at c2
              have k1 : (0 : Int) ≤ (j : Int) := by omega
              have k2 : (j : Int) < (n : Int) := by have := HT.out; omega
              obtain ⟨q, hq⟩ : ∃ q, decide (p < u) = q := ⟨_, rfl⟩
              have LS := Lib.hid (less_is hq)
              have HU := Lib.hid hu
              have HQ := Lib.hid hq
              clear hu hq
              cases q
              · have hlt : ¬ p < zs.getD j 0 := by rw [← HU.out]; exact of_decide_eq_false HQ.out
                have hne : i < j := by
                  rcases Nat.lt_or_ge i j with h | h
                  · exact h
                  · obtain rfl : i = j := by omega
                    exact absurd E1.out hlt
                have HLT := Lib.hid hlt
                clear hlt
                go_wp2
                go_quiet ((go_at_call 210; refine Calls.quiet_of_same (LS.out _)))
                go_wp2
                have hR1 := hR.out.draw nq
                have hG1 := grown_draw hG.out nq
                generalize wo.drewN nq = w1 at hR1 hG1 ⊢
                have R1 := Lib.hid hR1
                have G1 := Lib.hid hG1
                clear hR1 hG1 hR hG c1 c2 k1 k2 LS
                clear HU HQ p2 p2'
                have q1 : decide (j < i) = false := decide_eq_false (by omega)
                have q1' : decide ((j : Int) < (i : Int)) = false := decide_eq_false (by omega)
                obtain ⟨j', hj'⟩ : ∃ j', j = j' + 1 := ⟨j - 1, by omega⟩
                obtain ⟨u, hu⟩ : ∃ u, u = zs.getD i 0 := ⟨_, rfl⟩
                obtain ⟨v, hv⟩ : ∃ v, v = zs.getD j 0 := ⟨_, rfl⟩
                have d1 := R1.out.cell i (by have := HT.out; omega)
                have d2 := R1.out.cell j (by have := HT.out; omega)
                have d3 := R1.out.free i
                have d4 := R1.out.free j
                have d5 := R1.out.sec i j (by have := HT.out; omega) (by have := HT.out; omega)
                rw [← hu] at d1
                rw [← hv] at d2 d5
                obtain ⟨d5a, d5b⟩ := d5
                have hlen := R1.out.len
                have mi1 : (0 : Int) ≤ (i : Int) := by omega
                have mi2 : (i : Int) < (n : Int) := by have := HT.out; omega
                have mj1 : (0 : Int) ≤ (j : Int) := by omega
                have mj2 : (j : Int) < (n : Int) := by have := HT.out; omega
                have HE : Hid (∀ N, Row (((w1.drewN N).setCell ⟨g, i, none⟩ (.int .u32 (v : Int))).setCell ⟨g, j, none⟩ (.int .u32 (u : Int))) B g n cap (ex zs i j) ∧ w.grownBy (((w1.drewN N).setCell ⟨g, i, none⟩ (.int .u32 (v : Int))).setCell ⟨g, j, none⟩ (.int .u32 (u : Int))) (some g)) := fun N => by
                  have h := (R1.out.draw N).ex i j
                  rw [← hu, ← hv] at h
                  exact ⟨h.1, grown_tr (grown_draw G1.out N) h.2⟩
                have HS2 : Hid (Sw a b xs (ex zs i j)) := hS.out.trans (Sw.ex (by omega) (by have := HT.out; omega) (by omega) (by have := HT.out; omega) (by have := HT.out; omega))
                have HP2 : Hid (Qm p a b (i + 1) j' (ex zs i j)) := by
                  have h := qm_swap (i := i) (j := j') (by rw [← hj']; exact hP.out) (by omega) (by omega) (by have := HT.out; omega) E1.out (by rw [← hj']; exact HLT.out)
                  rw [← hj'] at h
                  exact h
                clear hu hv hlen
                have e5 : (j : Int) - 1 = (j' : Int) := by omega
                have e6 : IntKind.i64.wrap (j' : Int) = (j' : Int) := IntWalk.i64_in _ (by have := HT.out; omega)
                have e7 : IntKind.i64.wrap ((i : Int) + 1) = (i : Int) + 1 := IntWalk.i64_in _ (by have := HT.out; omega)
                have HJ := Lib.hid hj'
                clear hP hj'
                go_wp2
                go_region
                go_wp2
                go_roundw
                case rel => exact ⟨i + 1, j', _, by go_num, by go_num, by omega, by have := HJ.out; omega, by have := HJ.out; have := HT.out; omega, Lib.hid (HE.out 1).1, Lib.hid (HE.out 1).2, HS2, HP2⟩
                case measure => have := HJ.out; simp [intOf]; omega
              · obtain ⟨j', hj'⟩ : ∃ j', j = j' + 1 := ⟨j - 1, by omega⟩
                have HP2 : Hid (Qm p a b i j' zs) := qm_j (by rw [← hj']; exact hP.out) (by rw [← hj', ← HU.out]; exact of_decide_eq_true HQ.out)
                have e5 : (j : Int) - 1 = (j' : Int) := by omega
                have e6 : IntKind.i64.wrap (j' : Int) = (j' : Int) := IntWalk.i64_in _ (by have := HT.out; omega)
                have HJ := Lib.hid hj'
                clear hP hj'
                go_wp2
                go_quiet ((go_at_call 210; refine Calls.quiet_of_same (LS.out _)))
                go_wp2
                go_roundw
                case rel => exact ⟨j', by go_num, by have := HJ.out; omega, by have := HJ.out; omega, hR.out.draw _, grown_draw hG.out _, HP2⟩
                case measure => have := HJ.out; simp [intOf]; omega
            · skip
              have p2 : decide (i ≤ j) = false := decide_eq_false (by omega)
              have p2' : decide ((i : Int) ≤ (j : Int)) = false := decide_eq_false (by omega)
              go_wp2
              go_quiet (fail)
              go_wp2
              have hR1 := hR.out.draw nq
              have hG1 := grown_draw hG.out nq
              generalize wo.drewN nq = w1 at hR1 hG1 ⊢
              have R1 := Lib.hid hR1
              have G1 := Lib.hid hG1
              clear hR1 hG1 hR hG
              clear p2 p2'
              have q1 : decide (j < i) = true := decide_eq_true (by omega)
              have q1' : decide ((j : Int) < (i : Int)) = true := decide_eq_true (by omega)
              have hP' := hP.out
              clear hP
              go_wp2
              go_ret
              exact ⟨i, zs, rfl, by omega, by have := HT.out; omega, R1.out, G1.out, hS.out, hP'.1, hP'.2.1, fun k h1 h2 => hP'.2.2 k (by omega) h2⟩
      · skip
        have p1 : decide (i ≤ jt) = false := decide_eq_false (by omega)
        have p1' : decide ((i : Int) ≤ (jt : Int)) = false := decide_eq_false (by omega)
        go_wp2
        go_quiet (fail)
        go_wp2
        have hR1 := hR.out.draw nq
        have hG1 := grown_draw hG.out nq
        generalize wo.drewN nq = w1 at hR1 hG1 ⊢
        have R1 := Lib.hid hR1
        have G1 := Lib.hid hG1
        clear hR1 hG1 hR hG
        obtain ⟨w2, rfl⟩ : ∃ w2 : World, w2 = w1 := ⟨_, rfl⟩
        go_loopw [10] (fun y wr => y = .int .i64 (jt : Int) ∧ wr = w2) (fun _ _ => 0)
        case atStart => exact ⟨rfl, rfl⟩
        case round =>
          obtain ⟨rfl, rfl⟩ := hrel
          obtain ⟨wo, rfl⟩ : ∃ wo : World, wo = wr := ⟨_, rfl⟩
          have hR := R1
          have hG := G1
          clear R1 G1
          go_wp2
          go_quiet (fail)
          go_wp2
          have hR1 := hR.out.draw nq
          have hG1 := grown_draw hG.out nq
          generalize wo.drewN nq = w1 at hR1 hG1 ⊢
          have R1 := Lib.hid hR1
          have G1 := Lib.hid hG1
          clear hR1 hG1 hR hG
          clear p1 p1'
          obtain ⟨j, rfl⟩ : ∃ j, j = jt := ⟨_, rfl⟩
          have q1 : decide (j < i) = true := decide_eq_true (by omega)
          have q1' : decide ((j : Int) < (i : Int)) = true := decide_eq_true (by omega)
          have hP' := hP.out
          clear hP
          go_wp2
          go_ret
          exact ⟨i, zs, rfl, by omega, by have := HT.out; omega, R1.out, G1.out, hS.out, hP'.1, hP'.2.1, fun k h1 h2 => hP'.2.2 k (by omega) h2⟩
end Go.Proofs.YtgjbnbojjgbmcaaGreat.Srt
