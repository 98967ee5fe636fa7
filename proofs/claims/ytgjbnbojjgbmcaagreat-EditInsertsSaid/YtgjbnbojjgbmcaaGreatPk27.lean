/- slices.partialInsertionSortOrdered over 32-bit numbers: what it answers true of is in order. Conditions: the row is the call's own; what stands ahead of the range is no greater than any in it. slices: order2, median, medianAdjacent, choosePivot over 32-bit numbers: a place in the range; the row stays as it was. Conditions: the row is the call's own. -/
import Derived.Test.YtgjbnbojjgbmcaaGreatChecked
import Derived.WalkKit
import Derived.WalkSpells
import Derived.WalkLawsBesides
import Derived.Laws.BytesArg
import Derived.Lib.Hide
import Derived.Deep.LoopGhost
import Derived.Laws.AppendOwnNone
import Derived.Laws.OwnMore
import Derived.WideShapes
import Derived.RegionTactic
import Derived.Deep.DrawnRows
import Derived.Deep.QuietTactic
import Derived.BigQuiet
import Derived.Deep.DeepCutAuto
import Derived.IntWalk
import Derived.Deep.RegionHeld3
import Derived.Test.YtgjbnbojjgbmcaaGreatPk25
import Derived.Test.YtgjbnbojjgbmcaaGreatPk01
import Derived.Test.YtgjbnbojjgbmcaaGreatPk15
import Derived.Test.YtgjbnbojjgbmcaaGreatPk16
import Derived.Test.YtgjbnbojjgbmcaaGreatPk20

namespace Go.Proofs.YtgjbnbojjgbmcaaGreat.Srt
open Go.RowKit
attribute [local go_sem ↓] Go.wp_at_zero Go.wp_at_succ
/-- What stands ahead of the range is no greater than any in it. -/
def Pre (a b : Nat) (xs : List Nat) : Prop := 0 < a → ∀ k, a ≤ k → k < b → xs.getD (a - 1) 0 ≤ xs.getD k 0
theorem Pre.keep {a b : Nat} {xs ys : List Nat} (h : Pre a b xs) (s : Sw a b xs ys) : Pre a b ys := fun ha k h1 h2 => by
  rw [s.out (a - 1) (.inl (by omega))]
  exact s.all (P := fun v => xs.getD (a - 1) 0 ≤ v) (fun i i1 i2 => h ha i i1 i2) k h1 h2
/-- A bool, and a row that is in order if it is true. -/
def PartI (B g n cap a b : Nat) (xs : List Nat) (w : World) (e : Ending) (w' : World) : Prop :=
  ∃ (q : Bool) (ys : List Nat), e = .returned (.bool q) ∧ Row w' B g n cap ys ∧ w.grownBy w' (some g) ∧ Sw a b xs ys ∧ (q = true → Inc a b ys)
theorem inc_less {a b c : Nat} {xs : List Nat} (h : Inc a b xs) (hc : c ≤ b) : Inc a c xs := fun i j h1 h2 h3 => h i j h1 h2 (by omega)
theorem inc_ex {a k : Nat} {xs : List Nat} (h : Inc a k xs) {i j : Nat} (hi : k ≤ i) (hj : k ≤ j) (h1 : i < xs.length) (h2 : j < xs.length) : Inc a k (ex xs i j) :=
  inc_same h (fun p _ p2 => by rw [ex_get h1 h2, if_neg (by omega), if_neg (by omega)])
set_option maxRecDepth 100000 in
set_option maxHeartbeats 16000000 in
theorem partial_any {B g n cap a b : Nat} {xs : List Nat} {w : World} (hr : Row w B g n cap xs) (hp : Pre a b xs) (hab : a + 12 < b) (hb : b ≤ n) (hn : n ≤ 1000000) :
    Calls Tryz.prog 209 #[.slice (some ⟨g, 0, none⟩) n cap, .int .i64 (a : Int), .int .i64 (b : Int)] w (PartI B g n cap a b xs w) := by
  have HR := Lib.hid hr
  have HP := Lib.hid hp
  have G0 := Lib.hid (World.grownBy.refl w (some g))
  have S0 := Lib.hid (Sw.refl a b xs)
  have I0 := Lib.hid (inc_one (a := a) (b := a + 1) (xs := xs) (Nat.le_refl _))
  have e0 : IntKind.i64.wrap ((a : Int) + 1) = (a : Int) + 1 := IntWalk.i64_in _ (by omega)
  obtain ⟨len, hlen⟩ : ∃ len, len = b - a := ⟨_, rfl⟩
  have el : (b : Int) - (a : Int) = (len : Int) := by omega
  have el2 : IntKind.i64.wrap (len : Int) = (len : Int) := IntWalk.i64_in _ (by omega)
  have HLen := Lib.hid hlen
  have HEl := Lib.hid (And.intro el el2)
  have HT : Hid (a + 12 < b ∧ b ≤ n ∧ n ≤ 1000000) := by show _ ∧ _; omega
  clear hr hp hlen el el2
  go_enter Tryz.func209, Tryz.ntmps209
  go_wp2
  go_loopw [7, 8] (fun i t wr => ∃ (k y : Nat) (ys : List Nat), a + 1 ≤ k ∧ k ≤ b ∧ y ≤ 5 ∧ i = .int .i64 (k : Int) ∧ t = .int .i64 (y : Int) ∧ Hid (Row wr B g n cap ys) ∧ Hid (w.grownBy wr (some g)) ∧ Hid (Sw a b xs ys) ∧ Hid (Inc a k ys)) (fun _ t _ => 5 - (intOf t).toNat)
  case atStart => exact ⟨a + 1, 0, xs, by omega, by omega, by omega, by go_num, rfl, HR, G0, S0, I0⟩
  case round =>
    clear HR G0 S0 I0 e0
    obtain ⟨k0, y, ys, hk1, hk2, hy, rfl, rfl, hR, hG, hS, hI⟩ := hrel
    by_cases hy5 : y < 5
    · have q1 : decide (y < 5) = true := decide_eq_true hy5
      have q2 : decide ((y : Int) < 5) = true := decide_eq_true (by omega)
      have ey : IntKind.i64.wrap ((y : Int) + 1) = (y : Int) + 1 := IntWalk.i64_in _ (by omega)
      obtain ⟨wq, rfl⟩ : ∃ wq : World, wq = wr := ⟨_, rfl⟩
      go_wp2
      go_loopw [7] (fun i wr => ∃ (k : Nat), a + 1 ≤ k ∧ k ≤ b ∧ i = .int .i64 (k : Int) ∧ Hid (Row wr B g n cap ys) ∧ Hid (w.grownBy wr (some g)) ∧ Hid (Inc a k ys)) (fun i _ => b - (intOf i).toNat)
      case atStart => exact ⟨k0, by omega, by omega, rfl, hR, hG, hI⟩
      case round =>
        clear hR hG hI hk1 hk2
        obtain ⟨k, hk1, hk2, rfl, hR, hG, hI⟩ := hrel
        obtain ⟨wo, rfl⟩ : ∃ wo : World, wo = wr := ⟨_, rfl⟩
        by_cases hkb : k < b
        · have p1 : decide (k < b) = true := decide_eq_true hkb
          have p2 : decide ((k : Int) < (b : Int)) = true := decide_eq_true (by omega)
          obtain ⟨j, hj⟩ : ∃ j, j = k - 1 := ⟨_, rfl⟩
          have i1 : (k : Int) - 1 = (j : Int) := by omega
          have i2 : IntKind.i64.wrap (j : Int) = (j : Int) := IntWalk.i64_in _ (by omega)
          have i3 : (0 : Int) ≤ (j : Int) := by omega
          have i4 : (j : Int) < (n : Int) := by omega
          have i5 : (0 : Int) ≤ (k : Int) := by omega
          have i6 : (k : Int) < (n : Int) := by omega
          have ek : IntKind.i64.wrap ((k : Int) + 1) = (k : Int) + 1 := IntWalk.i64_in _ (by omega)
          obtain ⟨x, hx⟩ : ∃ x, x = ys.getD k 0 := ⟨_, rfl⟩
          obtain ⟨z, hz⟩ : ∃ z, z = ys.getD j 0 := ⟨_, rfl⟩
          have c1 := hR.out.cell k (by omega)
          have c2 := hR.out.cell j (by omega)
          have f1 := hR.out.free k
          have f2 := hR.out.free j
          rw [← hx] at c1
          rw [← hz] at c2
          obtain ⟨q, hq⟩ : ∃ q, decide (x < z) = q := ⟨_, rfl⟩
          have LS := Lib.hid (less_is hq)
          have HX := Lib.hid hx
          have HZ := Lib.hid hz
          have HJ := Lib.hid hj
          have HQ := Lib.hid hq
          clear hx hz hj hq
          cases q
          · have HI : Hid (Inc a (k + 1) ys) := inc_succ hI.out (fun _ => by
              have h := of_decide_eq_false HQ.out
              rw [HX.out, HZ.out, HJ.out] at h
              omega)
            clear hI
            go_wp2
            go_quiet ((go_at_call 210; refine Calls.quiet_of_same (LS.out _)))
            go_wp2
            go_roundw
            case rel => exact ⟨k + 1, by omega, by omega, by go_num, hR.out.draw _, grown_draw hG.out _, HI⟩
            case measure => simp [intOf]; omega
          · have n1 : ((k : Int) == (b : Int)) = false := by simp; omega
            have n2 : decide (k = b) = false := decide_eq_false (by omega)
            obtain ⟨el, el2⟩ := HEl.out
            by_cases h50 : len < 50
            · have s1 : decide ((len : Int) < 50) = true := decide_eq_true (by omega)
              have s2 : decide (len < 50) = true := decide_eq_true h50
              go_wp2
              go_quiet ((go_at_call 210; refine Calls.quiet_of_same (LS.out _)))
              go_wp2
              go_ret
              exact ⟨false, ys, rfl, hR.out.draw _, grown_draw hG.out _, hS.out, fun h => by cases h⟩
            · have s1 : decide ((len : Int) < 50) = false := decide_eq_false (by omega)
              have s2 : decide (len < 50) = false := decide_eq_false h50
              go_wp2
              go_quiet ((go_at_call 210; refine Calls.quiet_of_same (LS.out _)))
              go_wp2
              go_region
              have hlen := hR.out.len
              obtain ⟨W1, hW1⟩ : ∃ W, W = ((wo.drewN (nq + 1)).setCell ⟨g, k, none⟩ (.int .u32 (z : Int))).setCell ⟨g, j, none⟩ (.int .u32 (x : Int)) := ⟨_, rfl⟩
              obtain ⟨zs, hzs⟩ : ∃ zs, zs = ex ys k j := ⟨_, rfl⟩
              have hE := (hR.out.draw (nq + 1)).ex k j
              rw [← HX.out, ← HZ.out, ← hW1, ← hzs] at hE
              have hR2 : Hid (Row W1 B g n cap zs) := hE.1
              have hG2 : Hid (w.grownBy W1 (some g)) := grown_tr (grown_draw hG.out (nq + 1)) hE.2
              have hS2 : Hid (Sw a b xs zs) := by rw [hzs]; exact hS.out.trans (Sw.ex (by omega) (by omega) (by have := HJ.out; omega) (by have := HJ.out; omega) (by have := HT.out; omega))
              have IJ : Hid (Inc a j zs) := by rw [hzs]; exact inc_ex (inc_less hI.out (by have := HJ.out; omega)) (by have := HJ.out; omega) (Nat.le_refl _) (by have := HT.out; omega) (by have := HT.out; have := HJ.out; omega)
              rw [← hW1]
              clear hW1 hzs hE hR hG hS hI c1 c2 f1 f2 LS HX HZ HQ hlen i1 i2 i3 i4 i5 i6 ek p1 p2 n1 n2 s1 s2 el el2
              have hkj : k = j + 1 := by have := HJ.out; omega
              have HKJ := Lib.hid hkj
              have ej : (k : Int) - 1 = (j : Int) := by omega
              have ej2 : IntKind.i64.wrap (j : Int) = (j : Int) := IntWalk.i64_in _ (by have := HT.out; omega)
              obtain ⟨d, hd⟩ : ∃ d, d = k - a := ⟨_, rfl⟩
              have ed : (k : Int) - (a : Int) = (d : Int) := by omega
              have ed2 : IntKind.i64.wrap (d : Int) = (d : Int) := IntWalk.i64_in _ (by have := HT.out; omega)
              have HD := Lib.hid hd
              clear hd hkj
              by_cases h2 : 2 ≤ d
              · have u1 : decide ((2 : Int) ≤ (d : Int)) = true := decide_eq_true (by omega)
                have u2 : decide (2 ≤ d) = true := decide_eq_true h2
                go_wp2
                go_loopw [9] (fun i wr => ∃ (m : Nat) (zs : List Nat), a ≤ m ∧ m ≤ j ∧ i = .int .i64 (m : Int) ∧ Hid (Row wr B g n cap zs) ∧ Hid (w.grownBy wr (some g)) ∧ Hid (Sw a b xs zs) ∧ Hid (Ins a m j zs)) (fun i _ => (intOf i).toNat)
                case atStart => exact ⟨j, zs, by have := HD.out; have := HKJ.out; omega, by omega, by go_num, hR2, hG2, hS2, Lib.hid (ins_start IJ.out)⟩
                case round =>
                  clear hR2 hG2 hS2 IJ ej ej2 ed ed2 u1 u2
                  obtain ⟨m, zs, hm1, hm2, rfl, hR, hG, hS, hN⟩ := hrel
                  obtain ⟨wo, rfl⟩ : ∃ wo : World, wo = wr := ⟨_, rfl⟩
                  by_cases h1m : 1 ≤ m
                  · have p1 : decide ((1 : Int) ≤ (m : Int)) = true := decide_eq_true (by omega)
                    have p2 : decide (1 ≤ m) = true := decide_eq_true h1m
                    obtain ⟨l, hl⟩ : ∃ l, l = m - 1 := ⟨_, rfl⟩
                    have hmb : m < b := by have := HKJ.out; omega
                    have i1 : (m : Int) - 1 = (l : Int) := by omega
                    have i2 : IntKind.i64.wrap (l : Int) = (l : Int) := IntWalk.i64_in _ (by have := HT.out; omega)
                    have i3 : (0 : Int) ≤ (l : Int) := by omega
                    have i4 : (l : Int) < (n : Int) := by have := HT.out; omega
                    have i5 : (0 : Int) ≤ (m : Int) := by omega
                    have i6 : (m : Int) < (n : Int) := by have := HT.out; omega
                    obtain ⟨x, hx⟩ : ∃ x, x = zs.getD m 0 := ⟨_, rfl⟩
                    obtain ⟨z, hz⟩ : ∃ z, z = zs.getD l 0 := ⟨_, rfl⟩
                    have c1 := hR.out.cell m (by have := HT.out; omega)
                    have c2 := hR.out.cell l (by have := HT.out; omega)
                    have f1 := hR.out.free m
                    have f2 := hR.out.free l
                    rw [← hx] at c1
                    rw [← hz] at c2
                    obtain ⟨q, hq⟩ : ∃ q, decide (x < z) = q := ⟨_, rfl⟩
                    have LS := Lib.hid (less_is hq)
                    have HX := Lib.hid hx
                    have HZ := Lib.hid hz
                    have HL := Lib.hid hl
                    have HQ := Lib.hid hq
                    clear hx hz hl hq
                    cases q
                    · have HI0 : Hid (Inc a k zs) := by
                        rw [HKJ.out]
                        exact ins_end hN.out hm1 hm2 (fun _ => by
                          have h := of_decide_eq_false HQ.out
                          rw [HX.out, HZ.out, HL.out] at h
                          omega)
                      clear hN
                      go_wp2
                      go_quiet ((go_at_call 210; refine Calls.quiet_of_same (LS.out _)))
                      have hR1 := hR.out.draw nq
                      have hG1 := grown_draw hG.out nq
                      generalize wo.drewN nq = w1 at hR1 hG1 ⊢
                      have hR := Lib.hid hR1
                      have hG := Lib.hid hG1
                      have HI := HI0
                      clear hR1 hG1 c1 c2 f1 f2 LS HX HZ HL HQ HI0 i1 i2 i3 i4 i5 i6
                      obtain ⟨l', hl'⟩ : ∃ l' : Nat, l' = l := ⟨_, rfl⟩
                      clear hl' l'
                      obtain ⟨r, hr⟩ : ∃ r, r = b - k := ⟨_, rfl⟩
                      have r1 : (b : Int) - (k : Int) = (r : Int) := by omega
                      have r2 : IntKind.i64.wrap (r : Int) = (r : Int) := IntWalk.i64_in _ (by have := HT.out; omega)
                      have HRr := Lib.hid hr
                      clear hr
                      by_cases hr2 : 2 ≤ r
                      · have v1 : decide ((2 : Int) ≤ (r : Int)) = true := decide_eq_true (by omega)
                        have v2 : decide (2 ≤ r) = true := decide_eq_true hr2
                        have ek : IntKind.i64.wrap ((k : Int) + 1) = (k : Int) + 1 := IntWalk.i64_in _ (by have := HT.out; omega)
                        go_wp2
                        go_loopw [10] (fun i wr => ∃ (m : Nat) (zs : List Nat), k + 1 ≤ m ∧ m ≤ b ∧ i = .int .i64 (m : Int) ∧ Hid (Row wr B g n cap zs) ∧ Hid (w.grownBy wr (some g)) ∧ Hid (Sw a b xs zs) ∧ Hid (Inc a k zs)) (fun i _ => b - (intOf i).toNat)
                        case atStart => exact ⟨k + 1, zs, by omega, by have := HRr.out; omega, by go_num, hR, hG, hS, HI⟩
                        case round =>
                          clear hR hG hS HI r1 r2 v1 v2 ek
                          obtain ⟨m, zs, hm1, hm2, rfl, hR, hG, hS, HI⟩ := hrel
                          obtain ⟨wo, rfl⟩ : ∃ wo : World, wo = wr := ⟨_, rfl⟩
                          by_cases hmb : m < b
                          · have p1 : decide (m < b) = true := decide_eq_true hmb
                            have p2 : decide ((m : Int) < (b : Int)) = true := decide_eq_true (by omega)
                            obtain ⟨l, hl⟩ : ∃ l, l = m - 1 := ⟨_, rfl⟩
                            have em : IntKind.i64.wrap ((m : Int) + 1) = (m : Int) + 1 := IntWalk.i64_in _ (by have := HT.out; omega)
                            have i1 : (m : Int) - 1 = (l : Int) := by omega
                            have i2 : IntKind.i64.wrap (l : Int) = (l : Int) := IntWalk.i64_in _ (by have := HT.out; omega)
                            have i3 : (0 : Int) ≤ (l : Int) := by omega
                            have i4 : (l : Int) < (n : Int) := by have := HT.out; omega
                            have i5 : (0 : Int) ≤ (m : Int) := by omega
                            have i6 : (m : Int) < (n : Int) := by have := HT.out; omega
                            obtain ⟨x, hx⟩ : ∃ x, x = zs.getD m 0 := ⟨_, rfl⟩
                            obtain ⟨z, hz⟩ : ∃ z, z = zs.getD l 0 := ⟨_, rfl⟩
                            have c1 := hR.out.cell m (by have := HT.out; omega)
                            have c2 := hR.out.cell l (by have := HT.out; omega)
                            have f1 := hR.out.free m
                            have f2 := hR.out.free l
                            rw [← hx] at c1
                            rw [← hz] at c2
                            obtain ⟨q, hq⟩ : ∃ q, decide (x < z) = q := ⟨_, rfl⟩
                            have LS := Lib.hid (less_is hq)
                            have HX := Lib.hid hx
                            have HZ := Lib.hid hz
                            have HL := Lib.hid hl
                            have HQ := Lib.hid hq
                            clear hx hz hl hq
                            cases q
                            · go_wp2
                              go_quiet ((go_at_call 210; refine Calls.quiet_of_same (LS.out _)))
                              go_wp2
                              go_roundw
                              case rel => exact ⟨k, y + 1, zs, by omega, by omega, by omega, rfl, by go_num, hR.out.draw _, grown_draw hG.out _, hS, HI⟩
                              case measure => simp [intOf]; omega
                            · have hlen := hR.out.len
                              have HS2 : Hid (Sw a b xs (ex zs m l)) := hS.out.trans (Sw.ex (by omega) (by omega) (by have := HL.out; omega) (by have := HL.out; omega) (by have := HT.out; omega))
                              have HI2 : Hid (Inc a k (ex zs m l)) := inc_ex HI.out (by omega) (by have := HL.out; omega) (by have := HT.out; omega) (by have := HT.out; have := HL.out; omega)
                              have HE : Hid (∀ N, Row (((wo.drewN N).setCell ⟨g, m, none⟩ (.int .u32 (z : Int))).setCell ⟨g, l, none⟩ (.int .u32 (x : Int))) B g n cap (ex zs m l) ∧ w.grownBy (((wo.drewN N).setCell ⟨g, m, none⟩ (.int .u32 (z : Int))).setCell ⟨g, l, none⟩ (.int .u32 (x : Int))) (some g)) := fun N => by
                                have h := (hR.out.draw N).ex m l
                                rw [← HX.out, ← HZ.out] at h
                                exact ⟨h.1, grown_tr (grown_draw hG.out N) h.2⟩
                              clear HI hlen
                              go_wp2
                              go_quiet ((go_at_call 210; refine Calls.quiet_of_same (LS.out _)))
                              go_wp2
                              go_region
                              go_wp2
                              go_roundw
                              case rel => exact ⟨m + 1, ex zs m l, by omega, by omega, by go_num, Lib.hid (HE.out _).1, Lib.hid (HE.out _).2, HS2, HI2⟩
                              case measure => simp [intOf]; omega
                          · obtain rfl : m = b := by omega
                            have p1 : decide (m < m) = false := decide_eq_false (by omega)
                            have p2 : decide ((m : Int) < (m : Int)) = false := decide_eq_false (by omega)
                            go_wp2
                            go_roundw
                            case rel => exact ⟨k, y + 1, zs, by omega, by omega, by omega, rfl, by go_num, hR, hG, hS, HI⟩
                            case measure => simp [intOf]; omega
                      · have v1 : decide ((2 : Int) ≤ (r : Int)) = false := decide_eq_false (by omega)
                        have v2 : decide (2 ≤ r) = false := decide_eq_false hr2
                        go_wp2
                        go_roundw
                        case rel => exact ⟨k, y + 1, zs, by omega, by omega, by omega, rfl, by go_num, hR, hG, hS, HI⟩
                        case measure => simp [intOf]; omega
                    · have hlt := of_decide_eq_true HQ.out
                      have hlen := hR.out.len
                      have ham : a < m := by
                        rcases Nat.lt_or_ge a m with h | h
                        · exact h
                        · exfalso
                          have hp := (HP.out.keep hS.out) (by omega) m (by omega) (by have := HKJ.out; omega)
                          rw [show a - 1 = l by have := HL.out; omega, ← HX.out, ← HZ.out] at hp
                          omega
                      have HS2 : Hid (Sw a b xs (ex zs m l)) := hS.out.trans (Sw.ex (by omega) (by omega) (by have := HL.out; omega) (by have := HL.out; omega) (by have := HT.out; omega))
                      have HN2 : Hid (Ins a l j (ex zs m l)) := by
                        have h := ins_step hN.out ham hm2 (by have := HT.out; have := HKJ.out; omega) (by rw [← HX.out, ← HL.out, ← HZ.out]; exact hlt)
                        rw [← HL.out] at h
                        exact h
                      have HE : Hid (∀ N, Row (((wo.drewN N).setCell ⟨g, m, none⟩ (.int .u32 (z : Int))).setCell ⟨g, l, none⟩ (.int .u32 (x : Int))) B g n cap (ex zs m l) ∧ w.grownBy (((wo.drewN N).setCell ⟨g, m, none⟩ (.int .u32 (z : Int))).setCell ⟨g, l, none⟩ (.int .u32 (x : Int))) (some g)) := fun N => by
                        have h := (hR.out.draw N).ex m l
                        rw [← HX.out, ← HZ.out] at h
                        exact ⟨h.1, grown_tr (grown_draw hG.out N) h.2⟩
                      clear hN hlen hlt
                      go_wp2
                      go_quiet ((go_at_call 210; refine Calls.quiet_of_same (LS.out _)))
                      go_wp2
                      go_region
                      go_wp2
                      go_roundw
                      case rel => exact ⟨l, ex zs m l, by have := HL.out; omega, by have := HL.out; omega, by go_num, Lib.hid (HE.out _).1, Lib.hid (HE.out _).2, HS2, HN2⟩
                      case measure => have := HL.out; simp [intOf]; omega
                  · have hm0 : m = 0 := by omega
                    have p1 : decide ((1 : Int) ≤ (m : Int)) = false := decide_eq_false (by omega)
                    have p2 : decide (1 ≤ m) = false := decide_eq_false h1m
                    have HI : Hid (Inc a k zs) := by rw [HKJ.out]; exact ins_end hN.out hm1 hm2 (fun h => by omega)
                    have HM0 := Lib.hid hm0
                    clear hN hm0
                    obtain ⟨r, hr⟩ : ∃ r, r = b - k := ⟨_, rfl⟩
                    have r1 : (b : Int) - (k : Int) = (r : Int) := by omega
                    have r2 : IntKind.i64.wrap (r : Int) = (r : Int) := IntWalk.i64_in _ (by have := HT.out; omega)
                    have HRr := Lib.hid hr
                    clear hr
                    by_cases hr2 : 2 ≤ r
                    · have v1 : decide ((2 : Int) ≤ (r : Int)) = true := decide_eq_true (by omega)
                      have v2 : decide (2 ≤ r) = true := decide_eq_true hr2
                      have ek : IntKind.i64.wrap ((k : Int) + 1) = (k : Int) + 1 := IntWalk.i64_in _ (by have := HT.out; omega)
                      go_wp2
                      go_loopw [10] (fun i wr => ∃ (m : Nat) (zs : List Nat), k + 1 ≤ m ∧ m ≤ b ∧ i = .int .i64 (m : Int) ∧ Hid (Row wr B g n cap zs) ∧ Hid (w.grownBy wr (some g)) ∧ Hid (Sw a b xs zs) ∧ Hid (Inc a k zs)) (fun i _ => b - (intOf i).toNat)
                      case atStart => exact ⟨k + 1, zs, by omega, by have := HRr.out; omega, by go_num, hR, hG, hS, HI⟩
                      case round =>
                        clear hR hG hS HI r1 r2 v1 v2 ek
                        obtain ⟨m, zs, hm1, hm2, rfl, hR, hG, hS, HI⟩ := hrel
                        obtain ⟨wo, rfl⟩ : ∃ wo : World, wo = wr := ⟨_, rfl⟩
                        by_cases hmb : m < b
                        · have p1 : decide (m < b) = true := decide_eq_true hmb
                          have p2 : decide ((m : Int) < (b : Int)) = true := decide_eq_true (by omega)
                          obtain ⟨l, hl⟩ : ∃ l, l = m - 1 := ⟨_, rfl⟩
                          have em : IntKind.i64.wrap ((m : Int) + 1) = (m : Int) + 1 := IntWalk.i64_in _ (by have := HT.out; omega)
                          have i1 : (m : Int) - 1 = (l : Int) := by omega
                          have i2 : IntKind.i64.wrap (l : Int) = (l : Int) := IntWalk.i64_in _ (by have := HT.out; omega)
                          have i3 : (0 : Int) ≤ (l : Int) := by omega
                          have i4 : (l : Int) < (n : Int) := by have := HT.out; omega
                          have i5 : (0 : Int) ≤ (m : Int) := by omega
                          have i6 : (m : Int) < (n : Int) := by have := HT.out; omega
                          obtain ⟨x, hx⟩ : ∃ x, x = zs.getD m 0 := ⟨_, rfl⟩
                          obtain ⟨z, hz⟩ : ∃ z, z = zs.getD l 0 := ⟨_, rfl⟩
                          have c1 := hR.out.cell m (by have := HT.out; omega)
                          have c2 := hR.out.cell l (by have := HT.out; omega)
                          have f1 := hR.out.free m
                          have f2 := hR.out.free l
                          rw [← hx] at c1
                          rw [← hz] at c2
                          obtain ⟨q, hq⟩ : ∃ q, decide (x < z) = q := ⟨_, rfl⟩
                          have LS := Lib.hid (less_is hq)
                          have HX := Lib.hid hx
                          have HZ := Lib.hid hz
                          have HL := Lib.hid hl
                          have HQ := Lib.hid hq
                          clear hx hz hl hq
                          cases q
                          · go_wp2
                            go_quiet ((go_at_call 210; refine Calls.quiet_of_same (LS.out _)))
                            go_wp2
                            go_roundw
                            case rel => exact ⟨k, y + 1, zs, by omega, by omega, by omega, rfl, by go_num, hR.out.draw _, grown_draw hG.out _, hS, HI⟩
                            case measure => simp [intOf]; omega
                          · have hlen := hR.out.len
                            have HS2 : Hid (Sw a b xs (ex zs m l)) := hS.out.trans (Sw.ex (by omega) (by omega) (by have := HL.out; omega) (by have := HL.out; omega) (by have := HT.out; omega))
                            have HI2 : Hid (Inc a k (ex zs m l)) := inc_ex HI.out (by omega) (by have := HL.out; omega) (by have := HT.out; omega) (by have := HT.out; have := HL.out; omega)
                            have HE : Hid (∀ N, Row (((wo.drewN N).setCell ⟨g, m, none⟩ (.int .u32 (z : Int))).setCell ⟨g, l, none⟩ (.int .u32 (x : Int))) B g n cap (ex zs m l) ∧ w.grownBy (((wo.drewN N).setCell ⟨g, m, none⟩ (.int .u32 (z : Int))).setCell ⟨g, l, none⟩ (.int .u32 (x : Int))) (some g)) := fun N => by
                              have h := (hR.out.draw N).ex m l
                              rw [← HX.out, ← HZ.out] at h
                              exact ⟨h.1, grown_tr (grown_draw hG.out N) h.2⟩
                            clear HI hlen
                            go_wp2
                            go_quiet ((go_at_call 210; refine Calls.quiet_of_same (LS.out _)))
                            go_wp2
                            go_region
                            go_wp2
                            go_roundw
                            case rel => exact ⟨m + 1, ex zs m l, by omega, by omega, by go_num, Lib.hid (HE.out _).1, Lib.hid (HE.out _).2, HS2, HI2⟩
                            case measure => simp [intOf]; omega
                        · obtain rfl : m = b := by omega
                          have p1 : decide (m < m) = false := decide_eq_false (by omega)
                          have p2 : decide ((m : Int) < (m : Int)) = false := decide_eq_false (by omega)
                          go_wp2
                          go_roundw
                          case rel => exact ⟨k, y + 1, zs, by omega, by omega, by omega, rfl, by go_num, hR, hG, hS, HI⟩
                          case measure => simp [intOf]; omega
                    · have v1 : decide ((2 : Int) ≤ (r : Int)) = false := decide_eq_false (by omega)
                      have v2 : decide (2 ≤ r) = false := decide_eq_false hr2
                      go_wp2
                      go_roundw
                      case rel => exact ⟨k, y + 1, zs, by omega, by omega, by omega, rfl, by go_num, hR, hG, hS, HI⟩
                      case measure => simp [intOf]; omega
              · have u1 : decide ((2 : Int) ≤ (d : Int)) = false := decide_eq_false (by omega)
                have u2 : decide (2 ≤ d) = false := decide_eq_false h2
                have HI : Hid (Inc a k zs) := inc_one (by have := HD.out; omega)
                have hR := hR2
                have hG := hG2
                have hS := hS2
                clear hR2 hG2 hS2 IJ
                obtain ⟨r, hr⟩ : ∃ r, r = b - k := ⟨_, rfl⟩
                have r1 : (b : Int) - (k : Int) = (r : Int) := by omega
                have r2 : IntKind.i64.wrap (r : Int) = (r : Int) := IntWalk.i64_in _ (by have := HT.out; omega)
                have HRr := Lib.hid hr
                clear hr
                by_cases hr2 : 2 ≤ r
                · have v1 : decide ((2 : Int) ≤ (r : Int)) = true := decide_eq_true (by omega)
                  have v2 : decide (2 ≤ r) = true := decide_eq_true hr2
                  have ek : IntKind.i64.wrap ((k : Int) + 1) = (k : Int) + 1 := IntWalk.i64_in _ (by have := HT.out; omega)
                  go_wp2
                  go_loopw [10] (fun i wr => ∃ (m : Nat) (zs : List Nat), k + 1 ≤ m ∧ m ≤ b ∧ i = .int .i64 (m : Int) ∧ Hid (Row wr B g n cap zs) ∧ Hid (w.grownBy wr (some g)) ∧ Hid (Sw a b xs zs) ∧ Hid (Inc a k zs)) (fun i _ => b - (intOf i).toNat)
                  case atStart => exact ⟨k + 1, zs, by omega, by have := HRr.out; omega, by go_num, hR, hG, hS, HI⟩
                  case round =>
                    clear hR hG hS HI r1 r2 v1 v2 ek
                    obtain ⟨m, zs, hm1, hm2, rfl, hR, hG, hS, HI⟩ := hrel
                    obtain ⟨wo, rfl⟩ : ∃ wo : World, wo = wr := ⟨_, rfl⟩
                    by_cases hmb : m < b
                    · have p1 : decide (m < b) = true := decide_eq_true hmb
                      have p2 : decide ((m : Int) < (b : Int)) = true := decide_eq_true (by omega)
                      obtain ⟨l, hl⟩ : ∃ l, l = m - 1 := ⟨_, rfl⟩
                      have em : IntKind.i64.wrap ((m : Int) + 1) = (m : Int) + 1 := IntWalk.i64_in _ (by have := HT.out; omega)
                      have i1 : (m : Int) - 1 = (l : Int) := by omega
                      have i2 : IntKind.i64.wrap (l : Int) = (l : Int) := IntWalk.i64_in _ (by have := HT.out; omega)
                      have i3 : (0 : Int) ≤ (l : Int) := by omega
                      have i4 : (l : Int) < (n : Int) := by have := HT.out; omega
                      have i5 : (0 : Int) ≤ (m : Int) := by omega
                      have i6 : (m : Int) < (n : Int) := by have := HT.out; omega
                      obtain ⟨x, hx⟩ : ∃ x, x = zs.getD m 0 := ⟨_, rfl⟩
                      obtain ⟨z, hz⟩ : ∃ z, z = zs.getD l 0 := ⟨_, rfl⟩
                      have c1 := hR.out.cell m (by have := HT.out; omega)
                      have c2 := hR.out.cell l (by have := HT.out; omega)
                      have f1 := hR.out.free m
                      have f2 := hR.out.free l
                      rw [← hx] at c1
                      rw [← hz] at c2
                      obtain ⟨q, hq⟩ : ∃ q, decide (x < z) = q := ⟨_, rfl⟩
                      have LS := Lib.hid (less_is hq)
                      have HX := Lib.hid hx
                      have HZ := Lib.hid hz
                      have HL := Lib.hid hl
                      have HQ := Lib.hid hq
                      clear hx hz hl hq
                      cases q
                      · go_wp2
                        go_quiet ((go_at_call 210; refine Calls.quiet_of_same (LS.out _)))
                        go_wp2
                        go_roundw
                        case rel => exact ⟨k, y + 1, zs, by omega, by omega, by omega, rfl, by go_num, hR.out.draw _, grown_draw hG.out _, hS, HI⟩
                        case measure => simp [intOf]; omega
                      · have hlen := hR.out.len
                        have HS2 : Hid (Sw a b xs (ex zs m l)) := hS.out.trans (Sw.ex (by omega) (by omega) (by have := HL.out; omega) (by have := HL.out; omega) (by have := HT.out; omega))
                        have HI2 : Hid (Inc a k (ex zs m l)) := inc_ex HI.out (by omega) (by have := HL.out; omega) (by have := HT.out; omega) (by have := HT.out; have := HL.out; omega)
                        have HE : Hid (∀ N, Row (((wo.drewN N).setCell ⟨g, m, none⟩ (.int .u32 (z : Int))).setCell ⟨g, l, none⟩ (.int .u32 (x : Int))) B g n cap (ex zs m l) ∧ w.grownBy (((wo.drewN N).setCell ⟨g, m, none⟩ (.int .u32 (z : Int))).setCell ⟨g, l, none⟩ (.int .u32 (x : Int))) (some g)) := fun N => by
                          have h := (hR.out.draw N).ex m l
                          rw [← HX.out, ← HZ.out] at h
                          exact ⟨h.1, grown_tr (grown_draw hG.out N) h.2⟩
                        clear HI hlen
                        go_wp2
                        go_quiet ((go_at_call 210; refine Calls.quiet_of_same (LS.out _)))
                        go_wp2
                        go_region
                        go_wp2
                        go_roundw
                        case rel => exact ⟨m + 1, ex zs m l, by omega, by omega, by go_num, Lib.hid (HE.out _).1, Lib.hid (HE.out _).2, HS2, HI2⟩
                        case measure => simp [intOf]; omega
                    · obtain rfl : m = b := by omega
                      have p1 : decide (m < m) = false := decide_eq_false (by omega)
                      have p2 : decide ((m : Int) < (m : Int)) = false := decide_eq_false (by omega)
                      go_wp2
                      go_roundw
                      case rel => exact ⟨k, y + 1, zs, by omega, by omega, by omega, rfl, by go_num, hR, hG, hS, HI⟩
                      case measure => simp [intOf]; omega
                · have v1 : decide ((2 : Int) ≤ (r : Int)) = false := decide_eq_false (by omega)
                  have v2 : decide (2 ≤ r) = false := decide_eq_false hr2
                  go_wp2
                  go_roundw
                  case rel => exact ⟨k, y + 1, zs, by omega, by omega, by omega, rfl, by go_num, hR, hG, hS, HI⟩
                  case measure => simp [intOf]; omega
        · obtain rfl : k = b := by omega
          have p1 : decide (k < k) = false := decide_eq_false (by omega)
          have p2 : decide ((k : Int) < (k : Int)) = false := decide_eq_false (by omega)
          go_wp2
          go_quiet (fail)
          go_wp2
          go_ret
          exact ⟨true, ys, rfl, hR.out.draw _, grown_draw hG.out _, hS.out, fun _ => hI.out⟩
    · have q1 : decide (y < 5) = false := decide_eq_false hy5
      have q2 : decide ((y : Int) < 5) = false := decide_eq_false (by omega)
      go_wp2
      go_ret
      exact ⟨false, ys, rfl, hR.out, hG.out, hS.out, fun h => by cases h⟩
end Go.Proofs.YtgjbnbojjgbmcaaGreat.Srt

namespace Go.Proofs.YtgjbnbojjgbmcaaGreat.Srt
open Go.RowKit
attribute [local go_sem ↓] Go.wp_at_zero Go.wp_at_succ
theorem grown_cell (w : World) (p : Addr) (v : Value) : w.grownBy (w.setCell p v) (some p.block) :=
  have h := (Below.refl 0 w).setCell (p := p) (Nat.zero_le _) v
  ⟨h.os, h.tape, h.output, h.size, fun k _ hne => heap_setCell_other w p k v (fun e => hne (by rw [e]))⟩
/-- The counter of exchanges, in a block of its own. -/
def Cnt (w : World) (c : Nat) : Prop := ∃ k : Int, w.heap[c]? = some (.cells #[.int .i64 k] 3)
theorem Cnt.draw {w : World} {c : Nat} (h : Cnt w c) (k : Nat) : Cnt (w.drewN k) c := h
set_option maxRecDepth 100000 in
theorem order2_any {B g n cap a b c : Nat} {xs : List Nat} {w : World} (hr : Row w B g n cap xs) (hc : Cnt w c) (hgc : g ≠ c) (ha : a < n) (hb : b < n) (_hn : n ≤ 1000000) :
    Calls Tryz.prog 217 #[.slice (some ⟨g, 0, none⟩) n cap, .int .i64 (a : Int), .int .i64 (b : Int), .pointer (some ⟨c, 0, none⟩)] w fun e w' => ∃ a' b' : Nat, e = .returned (.tuple #[.int .i64 (a' : Int), .int .i64 (b' : Int)]) ∧
      (a' = a ∨ a' = b) ∧ (b' = a ∨ b' = b) ∧ Row w' B g n cap xs ∧ Cnt w' c ∧ w.grownBy w' (some c) := by
  have HR := Lib.hid hr
  obtain ⟨k, hk⟩ := hc
  have i3 : (0 : Int) ≤ (a : Int) := by omega
  have i4 : (a : Int) < (n : Int) := by omega
  have i5 : (0 : Int) ≤ (b : Int) := by omega
  have i6 : (b : Int) < (n : Int) := by omega
  obtain ⟨x, hx⟩ : ∃ x, x = xs.getD b 0 := ⟨_, rfl⟩
  obtain ⟨y, hy⟩ : ∃ y, y = xs.getD a 0 := ⟨_, rfl⟩
  have c1 := hr.cell b hb
  have c2 := hr.cell a ha
  rw [← hx] at c1
  rw [← hy] at c2
  obtain ⟨q, hq⟩ : ∃ q, decide (x < y) = q := ⟨_, rfl⟩
  have LS := Lib.hid (less_is hq)
  have k0 := cell_of_row w c 0 _ _ _ hk
  have k1 := frozen_of_row w c 0 _ _ hk
  have HE : Hid (∀ N v, Row ((w.drewN N).setCell ⟨c, 0, none⟩ (.int .i64 v)) B g n cap xs ∧ Cnt ((w.drewN N).setCell ⟨c, 0, none⟩ (.int .i64 v)) c ∧ w.grownBy ((w.drewN N).setCell ⟨c, 0, none⟩ (.int .i64 v)) (some c)) := fun N v =>
    ⟨(hr.draw N).other (grown_cell _ ⟨c, 0, none⟩ _) hgc, ⟨v, heap_setCell_same (w.drewN N) c 0 _ _ _ hk⟩, grown_tr (grown_draw (World.grownBy.refl w _) N) (grown_cell _ ⟨c, 0, none⟩ _)⟩
  have HK : Hid (Cnt w c) := ⟨k, hk⟩
  clear hr hx hy hq hk
  cases q
  · go_enter Tryz.func217, Tryz.ntmps217
    go_wp2
    go_quiet ((go_at_call 210; refine Calls.quiet_of_same (LS.out _)))
    go_wp2
    go_ret2
    exact ⟨a, b, rfl, .inl rfl, .inr rfl, HR.out.draw _, HK.out.draw _, grown_draw (World.grownBy.refl w _) _⟩
  · go_enter Tryz.func217, Tryz.ntmps217
    go_wp2
    go_quiet ((go_at_call 210; refine Calls.quiet_of_same (LS.out _)))
    go_wp2
    go_ret2
    exact ⟨b, a, rfl, .inr rfl, .inl rfl, (HE.out _ _).1, (HE.out _ _).2.1, (HE.out _ _).2.2⟩
set_option maxRecDepth 100000 in
theorem median_any {B g n cap a b d c : Nat} {xs : List Nat} {w : World} (hr : Row w B g n cap xs) (hc : Cnt w c) (hgc : g ≠ c) (ha : a < n) (hb : b < n) (hd : d < n) (hn : n ≤ 1000000) :
    Calls Tryz.prog 215 #[.slice (some ⟨g, 0, none⟩) n cap, .int .i64 (a : Int), .int .i64 (b : Int), .int .i64 (d : Int), .pointer (some ⟨c, 0, none⟩)] w fun e w' => ∃ m : Nat, e = .returned (.int .i64 (m : Int)) ∧
      (m = a ∨ m = b ∨ m = d) ∧ Row w' B g n cap xs ∧ Cnt w' c ∧ w.grownBy w' (some c) := by
  have O : Hid (∀ (W : World) (p q : Nat), Row W B g n cap xs → Cnt W c → p < n → q < n → Calls Tryz.prog 217 #[.slice (some ⟨g, 0, none⟩) n cap, .int .i64 (p : Int), .int .i64 (q : Int), .pointer (some ⟨c, 0, none⟩)] W fun e w' => ∃ a' b' : Nat, e = .returned (.tuple #[.int .i64 (a' : Int), .int .i64 (b' : Int)]) ∧
      (a' = p ∨ a' = q) ∧ (b' = p ∨ b' = q) ∧ Row w' B g n cap xs ∧ Cnt w' c ∧ W.grownBy w' (some c)) := fun W p q h1 h2 h3 h4 => order2_any h1 h2 hgc h3 h4 hn
  have HR := Lib.hid hr
  have HC := Lib.hid hc
  clear hr hc
  go_enter Tryz.func215, Tryz.ntmps215
  go_wp2_with fail
  refine (O.out _ _ _ HR.out HC.out ha hb).mono ?_
  rintro e w1 ⟨a1, b1, rfl, p1, p2, r1, k1, g1⟩
  have R1 := Lib.hid r1
  have K1 := Lib.hid k1
  have G1 := Lib.hid g1
  have P1 := Lib.hid p1
  have P2 := Lib.hid p2
  clear r1 k1 g1 p1 p2
  go_wp2_with fail
  refine (O.out _ _ _ R1.out K1.out (by have := P2.out; omega) hd).mono ?_
  rintro e w2 ⟨b2, d2, rfl, p3, p4, r2, k2, g2⟩
  have R2 := Lib.hid r2
  have K2 := Lib.hid k2
  have G2 := Lib.hid (grown_tr G1.out g2)
  have P3 := Lib.hid p3
  clear r2 k2 g2 p3 p4
  go_wp2_with fail
  refine (O.out _ _ _ R2.out K2.out (by have := P1.out; omega) (by have := P2.out; have := P3.out; omega)).mono ?_
  rintro e w3 ⟨a3, b3, rfl, p5, p6, r3, k3, g3⟩
  have R3 := Lib.hid r3
  have K3 := Lib.hid k3
  have G3 := Lib.hid (grown_tr G2.out g3)
  have P6 := Lib.hid p6
  clear r3 k3 g3 p5 p6
  go_wp2
  go_ret
  exact ⟨b3, rfl, by have := P1.out; have := P2.out; have := P3.out; have := P6.out; omega, R3.out, K3.out, G3.out⟩
set_option maxRecDepth 100000 in
theorem adjacent_any {B g n cap a c : Nat} {xs : List Nat} {w : World} (hr : Row w B g n cap xs) (hc : Cnt w c) (hgc : g ≠ c) (ha : 1 ≤ a) (hb : a + 1 < n) (hn : n ≤ 1000000) :
    Calls Tryz.prog 214 #[.slice (some ⟨g, 0, none⟩) n cap, .int .i64 (a : Int), .pointer (some ⟨c, 0, none⟩)] w fun e w' => ∃ m : Nat, e = .returned (.int .i64 (m : Int)) ∧
      (m + 1 = a ∨ m = a ∨ m = a + 1) ∧ Row w' B g n cap xs ∧ Cnt w' c ∧ w.grownBy w' (some c) := by
  obtain ⟨p, rfl⟩ : ∃ p, a = p + 1 := ⟨a - 1, by omega⟩
  have M := Lib.hid (median_any (a := p) (b := p + 1) (d := p + 1 + 1) hr hc hgc (by omega) (by omega) (by omega) hn)
  have e1 : ((p + 1 : Nat) : Int) - 1 = (p : Int) := by omega
  have e1' : (p : Int) + 1 - 1 = (p : Int) := by omega
  have e2 : IntKind.i64.wrap (p : Int) = (p : Int) := IntWalk.i64_in _ (by omega)
  have e3 : IntKind.i64.wrap ((p : Int) + 1 + 1) = (p : Int) + 1 + 1 := IntWalk.i64_in _ (by omega)
  have e4 : IntKind.i64.wrap (((p + 1 : Nat) : Int) + 1) = (p : Int) + 1 + 1 := by rw [IntWalk.i64_in _ (by omega)]; omega
  clear hr hc
  go_enter Tryz.func214, Tryz.ntmps214
  go_wp2_with fail
  refine M.out.mono ?_
  rintro e w1 ⟨m, rfl, h⟩
  have H := Lib.hid h
  clear h
  go_wp2
  go_ret
  exact ⟨m, rfl, by have := H.out.1; omega, H.out.2⟩
end Go.Proofs.YtgjbnbojjgbmcaaGreat.Srt
