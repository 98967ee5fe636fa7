/- slices.insertionSortOrdered over 32-bit numbers: it puts in order. Conditions: the row is the call's own. -/
import Derived.Test.YtinglfhndlklaaaSrtRow
import Derived.Deep.RegionHeld3
namespace Go.Proofs.Ytinglfhndlklaaa.Srt
open Go.RowKit
attribute [local go_sem ↓] Go.wp_at_zero Go.wp_at_succ

set_option maxRecDepth 100000 in
set_option maxHeartbeats 4000000 in
theorem insertion_any {B g n cap a b : Nat} {xs : List Nat} {w : World} (hr : Row w B g n cap xs) (hab : a ≤ b) (hb : b ≤ n) (hn : n ≤ 1000000) :
    Calls Try.prog 92 #[.slice (some ⟨g, 0, none⟩) n cap, .int .i64 (a : Int), .int .i64 (b : Int)] w fun e w' => e = .returned (.tuple #[]) ∧
      ∃ ys, Row w' B g n cap ys ∧ w.grownBy w' (some g) ∧ Sw a b xs ys ∧ Inc a b ys := by
  have HR := Lib.hid hr
  have G0 := Lib.hid (World.grownBy.refl w (some g))
  have S0 := Lib.hid (Sw.refl a b xs)
  have I0 := Lib.hid (inc_one (a := a) (b := a + 1) (xs := xs) (Nat.le_refl _))
  have e0 : IntKind.i64.wrap ((a : Int) + 1) = (a : Int) + 1 := IntWalk.i64_in _ (by omega)
  clear hr
  go_enter Try.func92, Try.ntmps92
  go_wp2
  go_loopw [6] (fun i wr => ∃ (k : Nat) (ys : List Nat), a + 1 ≤ k ∧ (k ≤ b ∨ k = a + 1) ∧ i = .int .i64 (k : Int) ∧ Hid (Row wr B g n cap ys) ∧ Hid (w.grownBy wr (some g)) ∧ Hid (Sw a b xs ys) ∧ Hid (Inc a k ys)) (fun i _ => b - (intOf i).toNat)
  case atStart => exact ⟨a + 1, xs, by omega, .inr rfl, by go_num, HR, G0, S0, I0⟩
  case round =>
    clear HR G0 S0 I0 e0
    obtain ⟨k, ys, hk1, hk2, rfl, hR, hG, hS, hI⟩ := hrel
    by_cases hkb : k < b
    · have q1 : decide (k < b) = true := decide_eq_true hkb
      have q2 : decide ((k : Int) < (b : Int)) = true := decide_eq_true (by omega)
      have N0 := Lib.hid (ins_start hI.out)
      have ek : IntKind.i64.wrap ((k : Int) + 1) = (k : Int) + 1 := IntWalk.i64_in _ (by omega)
      clear hI
      go_wp2
      go_loopw [7] (fun j wr => ∃ (m : Nat) (ys : List Nat), a ≤ m ∧ m ≤ k ∧ j = .int .i64 (m : Int) ∧ Hid (Row wr B g n cap ys) ∧ Hid (w.grownBy wr (some g)) ∧ Hid (Sw a b xs ys) ∧ Hid (Ins a m k ys)) (fun j _ => (intOf j).toNat)
      case atStart => exact ⟨k, ys, by omega, by omega, rfl, hR, hG, hS, N0⟩
      case round =>
        clear hR hG hS N0
        obtain ⟨m, ys, hm1, hm2, rfl, hR, hG, hS, hN⟩ := hrel
        obtain ⟨wo, rfl⟩ : ∃ wo : World, wo = wr := ⟨_, rfl⟩
        by_cases ham : a < m
        · have p1 : decide (a < m) = true := decide_eq_true ham
          have p2 : decide ((a : Int) < (m : Int)) = true := decide_eq_true (by omega)
          obtain ⟨j, hj⟩ : ∃ j, j = m - 1 := ⟨_, rfl⟩
          have i1 : (m : Int) - 1 = (j : Int) := by omega
          have i2 : IntKind.i64.wrap (j : Int) = (j : Int) := IntWalk.i64_in _ (by omega)
          have i3 : (0 : Int) ≤ (j : Int) := by omega
          have i4 : (j : Int) < (n : Int) := by omega
          have i5 : (0 : Int) ≤ (m : Int) := by omega
          have i6 : (m : Int) < (n : Int) := by omega
          obtain ⟨x, hx⟩ : ∃ x, x = ys.getD m 0 := ⟨_, rfl⟩
          obtain ⟨y, hy⟩ : ∃ y, y = ys.getD j 0 := ⟨_, rfl⟩
          have c1 := hR.out.cell m (by omega)
          have c2 := hR.out.cell j (by omega)
          have f1 := hR.out.free m
          have f2 := hR.out.free j
          rw [← hx] at c1
          rw [← hy] at c2
          obtain ⟨q, hq⟩ : ∃ q, decide (x < y) = q := ⟨_, rfl⟩
          have LS := Lib.hid (less_is hq)
          have HX := Lib.hid hx
          have HY := Lib.hid hy
          have HJ := Lib.hid hj
          have HQ := Lib.hid hq
          clear hx hy hj hq
          cases q
          · have HI : Hid (Inc a (k + 1) ys) := ins_end hN.out hm1 hm2 (fun _ => by
              have h := of_decide_eq_false HQ.out
              rw [HX.out, HY.out, HJ.out] at h
              omega)
            clear hN
            go_wp2
            go_quiet ((go_at_call 98; refine Calls.quiet_of_same (LS.out _)))
            go_wp2
            go_roundw
            case rel => exact ⟨k + 1, ys, by omega, by omega, by go_num, hR.out.draw _, grown_draw hG.out _, hS, HI⟩
            case measure => simp [intOf]; omega
          · have hlt := of_decide_eq_true HQ.out
            have hlen := hR.out.len
            have HS2 : Hid (Sw a b xs (ex ys m j)) := hS.out.trans (Sw.ex (by omega) (by omega) (by omega) (by omega) (by omega))
            have HN2 : Hid (Ins a j k (ex ys m j)) := by
              have h := ins_step hN.out ham hm2 (by omega) (by rw [← HX.out, show m - 1 = j by omega, ← HY.out]; exact hlt)
              rw [show m - 1 = j by omega] at h
              exact h
            have HE : Hid (∀ N, Row (((wo.drewN N).setCell ⟨g, m, none⟩ (.int .u32 (y : Int))).setCell ⟨g, j, none⟩ (.int .u32 (x : Int))) B g n cap (ex ys m j) ∧ w.grownBy (((wo.drewN N).setCell ⟨g, m, none⟩ (.int .u32 (y : Int))).setCell ⟨g, j, none⟩ (.int .u32 (x : Int))) (some g)) := fun N => by
              have h := (hR.out.draw N).ex m j
              rw [← HX.out, ← HY.out] at h
              exact ⟨h.1, grown_tr (grown_draw hG.out N) h.2⟩
            clear hN
            go_wp2
            go_quiet ((go_at_call 98; refine Calls.quiet_of_same (LS.out _)))
            go_wp2
            go_region
            go_wp2
            go_roundw
            case rel => exact ⟨j, ex ys m j, by omega, by omega, by go_num, Lib.hid (HE.out _).1, Lib.hid (HE.out _).2, HS2, HN2⟩
            case measure => simp [intOf]; omega
        · obtain rfl : a = m := by omega
          have p1 : decide (a < a) = false := decide_eq_false (by omega)
          have p2 : decide ((a : Int) < (a : Int)) = false := decide_eq_false (by omega)
          have HI : Hid (Inc a (k + 1) ys) := ins_end hN.out hm1 hm2 (fun h => by omega)
          clear hN
          go_wp2
          go_quiet (fail)
          go_wp2
          go_roundw
          case rel => exact ⟨k + 1, ys, by omega, by omega, by go_num, hR.out.draw _, grown_draw hG.out _, hS, HI⟩
          case measure => simp [intOf]; omega
    · have q1 : decide (k < b) = false := decide_eq_false hkb
      have q2 : decide ((k : Int) < (b : Int)) = false := decide_eq_false (by omega)
      have HI : Hid (Inc a b ys) := by
        rcases hk2 with h | h
        · obtain rfl : k = b := by omega
          exact hI.out
        · exact inc_one (by omega)
      clear hI
      go_wp2
      go_end0
      exact ⟨rfl, ys, hR.out, hG.out, hS.out, HI.out⟩
end Go.Proofs.Ytinglfhndlklaaa.Srt
