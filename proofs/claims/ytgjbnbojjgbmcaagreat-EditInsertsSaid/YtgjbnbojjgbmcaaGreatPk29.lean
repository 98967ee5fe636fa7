/- slices: choosePivot and reverseRange over 32-bit numbers. Conditions: the row is the call's own; the range has more than twelve. slices: xorshift's Next, nextPowerOfTwo, breakPatterns over 32-bit numbers: exchanges within the range. Conditions: the row is the call's own. slices.siftDownOrdered, slices.heapSortOrdered over 32-bit numbers. Conditions: the row is the call's own. slices.heapSortOrdered over 32-bit numbers. Conditions: the row is the call's own. -/
import Derived.Test.YtgjbnbojjgbmcaaGreatChecked
import Derived.WalkKit
import Derived.WalkSpells
import Derived.WalkLawsBesides
import Derived.Laws.BytesArg
import Derived.Lib.Hide
import Derived.Deep.LoopGhost
import Derived.Laws.AppendOwnNone
import Derived.Laws.OwnMore
import Derived.WideShapes
import Derived.RegionTactic
import Derived.Deep.DrawnRows
import Derived.Deep.QuietTactic
import Derived.BigQuiet
import Derived.Deep.DeepCutAuto
import Derived.IntWalk
import Derived.Deep.RegionHeld3
import Derived.Lib.Tables
import Derived.Laws.Bits64
import Derived.Test.YtgjbnbojjgbmcaaGreatPk27
import Derived.Test.YtgjbnbojjgbmcaaGreatPk25
import Derived.Test.YtgjbnbojjgbmcaaGreatPk01
import Derived.Test.YtgjbnbojjgbmcaaGreatPk15
import Derived.Test.YtgjbnbojjgbmcaaGreatPk16
import Derived.Test.YtgjbnbojjgbmcaaGreatPk20
import Derived.Test.YtgjbnbojjgbmcaaGreatPk09

namespace Go.Proofs.YtgjbnbojjgbmcaaGreat.Srt
open Go.RowKit
attribute [local go_sem ↓] Go.wp_at_zero Go.wp_at_succ
theorem grown_new {w w' : World} {o : Obj} (h : (w.alloc o).grownBy w' (some w.heap.size)) (row : Option Nat) : w.grownBy w' row :=
  have b := (Below.refl w.heap.size w).alloc (Nat.le_refl _) o
  ⟨h.os.trans b.os, h.tape.trans b.tape, h.output.trans b.output, Nat.le_trans b.size h.size, fun k hk _ => (h.block k (Nat.lt_of_lt_of_le hk b.size) (fun e => by have := Option.some.inj e; omega)).trans (b.block k hk)⟩
set_option maxRecDepth 100000 in
set_option maxHeartbeats 2000000 in
theorem pivot_any {B g n cap a b : Nat} {xs : List Nat} {w : World} (hr : Row w B g n cap xs) (hab : a + 12 < b) (hb : b ≤ n) (hn : n ≤ 1000000) :
    Calls Tryz.prog 207 #[.slice (some ⟨g, 0, none⟩) n cap, .int .i64 (a : Int), .int .i64 (b : Int)] w fun e w' => ∃ (p : Nat) (h : Int), e = .returned (.tuple #[.int .i64 (p : Int), .int .i64 h]) ∧
      a ≤ p ∧ p < b ∧ (h = 0 ∨ h = 1 ∨ h = 2) ∧ Row w' B g n cap xs ∧ w.grownBy w' (some g) := by
  obtain ⟨l, hl⟩ : ∃ l, l = b - a := ⟨_, rfl⟩
  obtain ⟨q, hq⟩ : ∃ q, q = l / 4 := ⟨_, rfl⟩
  have e1 : (b : Int) - (a : Int) = (l : Int) := by omega
  have e2 : IntKind.i64.wrap (l : Int) = (l : Int) := IntWalk.i64_in _ (by omega)
  have d1 : (l : Int) / 4 = (q : Int) := by omega
  have d2 : Int.tdiv (l : Int) 4 = (q : Int) := by rw [Int.tdiv_eq_ediv_of_nonneg (by omega)]; omega
  have e3 : IntKind.i64.wrap (q : Int) = (q : Int) := IntWalk.i64_in _ (by omega)
  have e4 : IntKind.i64.wrap ((q : Int) * 2) = (q : Int) * 2 := IntWalk.i64_in _ (by omega)
  have e5 : IntKind.i64.wrap ((q : Int) * 3) = (q : Int) * 3 := IntWalk.i64_in _ (by omega)
  obtain ⟨i, hi⟩ : ∃ i, i = a + q := ⟨_, rfl⟩
  obtain ⟨j, hj⟩ : ∃ j, j = a + q * 2 := ⟨_, rfl⟩
  obtain ⟨k, hk⟩ : ∃ k, k = a + q * 3 := ⟨_, rfl⟩
  have a1 : (a : Int) + (q : Int) = (i : Int) := by omega
  have a2 : (a : Int) + (q : Int) * 2 = (j : Int) := by omega
  have a3 : (a : Int) + (q : Int) * 3 = (k : Int) := by omega
  have b1 : IntKind.i64.wrap (i : Int) = (i : Int) := IntWalk.i64_in _ (by omega)
  have b2 : IntKind.i64.wrap (j : Int) = (j : Int) := IntWalk.i64_in _ (by omega)
  have b3 : IntKind.i64.wrap (k : Int) = (k : Int) := IntWalk.i64_in _ (by omega)
  have z1 : decide ((8 : Int) ≤ (l : Int)) = true := decide_eq_true (by omega)
  have z2 : decide (8 ≤ l) = true := decide_eq_true (by omega)
  have hin : a ≤ i ∧ i < b ∧ a ≤ j ∧ j < b ∧ a ≤ k ∧ k < b := by omega
  have hin2 : 50 ≤ l → a < i ∧ i + 1 < b ∧ a < j ∧ j + 1 < b ∧ a < k ∧ k + 1 < b := fun h => by omega
  have HIN := Lib.hid hin
  have HIN2 := Lib.hid hin2
  have HB := Lib.hid (And.intro hb hn)
  have hgc : g ≠ w.heap.size := Nat.ne_of_lt hr.lt
  have HGC := Lib.hid hgc
  have R0 : Hid (Row (w.alloc (.cells #[.int .i64 0] 3)) B g n cap xs) := hr.keeps ((Below.refl _ _).alloc (Nat.le_refl _) _)
  have K0 : Hid (Cnt (w.alloc (.cells #[.int .i64 0] 3)) w.heap.size) := ⟨0, heap_alloc_new w _⟩
  have M : Hid (∀ (W : World) (x y z : Nat), Row W B g n cap xs → Cnt W w.heap.size → x < n → y < n → z < n → Calls Tryz.prog 215 #[.slice (some ⟨g, 0, none⟩) n cap, .int .i64 (x : Int), .int .i64 (y : Int), .int .i64 (z : Int), .pointer (some ⟨w.heap.size, 0, none⟩)] W fun e w' => ∃ m : Nat, e = .returned (.int .i64 (m : Int)) ∧
      (m = x ∨ m = y ∨ m = z) ∧ Row w' B g n cap xs ∧ Cnt w' w.heap.size ∧ W.grownBy w' (some w.heap.size)) := fun W x y z h1 h2 h3 h4 h5 => median_any h1 h2 hgc h3 h4 h5 hn
  have A : Hid (∀ (W : World) (x : Nat), Row W B g n cap xs → Cnt W w.heap.size → 1 ≤ x → x + 1 < n → Calls Tryz.prog 214 #[.slice (some ⟨g, 0, none⟩) n cap, .int .i64 (x : Int), .pointer (some ⟨w.heap.size, 0, none⟩)] W fun e w' => ∃ m : Nat, e = .returned (.int .i64 (m : Int)) ∧
      (m + 1 = x ∨ m = x ∨ m = x + 1) ∧ Row w' B g n cap xs ∧ Cnt w' w.heap.size ∧ W.grownBy w' (some w.heap.size)) := fun W x h1 h2 h3 h4 => adjacent_any h1 h2 hgc h3 h4 hn
  clear hr hl hq hi hj hk hab hb hin hin2 hgc
  by_cases h50 : 50 ≤ l
  · have z3 : decide ((50 : Int) ≤ (l : Int)) = true := decide_eq_true (by omega)
    have z4 : decide (50 ≤ l) = true := decide_eq_true h50
    have H2 := Lib.hid (HIN2.out h50)
    clear HIN2
    go_enter Tryz.func207, Tryz.ntmps207
    go_wp2_with fail
    refine (A.out _ _ R0.out K0.out (by have := H2.out; omega) (by have := H2.out; have := HB.out; omega)).mono ?_
    rintro e w1 ⟨m1, rfl, p1, r1, k1, g1⟩
    have R1 := Lib.hid r1
    have K1 := Lib.hid k1
    have G1 := Lib.hid g1
    have P1 := Lib.hid p1
    clear r1 k1 g1 p1
    go_wp2_with fail
    refine (A.out _ _ R1.out K1.out (by have := H2.out; omega) (by have := H2.out; have := HB.out; omega)).mono ?_
    rintro e w2 ⟨m2, rfl, p2, r2, k2, g2⟩
    have R2 := Lib.hid r2
    have K2 := Lib.hid k2
    have G2 := Lib.hid (grown_tr G1.out g2)
    have P2 := Lib.hid p2
    clear r2 k2 g2 p2
    go_wp2_with fail
    refine (A.out _ _ R2.out K2.out (by have := H2.out; omega) (by have := H2.out; have := HB.out; omega)).mono ?_
    rintro e w3 ⟨m3, rfl, p3, r3, k3, g3⟩
    have R3 := Lib.hid r3
    have K3 := Lib.hid k3
    have G3 := Lib.hid (grown_tr G2.out g3)
    have P3 := Lib.hid p3
    clear r3 k3 g3 p3
    go_wp2_with fail
    refine (M.out _ _ _ _ R3.out K3.out (by have := H2.out; have := HB.out; have := P1.out; omega) (by have := H2.out; have := HB.out; have := P2.out; omega) (by have := H2.out; have := HB.out; have := P3.out; omega)).mono ?_
    rintro e w4 ⟨m4, rfl, p4, r4, k4, g4⟩
    have R4 := Lib.hid r4
    have G4 := Lib.hid (grown_new (grown_tr G3.out g4) (some g))
    have P4 : Hid (a ≤ m4 ∧ m4 < b) := by
      show _ ∧ _
      have := H2.out
      have := P1.out
      have := P2.out
      have := P3.out
      omega
    obtain ⟨kk, hkk⟩ := k4
    have c4 := cell_of_row w4 w.heap.size 0 _ _ _ hkk
    clear r4 g4 p4 hkk
    by_cases h0 : kk = 0
    · subst h0
      go_wp2
      go_ret2
      exact ⟨m4, 1, rfl, P4.out.1, P4.out.2, .inr (.inl rfl), R4.out, G4.out⟩
    · have y0 : (kk == 0) = false := by simpa using h0
      by_cases h12 : kk = 12
      · subst h12
        go_wp2
        go_ret2
        exact ⟨m4, 2, rfl, P4.out.1, P4.out.2, .inr (.inr rfl), R4.out, G4.out⟩
      · have y1 : (kk == 12) = false := by simpa using h12
        go_wp2
        go_ret2
        exact ⟨m4, 0, rfl, P4.out.1, P4.out.2, .inl rfl, R4.out, G4.out⟩
  · have z3 : decide ((50 : Int) ≤ (l : Int)) = false := decide_eq_false (by omega)
    have z4 : decide (50 ≤ l) = false := decide_eq_false h50
    clear HIN2 A
    go_enter Tryz.func207, Tryz.ntmps207
    go_wp2_with fail
    refine (M.out _ _ _ _ R0.out K0.out (by have := HIN.out; have := HB.out; omega) (by have := HIN.out; have := HB.out; omega) (by have := HIN.out; have := HB.out; omega)).mono ?_
    rintro e w4 ⟨m4, rfl, p4, r4, k4, g4⟩
    have R4 := Lib.hid r4
    have G4 := Lib.hid (grown_new g4 (some g))
    have P4 : Hid (a ≤ m4 ∧ m4 < b) := by
      show _ ∧ _
      have := HIN.out
      omega
    obtain ⟨kk, hkk⟩ := k4
    have c4 := cell_of_row w4 w.heap.size 0 _ _ _ hkk
    clear r4 g4 p4 hkk
    by_cases h0 : kk = 0
    · subst h0
      go_wp2
      go_ret2
      exact ⟨m4, 1, rfl, P4.out.1, P4.out.2, .inr (.inl rfl), R4.out, G4.out⟩
    · have y0 : (kk == 0) = false := by simpa using h0
      by_cases h12 : kk = 12
      · subst h12
        go_wp2
        go_ret2
        exact ⟨m4, 2, rfl, P4.out.1, P4.out.2, .inr (.inr rfl), R4.out, G4.out⟩
      · have y1 : (kk == 12) = false := by simpa using h12
        go_wp2
        go_ret2
        exact ⟨m4, 0, rfl, P4.out.1, P4.out.2, .inl rfl, R4.out, G4.out⟩
set_option maxRecDepth 100000 in
set_option maxHeartbeats 2000000 in
theorem reverse_any {B g n cap a b : Nat} {xs : List Nat} {w : World} (hr : Row w B g n cap xs) (hab : a < b) (hb : b ≤ n) (hn : n ≤ 1000000) :
    Calls Tryz.prog 208 #[.slice (some ⟨g, 0, none⟩) n cap, .int .i64 (a : Int), .int .i64 (b : Int)] w fun e w' => e = .returned (.tuple #[]) ∧
      ∃ ys, Row w' B g n cap ys ∧ w.grownBy w' (some g) ∧ Sw a b xs ys := by
  have HR := Lib.hid hr
  have G0 := Lib.hid (World.grownBy.refl w (some g))
  have S0 := Lib.hid (Sw.refl a b xs)
  obtain ⟨t, ht⟩ : ∃ t, b = t + 1 := ⟨b - 1, by omega⟩
  have e1 : (b : Int) - 1 = (t : Int) := by omega
  have e2 : IntKind.i64.wrap (t : Int) = (t : Int) := IntWalk.i64_in _ (by omega)
  have HT := Lib.hid ht
  have htn : t < n := by omega
  have hat : a ≤ t := by omega
  clear hr ht
  go_enter Tryz.func208, Tryz.ntmps208
  go_wp2
  go_loopw [6, 7] (fun i j wr => ∃ (k m : Nat) (ys : List Nat), i = .int .i64 (k : Int) ∧ j = .int .i64 (m : Int) ∧ a ≤ k ∧ k ≤ t + 1 ∧ m ≤ t ∧ k + m = a + t ∧ Hid (Row wr B g n cap ys) ∧ Hid (w.grownBy wr (some g)) ∧ Hid (Sw a b xs ys)) (fun i j _ => (intOf j).toNat)
  case atStart => exact ⟨a, t, xs, rfl, rfl, by omega, by omega, by omega, rfl, HR, G0, S0⟩
  case round =>
    clear HR G0 S0 e1 e2
    obtain ⟨k, m, ys, rfl, rfl, h1, h2, h3, h4, hR, hG, hS⟩ := hrel
    obtain ⟨wo, rfl⟩ : ∃ wo : World, wo = wr := ⟨_, rfl⟩
    by_cases hkm : k < m
    · have p1 : decide (k < m) = true := decide_eq_true hkm
      have p2 : decide ((k : Int) < (m : Int)) = true := decide_eq_true (by omega)
      have i3 : (0 : Int) ≤ (m : Int) := by omega
      have i4 : (m : Int) < (n : Int) := by omega
      have i5 : (0 : Int) ≤ (k : Int) := by omega
      have i6 : (k : Int) < (n : Int) := by omega
      obtain ⟨m', hm'⟩ : ∃ m', m = m' + 1 := ⟨m - 1, by omega⟩
      have HM := Lib.hid hm'
      have e3 : (m : Int) - 1 = (m' : Int) := by omega
      have e4 : IntKind.i64.wrap (m' : Int) = (m' : Int) := IntWalk.i64_in _ (by omega)
      have e5 : IntKind.i64.wrap ((k : Int) + 1) = (k : Int) + 1 := IntWalk.i64_in _ (by omega)
      obtain ⟨x, hx⟩ : ∃ x, x = ys.getD k 0 := ⟨_, rfl⟩
      obtain ⟨y, hy⟩ : ∃ y, y = ys.getD m 0 := ⟨_, rfl⟩
      have c1 := hR.out.cell k (by omega)
      have c2 := hR.out.cell m (by omega)
      have f1 := hR.out.free k
      have f2 := hR.out.free m
      rw [← hx] at c1
      rw [← hy] at c2
      have hlen := hR.out.len
      have ht := HT.out
      have HS2 : Hid (Sw a b xs (ex ys k m)) := hS.out.trans (Sw.ex (by omega) (by omega) (by omega) (by omega) (by omega))
      have HE : Hid (∀ N, Row (((wo.drewN N).setCell ⟨g, k, none⟩ (.int .u32 (y : Int))).setCell ⟨g, m, none⟩ (.int .u32 (x : Int))) B g n cap (ex ys k m) ∧ w.grownBy (((wo.drewN N).setCell ⟨g, k, none⟩ (.int .u32 (y : Int))).setCell ⟨g, m, none⟩ (.int .u32 (x : Int))) (some g)) := fun N => by
        have h := (hR.out.draw N).ex k m
        rw [← hx, ← hy] at h
        exact ⟨h.1, grown_tr (grown_draw hG.out N) h.2⟩
      clear hx hy hm' ht hlen
      go_wp2
      go_region
      go_wp2
      go_roundw
      case rel => exact ⟨k + 1, m', ex ys k m, by go_num, by go_num, by omega, by omega, by have := HM.out; omega, by have := HM.out; omega, Lib.hid (HE.out 1).1, Lib.hid (HE.out 1).2, HS2⟩
      case measure => have := HM.out; simp [intOf]; omega
    · have p1 : decide (k < m) = false := decide_eq_false hkm
      have p2 : decide ((k : Int) < (m : Int)) = false := decide_eq_false (by omega)
      go_wp2
      go_end0
      exact ⟨rfl, ys, hR.out, hG.out, hS.out⟩
end Go.Proofs.YtgjbnbojjgbmcaaGreat.Srt

namespace Go.Proofs.YtgjbnbojjgbmcaaGreat.Srt
open Go.RowKit
attribute [local go_sem ↓] Go.wp_at_zero Go.wp_at_succ
/-- The state of the random numbers, in a block of its own. -/
def Rnd (w : World) (c : Nat) : Prop := ∃ k : Nat, k < 18446744073709551616 ∧ w.heap[c]? = some (.cells #[.int .u64 (k : Int)] 227)
set_option maxRecDepth 100000 in
theorem bits_nat (o : BinOp) (x y : Int) : ∃ r : Nat, r < 18446744073709551616 ∧ bits o .u64 x y = (r : Int) := by
  have h : 0 ≤ bits o .u64 x y ∧ bits o .u64 x y < 18446744073709551616 := by
    unfold bits
    split <;> (rw [IntKind.wrap_u64]; omega)
  exact ⟨(bits o .u64 x y).toNat, by omega, by omega⟩
theorem next_any {c : Nat} {w : World} (hc : Rnd w c) :
    Calls Tryz.prog 192 #[.pointer (some ⟨c, 0, none⟩)] w fun e w' => ∃ r : Nat, r < 18446744073709551616 ∧ e = .returned (.int .u64 (r : Int)) ∧ Rnd w' c ∧ w.grownBy w' (some c) := by
  obtain ⟨k, hk, hb⟩ := hc
  have STEP : Hid (∀ (W : World) (p q : Nat), q < 18446744073709551616 → W.heap[c]? = some (.cells #[.int .u64 (p : Int)] 227) → ∃ W', W' = (W.setCell ⟨c, 0, none⟩ (.int .u64 (q : Int))).drew ∧ W.grownBy W' (some c) ∧ W'.heap[c]? = some (.cells #[.int .u64 (q : Int)] 227) ∧ W'.cell? ⟨c, 0, none⟩ = some (.int .u64 (q : Int)) ∧ W'.frozen? ⟨c, 0, none⟩ = false) := fun W p q hq hb => by
    have h := heap_setCell_same W c 0 _ _ (.int .u64 (q : Int)) hb
    have h' : ((W.setCell ⟨c, 0, none⟩ (.int .u64 (q : Int))).drew).heap[c]? = some (.cells #[.int .u64 (q : Int)] 227) := h
    exact ⟨_, rfl, grown_draw (grown_cell W ⟨c, 0, none⟩ _) 1, h', cell_of_row _ c 0 _ _ _ h', frozen_of_row _ c 0 _ _ h'⟩
  have k0 := cell_of_row w c 0 _ _ _ hb
  have k1 := frozen_of_row w c 0 _ _ hb
  have HB := Lib.hid hb
  clear hb
  go_enter Tryz.func192, Tryz.ntmps192
  go_wp2
  go_region
  obtain ⟨p1, hp1, e1⟩ := bits_nat .xor (k : Int) (IntKind.u64.wrap ((k : Int) * 8192))
  rw [e1]
  obtain ⟨W1, hW1, g1, b1, c1, f1⟩ := STEP.out w k p1 hp1 HB.out
  rw [← hW1]
  have G1 := Lib.hid g1
  have B1 := Lib.hid b1
  clear hW1 g1 b1 k0 k1 e1
  go_wp2
  go_region
  obtain ⟨p2, hp2, e2⟩ := bits_nat .xor (p1 : Int) ((p1 : Int) / 128)
  rw [e2] 
  obtain ⟨W2, hW2, g2, b2, c2, f2⟩ := STEP.out W1 p1 p2 hp2 B1.out
  rw [← hW2]
  have G2 := Lib.hid (grown_tr G1.out g2)
  have B2 := Lib.hid b2
  clear hW2 g2 b2 c1 f1 e2
  go_wp2
  go_region
  obtain ⟨p3, hp3, e3⟩ := bits_nat .xor (p2 : Int) (IntKind.u64.wrap ((p2 : Int) * 131072))
  rw [e3]
  obtain ⟨W3, hW3, g3, b3, c3, f3⟩ := STEP.out W2 p2 p3 hp3 B2.out
  rw [← hW3]
  have G3 := Lib.hid (grown_tr G2.out g3)
  have B3 := Lib.hid b3
  clear hW3 g3 b3 c2 f2 e3
  go_wp2
  go_ret
  exact ⟨p3, hp3, rfl, ⟨p3, hp3, B3.out⟩, G3.out⟩
set_option maxRecDepth 100000 in
theorem pow_any (x : Nat) (hx : x ≤ 1024) (h1 : 1 ≤ x) (w : World) : Calls Tryz.prog 191 #[.int .i64 (x : Int)] w fun e w' => (∃ m : Nat, e = .returned (.int .u64 (m : Int)) ∧ 1 ≤ m ∧ m ≤ 2 * x) ∧ w' = w := by
  have L := Lib.hid (len_any x hx)
  have e1 : IntKind.u64.wrap (x : Int) = (x : Int) := by rw [IntKind.wrap_u64]; omega
  go_enter Tryz.func191, Tryz.ntmps191
  go_wp2_with fail
  refine (L.out _).mono ?_
  rintro e w1 ⟨⟨k, rfl, hk⟩, rfl⟩
  have hk11 := hk.1
  obtain ⟨m, hm⟩ : ∃ m, m = 2 ^ k := ⟨_, rfl⟩
  have h2 : m ≤ 2 * x := by rw [hm]; exact hk.2.2 h1
  have h3 : 1 ≤ m := by rw [hm]; exact Nat.one_le_two_pow
  have e2 : IntKind.u64.wrap ((2 : Int) ^ k) = (m : Int) := by
    have e : ((2 : Int) ^ k) = (m : Int) := by rw [hm]; push_cast; rfl
    rw [e, IntKind.wrap_u64]
    omega
  have HM : Hid (1 ≤ m ∧ m ≤ 2 * x) := ⟨h3, h2⟩
  clear hm hk h2 h3
  go_wp2
  go_ret
  exact ⟨⟨m, rfl, HM.out⟩, rfl⟩
theorem bits_and_le (a b : Nat) (ha : a < 18446744073709551616) (hb : b < 18446744073709551616) : ∃ r : Nat, r ≤ b ∧ bits .and .u64 (a : Int) (b : Int) = (r : Int) := by
  refine ⟨a &&& b, Nat.and_le_right, ?_⟩
  have hx : a &&& b ≤ b := Nat.and_le_right
  have h1 : (BitVec.ofInt 64 (a : Int)).toNat = a := by
    rw [BitVec.ofInt_natCast, BitVec.toNat_ofNat]; exact Nat.mod_eq_of_lt (by omega)
  have h2 : (BitVec.ofInt 64 (b : Int)).toNat = b := by
    rw [BitVec.ofInt_natCast, BitVec.toNat_ofNat]; exact Nat.mod_eq_of_lt (by omega)
  show IntKind.u64.wrap ((BitVec.ofInt 64 (a : Int) &&& BitVec.ofInt 64 (b : Int)).toNat : Int) = _
  rw [BitVec.toNat_and, h1, h2, IntKind.wrap_u64]
  omega
theorem grown_over {w a b : World} {g c : Nat} (h : w.grownBy a (some g)) (k : a.grownBy b (some c)) (hc : w.heap.size ≤ c) : w.grownBy b (some g) :=
  ⟨k.os.trans h.os, k.tape.trans h.tape, k.output.trans h.output, Nat.le_trans h.size k.size, fun i hi hne => (k.block i (Nat.lt_of_lt_of_le hi h.size) (fun e => by have := Option.some.inj e; omega)).trans (h.block i hi hne)⟩
theorem Rnd.other {w w' : World} {c g : Nat} (h : Rnd w c) (hg : w.grownBy w' (some g)) (hne : g ≠ c) : Rnd w' c := by
  obtain ⟨k, h1, h2⟩ := h
  exact ⟨k, h1, (hg.block c (Array.getElem?_eq_some_iff.1 h2).1 (fun e => hne (Option.some.inj e).symm)).trans h2⟩
set_option maxRecDepth 100000 in
set_option maxHeartbeats 4000000 in
theorem break_any {B g n cap a b : Nat} {xs : List Nat} {w : World} (hr : Row w B g n cap xs) (hab : a + 12 < b) (hb : b ≤ n) (hn : n ≤ 1024) :
    Calls Tryz.prog 206 #[.slice (some ⟨g, 0, none⟩) n cap, .int .i64 (a : Int), .int .i64 (b : Int)] w fun e w' => e = .returned (.tuple #[]) ∧
      ∃ ys, Row w' B g n cap ys ∧ w.grownBy w' (some g) ∧ Sw a b xs ys := by
  obtain ⟨l, hl⟩ : ∃ l, l = b - a := ⟨_, rfl⟩
  obtain ⟨q, hq⟩ : ∃ q, q = l / 4 := ⟨_, rfl⟩
  have e1 : (b : Int) - (a : Int) = (l : Int) := by omega
  have e2 : IntKind.i64.wrap (l : Int) = (l : Int) := IntWalk.i64_in _ (by omega)
  have e2' : IntKind.u64.wrap (l : Int) = (l : Int) := by rw [IntKind.wrap_u64]; omega
  have d1 : (l : Int) / 4 = (q : Int) := by omega
  have d2 : Int.tdiv (l : Int) 4 = (q : Int) := by rw [Int.tdiv_eq_ediv_of_nonneg (by omega)]; omega
  have e3 : IntKind.i64.wrap (q : Int) = (q : Int) := IntWalk.i64_in _ (by omega)
  have e4 : IntKind.i64.wrap ((q : Int) * 2) = (q : Int) * 2 := IntWalk.i64_in _ (by omega)
  obtain ⟨d, hd⟩ : ∃ d, d = a + q * 2 := ⟨_, rfl⟩
  obtain ⟨s0, hs0⟩ : ∃ s, d = s + 1 := ⟨d - 1, by omega⟩
  have a2 : (a : Int) + (q : Int) * 2 = (d : Int) := by omega
  have b2 : IntKind.i64.wrap (d : Int) = (d : Int) := IntWalk.i64_in _ (by omega)
  have a3 : (d : Int) - 1 = (s0 : Int) := by omega
  have b3 : IntKind.i64.wrap (s0 : Int) = (s0 : Int) := IntWalk.i64_in _ (by omega)
  have a4 : IntKind.i64.wrap ((d : Int) + 1) = (d : Int) + 1 := IntWalk.i64_in _ (by omega)
  have z1 : decide ((8 : Int) ≤ (l : Int)) = true := decide_eq_true (by omega)
  have z2 : decide (8 ≤ l) = true := decide_eq_true (by omega)
  have HD : Hid (d = s0 + 1 ∧ a ≤ s0 ∧ s0 + 2 < b ∧ b ≤ n ∧ n ≤ 1024 ∧ b = a + l ∧ 1 ≤ l) := by show _ ∧ _; omega
  have PW := Lib.hid (pow_any l (by omega) (by omega))
  have hgc : g ≠ w.heap.size := Nat.ne_of_lt hr.lt
  have hgw := hr.lt
  have R0 : Hid (Row (w.alloc (.cells #[.int .u64 (l : Int)] 227)) B g n cap xs) := hr.keeps ((Below.refl _ _).alloc (Nat.le_refl _) _)
  have K0 : Hid (Rnd (w.alloc (.cells #[.int .u64 (l : Int)] 227)) w.heap.size) := ⟨l, by omega, heap_alloc_new w _⟩
  have G0 : Hid (w.grownBy (w.alloc (.cells #[.int .u64 (l : Int)] 227)) (some g)) := grown_of ((Below.refl _ _).alloc (Nat.le_refl _) _) _
  have S0 := Lib.hid (Sw.refl a b xs)
  have HGC := Lib.hid hgc
  clear hr hl hq hd hs0 hab hb hn hgc hgw
  go_enter Tryz.func206, Tryz.ntmps206
  go_wp2_with fail
  refine (PW.out _).mono ?_
  rintro e w1 ⟨⟨m, rfl, hm1, hm2⟩, rfl⟩
  obtain ⟨m', hm'⟩ : ∃ m', m = m' + 1 := ⟨m - 1, by omega⟩
  have n1 : (m : Int) - 1 = (m' : Int) := by omega
  have n2 : IntKind.u64.wrap (m' : Int) = (m' : Int) := by rw [IntKind.wrap_u64]; have := HD.out; omega
  have HMM : Hid (m' + 1 ≤ 2 * l) := by show _ ≤ _; omega
  clear hm' hm1 hm2 PW
  go_wp2
  go_loopw [9] (fun i wr => ∃ (s : Nat) (ys : List Nat), s0 ≤ s ∧ s ≤ s0 + 3 ∧ i = .int .i64 (s : Int) ∧ Hid (Row wr B g n cap ys) ∧ Hid (Rnd wr w.heap.size) ∧ Hid (w.grownBy wr (some g)) ∧ Hid (Sw a b xs ys)) (fun i _ => s0 + 3 - (intOf i).toNat)
  case atStart => exact ⟨s0, xs, by omega, by omega, rfl, R0, K0, G0, S0⟩
  case round =>
    clear R0 K0 G0 S0
    obtain ⟨s, ys, hs1, hs2, rfl, hR, hK, hG, hS⟩ := hrel
    by_cases hsd : s ≤ d + 1
    · have p1 : decide ((s : Int) ≤ (d : Int) + 1) = true := decide_eq_true (by omega)
      have p2 : decide (s ≤ d + 1) = true := decide_eq_true hsd
      have es : IntKind.i64.wrap ((s : Int) + 1) = (s : Int) + 1 := IntWalk.i64_in _ (by have := HD.out; omega)
      have i3 : (0 : Int) ≤ (s : Int) := by omega
      have i4 : (s : Int) < (n : Int) := by have := HD.out; omega
      have NX := Lib.hid (next_any hK.out)
      go_wp2_with fail
      refine NX.out.mono ?_
      rintro e w2 ⟨r, hr, rfl, k2, g2⟩
      have R2 := Lib.hid (hR.out.other g2 HGC.out)
      have K2 := Lib.hid k2
      have G2 := Lib.hid (grown_over hG.out g2 (Nat.le_refl _))
      obtain ⟨v, hv, ev⟩ := bits_and_le r m' hr (by have := HMM.out; have := HD.out; omega)
      have ev2 : IntKind.i64.wrap (v : Int) = (v : Int) := IntWalk.i64_in _ (by have := HMM.out; have := HD.out; omega)
      obtain ⟨o, ho⟩ : ∃ o, o = if l ≤ v then v - l else v := ⟨_, rfl⟩
      obtain ⟨p, hp⟩ : ∃ p, p = a + o := ⟨_, rfl⟩
      have hol : o < l := by
        have := HMM.out
        rw [ho]
        split <;> omega
      have pe : (a : Int) + (o : Int) = (p : Int) := by omega
      have pw : IntKind.i64.wrap (p : Int) = (p : Int) := IntWalk.i64_in _ (by have := HD.out; omega)
      have hpb : p < b ∧ a ≤ p := by have := HD.out; omega
      have i5 : (0 : Int) ≤ (p : Int) := by omega
      have i6 : (p : Int) < (n : Int) := by have := HD.out; omega
      obtain ⟨y, hy⟩ : ∃ y, y = ys.getD s 0 := ⟨_, rfl⟩
      obtain ⟨z, hz⟩ : ∃ z, z = ys.getD p 0 := ⟨_, rfl⟩
      have hd := HD.out
      have c1 := R2.out.cell s (by omega)
      have c2 := R2.out.cell p (by omega)
      have f1 := R2.out.free s
      have f2 := R2.out.free p
      have s1 := (R2.out.sec s p (by omega) (by omega))
      rw [← hy] at c1
      rw [← hz] at c2 s1
      obtain ⟨s1a, s1b⟩ := s1
      have hlen := R2.out.len
      have HS2 : Hid (Sw a b xs (ex ys s p)) := hS.out.trans (Sw.ex (by omega) (by omega) (by omega) (by omega) (by omega))
      have HE : Hid (∀ N, Row (((w2.drewN N).setCell ⟨g, s, none⟩ (.int .u32 (z : Int))).setCell ⟨g, p, none⟩ (.int .u32 (y : Int))) B g n cap (ex ys s p) ∧ Rnd (((w2.drewN N).setCell ⟨g, s, none⟩ (.int .u32 (z : Int))).setCell ⟨g, p, none⟩ (.int .u32 (y : Int))) w.heap.size ∧ w.grownBy (((w2.drewN N).setCell ⟨g, s, none⟩ (.int .u32 (z : Int))).setCell ⟨g, p, none⟩ (.int .u32 (y : Int))) (some g)) := fun N => by
        have h := (R2.out.draw N).ex s p
        rw [← hy, ← hz] at h
        exact ⟨h.1, Rnd.other K2.out (grown_tr (grown_draw (World.grownBy.refl w2 _) N) h.2) HGC.out, grown_tr (grown_draw G2.out N) h.2⟩
      have HO := Lib.hid ho
      have HOL := Lib.hid hol
      clear k2 g2 hr hv ho hp hol hpb hy hz hd hlen
      by_cases hvl : l ≤ v
      · have v1 : decide ((l : Int) ≤ (v : Int)) = true := decide_eq_true (by omega)
        have v2 : decide (l ≤ v) = true := decide_eq_true hvl
        have v3 : (v : Int) - (l : Int) = (o : Int) := by have h := HO.out; rw [if_pos hvl] at h; omega
        have v4 : IntKind.i64.wrap (o : Int) = (o : Int) := IntWalk.i64_in _ (by have := HOL.out; have := HD.out; omega)
        go_wp2
        go_region
        go_wp2
        go_roundw
        case rel => exact ⟨s + 1, ex ys s p, by omega, by have := HD.out; omega, by go_num, Lib.hid (HE.out 1).1, Lib.hid (HE.out 1).2.1, Lib.hid (HE.out 1).2.2, HS2⟩
        case measure => have := HD.out; simp [intOf]; omega
      · have v1 : decide ((l : Int) ≤ (v : Int)) = false := decide_eq_false (by omega)
        have v2 : decide (l ≤ v) = false := decide_eq_false hvl
        obtain rfl : o = v := by have h := HO.out; rw [if_neg hvl] at h; exact h
        go_wp2
        go_region
        go_wp2
        go_roundw
        case rel => exact ⟨s + 1, ex ys s p, by omega, by have := HD.out; omega, by go_num, Lib.hid (HE.out 1).1, Lib.hid (HE.out 1).2.1, Lib.hid (HE.out 1).2.2, HS2⟩
        case measure => have := HD.out; simp [intOf]; omega
    · have p1 : decide ((s : Int) ≤ (d : Int) + 1) = false := decide_eq_false (by omega)
      have p2 : decide (s ≤ d + 1) = false := decide_eq_false hsd
      go_wp2
      go_end0
      exact ⟨rfl, ys, hR.out, hG.out, hS.out⟩
end Go.Proofs.YtgjbnbojjgbmcaaGreat.Srt

namespace Go.Proofs.YtgjbnbojjgbmcaaGreat.Srt
open Go.RowKit
attribute [local go_sem ↓] Go.wp_at_zero Go.wp_at_succ
set_option maxRecDepth 100000 in
set_option maxHeartbeats 8000000 in
theorem sift_any {B g n cap f lo hi : Nat} {xs : List Nat} {w : World} (hr : Row w B g n cap xs) (hh : Hp f (lo + 1) hi xs) (hlo : lo ≤ hi) (hf : f + hi ≤ n) (hn : n ≤ 1000000) :
    Calls Tryz.prog 213 #[.slice (some ⟨g, 0, none⟩) n cap, .int .i64 (lo : Int), .int .i64 (hi : Int), .int .i64 (f : Int)] w fun e w' => e = .returned (.tuple #[]) ∧
      ∃ ys, Row w' B g n cap ys ∧ w.grownBy w' (some g) ∧ Sw (f + lo) (f + hi) xs ys ∧ Hp f lo hi ys := by
  have HR := Lib.hid hr
  have G0 := Lib.hid (World.grownBy.refl w (some g))
  have S0 := Lib.hid (Sw.refl (f + lo) (f + hi) xs)
  have H0 := Lib.hid (hr_start hh)
  clear hr hh
  go_enter Tryz.func213, Tryz.ntmps213
  go_wp2
  go_loopw [8] (fun i wr => ∃ (r : Nat) (ys : List Nat), lo ≤ r ∧ r ≤ hi ∧ i = .int .i64 (r : Int) ∧ Hid (Row wr B g n cap ys) ∧ Hid (w.grownBy wr (some g)) ∧ Hid (Sw (f + lo) (f + hi) xs ys) ∧ Hid (Hr f lo hi r ys)) (fun i _ => hi - (intOf i).toNat)
  case atStart => exact ⟨lo, xs, by omega, by omega, rfl, HR, G0, S0, H0⟩
  case round =>
    clear HR G0 S0 H0
    obtain ⟨r, ys, hr1, hr2, rfl, hR, hG, hS, hH⟩ := hrel
    obtain ⟨wo, rfl⟩ : ∃ wo : World, wo = wr := ⟨_, rfl⟩
    obtain ⟨c, hc⟩ : ∃ c, c = 2 * r + 1 := ⟨_, rfl⟩
    have e1 : IntKind.i64.wrap (2 * (r : Int)) = 2 * (r : Int) := IntWalk.i64_in _ (by omega)
    have e2 : 2 * (r : Int) + 1 = (c : Int) := by omega
    have e3 : IntKind.i64.wrap (c : Int) = (c : Int) := IntWalk.i64_in _ (by omega)
    have HC := Lib.hid hc
    have hcr : r < c := by omega
    have hcb : c ≤ 2000001 := by omega
    clear hc
    by_cases hch : hi ≤ c
    · have q1 : decide ((hi : Int) ≤ (c : Int)) = true := decide_eq_true (by omega)
      have q2 : decide (hi ≤ c) = true := decide_eq_true hch
      have HE : Hid (Hp f lo hi ys) := hr_end hH.out (fun d hd hdh => by have := HC.out; omega)
      clear hH
      go_wp2
      go_end0
      exact ⟨rfl, ys, hR.out, hG.out, hS.out, HE.out⟩
    have q1 : decide ((hi : Int) ≤ (c : Int)) = false := decide_eq_false (by omega)
    have q2 : decide (hi ≤ c) = false := decide_eq_false hch
    obtain ⟨d, hd⟩ : ∃ d, d = c + 1 := ⟨_, rfl⟩
    have e4 : (c : Int) + 1 = (d : Int) := by omega
    have e5 : IntKind.i64.wrap (d : Int) = (d : Int) := IntWalk.i64_in _ (by omega)
    have HD := Lib.hid hd
    have hdb : d ≤ 2000002 := by omega
    clear hd
    obtain ⟨fr, hfr⟩ : ∃ p, p = f + r := ⟨_, rfl⟩
    obtain ⟨fc, hfc⟩ : ∃ p, p = f + c := ⟨_, rfl⟩
    obtain ⟨fd, hfd⟩ : ∃ p, p = f + d := ⟨_, rfl⟩
    have a1 : (f : Int) + (r : Int) = (fr : Int) := by omega
    have a2 : (f : Int) + (c : Int) = (fc : Int) := by omega
    have a3 : (f : Int) + (d : Int) = (fd : Int) := by omega
    have a4 : (fc : Int) + 1 = (fd : Int) := by omega
    have b1 : IntKind.i64.wrap (fr : Int) = (fr : Int) := IntWalk.i64_in _ (by omega)
    have b2 : IntKind.i64.wrap (fc : Int) = (fc : Int) := IntWalk.i64_in _ (by omega)
    have b3 : IntKind.i64.wrap (fd : Int) = (fd : Int) := IntWalk.i64_in _ (by omega)
    have d1 : (0 : Int) ≤ (fr : Int) := by omega
    have d2 : (fr : Int) < (n : Int) := by omega
    have d3 : (0 : Int) ≤ (fc : Int) := by omega
    have d4 : (fc : Int) < (n : Int) := by omega
    obtain ⟨x0, hx0⟩ : ∃ x, x = ys.getD fr 0 := ⟨_, rfl⟩
    obtain ⟨x1, hx1⟩ : ∃ x, x = ys.getD fc 0 := ⟨_, rfl⟩
    have c0 := hR.out.cell fr (by omega)
    have c1 := hR.out.cell fc (by omega)
    have f0 := hR.out.free fr
    have f1 := hR.out.free fc
    rw [← hx0] at c0
    rw [← hx1] at c1
    have FR := Lib.hid hfr
    have FC := Lib.hid hfc
    have FD := Lib.hid hfd
    have X0 := Lib.hid hx0
    have X1 := Lib.hid hx1
    clear hfr hfc hfd hx0 hx1
    by_cases hdh : d < hi
    · have q3 : decide ((d : Int) < (hi : Int)) = true := decide_eq_true (by omega)
      have q4 : decide (d < hi) = true := decide_eq_true hdh
      have d5 : (0 : Int) ≤ (fd : Int) := by omega
      have d6 : (fd : Int) < (n : Int) := by have := FD.out; omega
      obtain ⟨x2, hx2⟩ : ∃ x, x = ys.getD fd 0 := ⟨_, rfl⟩
      have c2 := hR.out.cell fd (by have := FD.out; omega)
      have f2 := hR.out.free fd
      rw [← hx2] at c2
      have X2 := Lib.hid hx2
      clear hx2
      obtain ⟨q, hq⟩ : ∃ q, decide (x1 < x2) = q := ⟨_, rfl⟩
      have LS := Lib.hid (less_is hq)
      have HQ := Lib.hid hq
      clear hq
      cases q
      · have HM : Hid (∀ k, (k = 2 * r + 1 ∨ k = 2 * r + 2) → k < hi → ys.getD (f + k) 0 ≤ x1) := fun k hk hkh => by
          have h := of_decide_eq_false HQ.out
          have hcd := HC.out
          have hdd := HD.out
          rcases hk with rfl | rfl
          · rw [show f + (2 * r + 1) = fc by have := FC.out; omega, ← X1.out]; exact Nat.le_refl _
          · rw [show f + (2 * r + 2) = fd by have := FD.out; omega, ← X2.out]; omega
        obtain ⟨p, hp⟩ : ∃ p, decide (x0 < x1) = p := ⟨_, rfl⟩
        have LR := Lib.hid (less_is hp)
        have HP := Lib.hid hp
        clear hp
        cases p
        · have HE : Hid (Hp f lo hi ys) := hr_end hH.out (fun k hk hkh => by
            have h1 := HM.out k hk hkh
            have h2 := of_decide_eq_false HP.out
            rw [← FR.out, ← X0.out]
            omega)
          clear hH
          go_wp2
          go_quiet ((go_at_call 210; refine Calls.quiet_of_same (LS.out _)))
          go_wp2
          have hR1 := hR.out.draw nq
          have hG1 := grown_draw hG.out nq
          generalize wo.drewN nq = w1 at hR1 hG1 ⊢
          have c0 := hR1.cell fr (by omega)
          have cv := hR1.cell fc (by omega)
          have f0 := hR1.free fr
          have fv := hR1.free fc
          rw [← X0.out] at c0
          rw [← X1.out] at cv
          have R1 := Lib.hid hR1
          have G1 := Lib.hid hG1
          clear hR1 hG1
          go_quiet ((go_at_call 210; refine Calls.quiet_of_same (LR.out _)))
          go_wp2
          (try simp only [Exit.inBlock, Exit.then])
          refine bodyPost_ret (results_none rfl _ _ _) rfl ?_
          exact ⟨rfl, ys, R1.out.draw _, grown_draw G1.out _, hS.out, HE.out⟩
        · have hlt := of_decide_eq_true HP.out
          have hlen := hR.out.len
          have HS2 : Hid (Sw (f + lo) (f + hi) xs (ex ys fr fc)) := hS.out.trans (Sw.ex (by have := FR.out; omega) (by have := FR.out; omega) (by have := FC.out; have := FD.out; omega) (by have := FC.out; have := FD.out; omega) (by omega))
          have HH2 : Hid (Hr f lo hi c (ex ys fr fc)) := by
            have h := hr_step (c := c) hH.out hr1 (by have := HC.out; have := HD.out; omega) (by omega) (by omega) (by rw [← FR.out, ← FC.out, ← X0.out, ← X1.out]; exact hlt) (fun k hk hkh => by have := HM.out k hk hkh; rw [← FC.out, ← X1.out]; exact this)
            rw [← FR.out, ← FC.out] at h
            exact h
          clear hH HM
          go_wp2
          go_quiet ((go_at_call 210; refine Calls.quiet_of_same (LS.out _)))
          go_wp2
          have hR1 := hR.out.draw nq
          have hG1 := grown_draw hG.out nq
          generalize wo.drewN nq = w1 at hR1 hG1 ⊢
          have c0 := hR1.cell fr (by omega)
          have cv := hR1.cell fc (by omega)
          have f0 := hR1.free fr
          have fv := hR1.free fc
          rw [← X0.out] at c0
          rw [← X1.out] at cv
          have R1 := Lib.hid hR1
          have G1 := Lib.hid hG1
          clear hR1 hG1
          have HX : Hid (∀ N, Row (((w1.drewN N).setCell ⟨g, fr, none⟩ (.int .u32 (x1 : Int))).setCell ⟨g, fc, none⟩ (.int .u32 (x0 : Int))) B g n cap (ex ys fr fc) ∧ w.grownBy (((w1.drewN N).setCell ⟨g, fr, none⟩ (.int .u32 (x1 : Int))).setCell ⟨g, fc, none⟩ (.int .u32 (x0 : Int))) (some g)) := fun N => by
            have h := (R1.out.draw N).ex fr fc
            rw [← X0.out, ← X1.out] at h
            exact ⟨h.1, grown_tr (grown_draw G1.out N) h.2⟩
          go_quiet ((go_at_call 210; refine Calls.quiet_of_same (LR.out _)))
          go_wp2
          go_region
          go_wp2
          go_roundw
          case rel => exact ⟨c, ex ys fr fc, by omega, by omega, by go_num, Lib.hid (HX.out _).1, Lib.hid (HX.out _).2, HS2, HH2⟩
          case measure => simp [intOf]; omega
      · have HM : Hid (∀ k, (k = 2 * r + 1 ∨ k = 2 * r + 2) → k < hi → ys.getD (f + k) 0 ≤ x2) := fun k hk hkh => by
          have h := of_decide_eq_true HQ.out
          have hcd := HC.out
          have hdd := HD.out
          rcases hk with rfl | rfl
          · rw [show f + (2 * r + 1) = fc by have := FC.out; omega, ← X1.out]; omega
          · rw [show f + (2 * r + 2) = fd by have := FD.out; omega, ← X2.out]; exact Nat.le_refl _
        obtain ⟨p, hp⟩ : ∃ p, decide (x0 < x2) = p := ⟨_, rfl⟩
        have LR := Lib.hid (less_is hp)
        have HP := Lib.hid hp
        clear hp
        cases p
        · have HE : Hid (Hp f lo hi ys) := hr_end hH.out (fun k hk hkh => by
            have h1 := HM.out k hk hkh
            have h2 := of_decide_eq_false HP.out
            rw [← FR.out, ← X0.out]
            omega)
          clear hH
          go_wp2
          go_quiet ((go_at_call 210; refine Calls.quiet_of_same (LS.out _)))
          go_wp2
          have hR1 := hR.out.draw nq
          have hG1 := grown_draw hG.out nq
          generalize wo.drewN nq = w1 at hR1 hG1 ⊢
          have c0 := hR1.cell fr (by omega)
          have cv := hR1.cell fd (by omega)
          have f0 := hR1.free fr
          have fv := hR1.free fd
          rw [← X0.out] at c0
          rw [← X2.out] at cv
          have R1 := Lib.hid hR1
          have G1 := Lib.hid hG1
          clear hR1 hG1
          go_quiet ((go_at_call 210; refine Calls.quiet_of_same (LR.out _)))
          go_wp2
          (try simp only [Exit.inBlock, Exit.then])
          refine bodyPost_ret (results_none rfl _ _ _) rfl ?_
          exact ⟨rfl, ys, R1.out.draw _, grown_draw G1.out _, hS.out, HE.out⟩
        · have hlt := of_decide_eq_true HP.out
          have hlen := hR.out.len
          have HS2 : Hid (Sw (f + lo) (f + hi) xs (ex ys fr fd)) := hS.out.trans (Sw.ex (by have := FR.out; omega) (by have := FR.out; omega) (by have := FC.out; have := FD.out; omega) (by have := FC.out; have := FD.out; omega) (by omega))
          have HH2 : Hid (Hr f lo hi d (ex ys fr fd)) := by
            have h := hr_step (c := d) hH.out hr1 (by have := HC.out; have := HD.out; omega) (by omega) (by omega) (by rw [← FR.out, ← FD.out, ← X0.out, ← X2.out]; exact hlt) (fun k hk hkh => by have := HM.out k hk hkh; rw [← FD.out, ← X2.out]; exact this)
            rw [← FR.out, ← FD.out] at h
            exact h
          clear hH HM
          go_wp2
          go_quiet ((go_at_call 210; refine Calls.quiet_of_same (LS.out _)))
          go_wp2
          have hR1 := hR.out.draw nq
          have hG1 := grown_draw hG.out nq
          generalize wo.drewN nq = w1 at hR1 hG1 ⊢
          have c0 := hR1.cell fr (by omega)
          have cv := hR1.cell fd (by omega)
          have f0 := hR1.free fr
          have fv := hR1.free fd
          rw [← X0.out] at c0
          rw [← X2.out] at cv
          have R1 := Lib.hid hR1
          have G1 := Lib.hid hG1
          clear hR1 hG1
          have HX : Hid (∀ N, Row (((w1.drewN N).setCell ⟨g, fr, none⟩ (.int .u32 (x2 : Int))).setCell ⟨g, fd, none⟩ (.int .u32 (x0 : Int))) B g n cap (ex ys fr fd) ∧ w.grownBy (((w1.drewN N).setCell ⟨g, fr, none⟩ (.int .u32 (x2 : Int))).setCell ⟨g, fd, none⟩ (.int .u32 (x0 : Int))) (some g)) := fun N => by
            have h := (R1.out.draw N).ex fr fd
            rw [← X0.out, ← X2.out] at h
            exact ⟨h.1, grown_tr (grown_draw G1.out N) h.2⟩
          go_quiet ((go_at_call 210; refine Calls.quiet_of_same (LR.out _)))
          go_wp2
          go_region
          go_wp2
          go_roundw
          case rel => exact ⟨d, ex ys fr fd, by omega, by omega, by go_num, Lib.hid (HX.out _).1, Lib.hid (HX.out _).2, HS2, HH2⟩
          case measure => simp [intOf]; omega
    · have q3 : decide ((d : Int) < (hi : Int)) = false := decide_eq_false (by omega)
      have q4 : decide (d < hi) = false := decide_eq_false hdh
      have HM : Hid (∀ k, (k = 2 * r + 1 ∨ k = 2 * r + 2) → k < hi → ys.getD (f + k) 0 ≤ x1) := fun k hk hkh => by
        have hcd := HC.out
        have hdd := HD.out
        rcases hk with rfl | rfl
        · rw [show f + (2 * r + 1) = fc by have := FC.out; omega, ← X1.out]; exact Nat.le_refl _
        · omega
      obtain ⟨p, hp⟩ : ∃ p, decide (x0 < x1) = p := ⟨_, rfl⟩
      have LR := Lib.hid (less_is hp)
      have HP := Lib.hid hp
      clear hp
      cases p
      · have HE : Hid (Hp f lo hi ys) := hr_end hH.out (fun k hk hkh => by
          have h1 := HM.out k hk hkh
          have h2 := of_decide_eq_false HP.out
          rw [← FR.out, ← X0.out]
          omega)
        clear hH
        go_wp2
        go_quiet (fail)
        go_wp2
        have hR1 := hR.out.draw nq
        have hG1 := grown_draw hG.out nq
        generalize wo.drewN nq = w1 at hR1 hG1 ⊢
        have c0 := hR1.cell fr (by omega)
        have cv := hR1.cell fc (by omega)
        have f0 := hR1.free fr
        have fv := hR1.free fc
        rw [← X0.out] at c0
        rw [← X1.out] at cv
        have R1 := Lib.hid hR1
        have G1 := Lib.hid hG1
        clear hR1 hG1
        go_quiet ((go_at_call 210; refine Calls.quiet_of_same (LR.out _)))
        go_wp2
        (try simp only [Exit.inBlock, Exit.then])
        refine bodyPost_ret (results_none rfl _ _ _) rfl ?_
        exact ⟨rfl, ys, R1.out.draw _, grown_draw G1.out _, hS.out, HE.out⟩
      · have hlt := of_decide_eq_true HP.out
        have hlen := hR.out.len
        have HS2 : Hid (Sw (f + lo) (f + hi) xs (ex ys fr fc)) := hS.out.trans (Sw.ex (by have := FR.out; omega) (by have := FR.out; omega) (by have := FC.out; have := FD.out; omega) (by have := FC.out; have := FD.out; omega) (by omega))
        have HH2 : Hid (Hr f lo hi c (ex ys fr fc)) := by
          have h := hr_step (c := c) hH.out hr1 (by have := HC.out; have := HD.out; omega) (by omega) (by omega) (by rw [← FR.out, ← FC.out, ← X0.out, ← X1.out]; exact hlt) (fun k hk hkh => by have := HM.out k hk hkh; rw [← FC.out, ← X1.out]; exact this)
          rw [← FR.out, ← FC.out] at h
          exact h
        clear hH HM
        go_wp2
        go_quiet (fail)
        go_wp2
        have hR1 := hR.out.draw nq
        have hG1 := grown_draw hG.out nq
        generalize wo.drewN nq = w1 at hR1 hG1 ⊢
        have c0 := hR1.cell fr (by omega)
        have cv := hR1.cell fc (by omega)
        have f0 := hR1.free fr
        have fv := hR1.free fc
        rw [← X0.out] at c0
        rw [← X1.out] at cv
        have R1 := Lib.hid hR1
        have G1 := Lib.hid hG1
        clear hR1 hG1
        have HX : Hid (∀ N, Row (((w1.drewN N).setCell ⟨g, fr, none⟩ (.int .u32 (x1 : Int))).setCell ⟨g, fc, none⟩ (.int .u32 (x0 : Int))) B g n cap (ex ys fr fc) ∧ w.grownBy (((w1.drewN N).setCell ⟨g, fr, none⟩ (.int .u32 (x1 : Int))).setCell ⟨g, fc, none⟩ (.int .u32 (x0 : Int))) (some g)) := fun N => by
          have h := (R1.out.draw N).ex fr fc
          rw [← X0.out, ← X1.out] at h
          exact ⟨h.1, grown_tr (grown_draw G1.out N) h.2⟩
        go_quiet ((go_at_call 210; refine Calls.quiet_of_same (LR.out _)))
        go_wp2
        go_region
        go_wp2
        go_roundw
        case rel => exact ⟨c, ex ys fr fc, by omega, by omega, by go_num, Lib.hid (HX.out _).1, Lib.hid (HX.out _).2, HS2, HH2⟩
        case measure => simp [intOf]; omega
end Go.Proofs.YtgjbnbojjgbmcaaGreat.Srt

namespace Go.Proofs.YtgjbnbojjgbmcaaGreat.Srt
open Go.RowKit
attribute [local go_sem ↓] Go.wp_at_zero Go.wp_at_succ
set_option maxRecDepth 100000 in
set_option maxHeartbeats 8000000 in
theorem heap_any {B g n cap a b : Nat} {xs : List Nat} {w : World} (hr : Row w B g n cap xs) (hab : a < b) (hb : b ≤ n) (hn : n ≤ 1000000) :
    Calls Tryz.prog 205 #[.slice (some ⟨g, 0, none⟩) n cap, .int .i64 (a : Int), .int .i64 (b : Int)] w fun e w' => e = .returned (.tuple #[]) ∧
      ∃ ys, Row w' B g n cap ys ∧ w.grownBy w' (some g) ∧ Sw a b xs ys ∧ Inc a b ys := by
  obtain ⟨hi, hhi⟩ : ∃ hi, hi = b - a := ⟨_, rfl⟩
  obtain ⟨t, ht⟩ : ∃ t, t = hi - 1 := ⟨_, rfl⟩
  have e1 : (b : Int) - (a : Int) = (hi : Int) := by omega
  have e2 : IntKind.i64.wrap (hi : Int) = (hi : Int) := IntWalk.i64_in _ (by omega)
  have e3 : (hi : Int) - 1 = (t : Int) := by omega
  have e4 : IntKind.i64.wrap (t : Int) = (t : Int) := IntWalk.i64_in _ (by omega)
  obtain ⟨m, hm⟩ : ∃ m, m = t / 2 := ⟨_, rfl⟩
  have e5 : (t : Int) / 2 = (m : Int) := by omega
  have e5' : Int.tdiv (t : Int) 2 = (m : Int) := by rw [Int.tdiv_eq_ediv_of_nonneg (by omega)]; omega
  have e6 : IntKind.i64.wrap (m : Int) = (m : Int) := IntWalk.i64_in _ (by omega)
  have e7 : (0 : Int) ≤ (t : Int) := by omega
  have HMH : Hid (m ≤ t ∧ t ≤ 2 * m + 1) := by show _ ∧ _; omega
  have hmb : m ≤ 1000000 := by omega
  have HR := Lib.hid hr
  have G0 := Lib.hid (World.grownBy.refl w (some g))
  have S0 := Lib.hid (Sw.refl a b xs)
  have P0 : Hid (Hp a (m + 1) hi xs) := fun i c h1 h2 h3 => by omega
  have HBE : Hid (b = a + hi) := by show _ = _; omega
  have HT : Hid (t + 1 = hi) := by show _ = _; omega
  have hhb : hi ≤ 1000000 := by omega
  clear hr hhi ht hm
  go_enter Tryz.func205, Tryz.ntmps205
  go_wp2
  go_loopw [9] (fun i wr => ∃ (k : Nat) (ys : List Nat), k ≤ m + 1 ∧ i = .int .i64 ((k : Int) - 1) ∧ Hid (Row wr B g n cap ys) ∧ Hid (w.grownBy wr (some g)) ∧ Hid (Sw a b xs ys) ∧ Hid (Hp a k hi ys)) (fun i _ => (intOf i + 1).toNat)
  case atStart => exact ⟨m + 1, xs, by omega, by go_num, HR, G0, S0, P0⟩
  case round =>
    clear HR G0 S0 P0
    obtain ⟨k, ys, hk, rfl, hR, hG, hS, hP⟩ := hrel
    by_cases hk0 : k = 0
    · subst hk0
      have q1 : decide ((0 : Int) ≤ ((0 : Nat) : Int) - 1) = false := by decide
      have z1 : ((0 : Nat) : Int) - 1 = -1 := by decide
      have T0 := Lib.hid (tail_start a hi ys)
      rw [z1]
      clear z1 q1
      go_wp2
      go_loopw [10] (fun i wr => ∃ (k : Nat) (ys : List Nat), k ≤ hi ∧ i = .int .i64 ((k : Int) - 1) ∧ Hid (Row wr B g n cap ys) ∧ Hid (w.grownBy wr (some g)) ∧ Hid (Sw a b xs ys) ∧ Hid (Hp a 0 k ys) ∧ Hid (Tail a k hi ys)) (fun i _ => (intOf i + 1).toNat)
      case atStart => exact ⟨hi, ys, by omega, by have := HT.out; go_num, hR, hG, hS, hP, T0⟩
      case round =>
        clear hR hG hS hP T0
        obtain ⟨k, ys, hk, rfl, hR, hG, hS, hP, hT⟩ := hrel
        obtain ⟨wo, rfl⟩ : ∃ wo : World, wo = wr := ⟨_, rfl⟩
        by_cases hk0 : k = 0
        · subst hk0
          have q1 : decide ((0 : Int) ≤ ((0 : Nat) : Int) - 1) = false := by decide
          have z1 : ((0 : Nat) : Int) - 1 = -1 := by decide
          have HI : Hid (Inc a b ys) := by
            have h := hT.out.1
            rw [Nat.add_zero, ← HBE.out] at h
            exact h
          clear hT hP
          go_wp2
          go_end0
          exact ⟨rfl, ys, hR.out, hG.out, hS.out, HI.out⟩
        · obtain ⟨j, hj⟩ : ∃ j, j = k - 1 := ⟨_, rfl⟩
          have z1 : (k : Int) - 1 = (j : Int) := by omega
          have q1 : decide ((0 : Int) ≤ (j : Int)) = true := decide_eq_true (by omega)
          have hk1 : k = j + 1 := by omega
          have hP' : Hp a 0 (j + 1) ys := by rw [← hk1]; exact hP.out
          have hT' : Tail a (j + 1) hi ys := by rw [← hk1]; exact hT.out
          obtain ⟨p, hp⟩ : ∃ p, p = a + j := ⟨_, rfl⟩
          have hlen := hR.out.len
          have hbe := HBE.out
          have hjh : j < hi := by omega
          have hpn : p < n := by omega
          have HE : Hid (∀ N, Row (((wo.drewN N).setCell ⟨g, a, none⟩ (.int .u32 ((ys.getD p 0 : Nat) : Int))).setCell ⟨g, p, none⟩ (.int .u32 ((ys.getD a 0 : Nat) : Int))) B g n cap (ex ys a p) ∧ w.grownBy (((wo.drewN N).setCell ⟨g, a, none⟩ (.int .u32 ((ys.getD p 0 : Nat) : Int))).setCell ⟨g, p, none⟩ (.int .u32 ((ys.getD a 0 : Nat) : Int))) (some g)) := fun N => by
            have h := (hR.out.draw N).ex a p
            exact ⟨h.1, grown_tr (grown_draw hG.out N) h.2⟩
          have HS2 : Hid (Sw a b xs (ex ys a p)) := hS.out.trans (Sw.ex (by omega) (by omega) (by omega) (by omega) (by omega))
          have HP2 : Hid (Hp a 1 j (ex ys a p)) := by
            have h := hp_swap hP' (by omega)
            rw [← hp] at h
            exact h
          have HT2 : Hid (∀ zs, Sw a (a + j) (ex ys a p) zs → Tail a j hi zs) := fun zs hz => by
            rw [hp] at hz
            exact tail_step hT' hP' hjh (by omega) hz
          have C : Hid (∀ W : World, Row W B g n cap (ex ys a p) → Calls Tryz.prog 213 #[.slice (some ⟨g, 0, none⟩) n cap, .int .i64 (0 : Int), .int .i64 (j : Int), .int .i64 (a : Int)] W fun e w' => e = .returned (.tuple #[]) ∧
              ∃ zs, Row w' B g n cap zs ∧ W.grownBy w' (some g) ∧ Sw (a + 0) (a + j) (ex ys a p) zs ∧ Hp a 0 j zs) := fun W hW => sift_any (lo := 0) hW HP2.out (by omega) (by omega) hn
          have a1 : (a : Int) + (j : Int) = (p : Int) := by omega
          have b1 : IntKind.i64.wrap (p : Int) = (p : Int) := IntWalk.i64_in _ (by omega)
          have d1 : (0 : Int) ≤ (p : Int) := by omega
          have d2 : (p : Int) < (n : Int) := by omega
          have d3 : (0 : Int) ≤ (a : Int) := by omega
          have d4 : (a : Int) < (n : Int) := by omega
          have c0 := hR.out.cell a (by omega)
          have c1 := hR.out.cell p hpn
          have f0 := hR.out.free a
          have f1 := hR.out.free p
          obtain ⟨k1, k2⟩ := hR.out.sec a p (by omega) hpn
          have e6 : IntKind.i64.wrap ((j : Int) - 1) = (j : Int) - 1 := IntWalk.i64_in _ (by omega)
          obtain ⟨x0, hx0⟩ : ∃ x, x = ys.getD a 0 := ⟨_, rfl⟩
          obtain ⟨x1, hx1⟩ : ∃ x, x = ys.getD p 0 := ⟨_, rfl⟩
          rw [← hx0] at c0 HE
          rw [← hx1] at c1 HE k1 k2
          obtain ⟨zz, hzz⟩ : ∃ zz, zz = ex ys a p := ⟨_, rfl⟩
          rw [← hzz] at HE HS2 HT2 C
          have HJ := Lib.hid hj
          have HK := Lib.hid hk1
          clear hP hT hj hk1 hP' hT' hp hbe hlen hx0 hx1 hzz HP2 hR hG hS
          rw [z1]
          go_wp2
          go_region
          go_wp2_with fail
          refine (C.out _ (HE.out _).1).mono ?_
          rintro e w1 ⟨rfl, zs, r1, g1, s1, h1⟩
          rw [Nat.add_zero] at s1
          have R1 := Lib.hid r1
          have G1 := Lib.hid (grown_tr (HE.out _).2 g1)
          have S1 : Hid (Sw a b xs zs) := HS2.out.trans (s1.mono (by omega) (by have := HBE.out; omega))
          have T1 := Lib.hid (HT2.out zs s1)
          have H1 := Lib.hid h1
          clear r1 g1 s1 h1
          go_wp2
          go_roundw
          case rel => exact ⟨j, zs, by omega, by go_num, R1, G1, S1, H1, T1⟩
          case measure => have := HK.out; simp [intOf] <;> omega
    · obtain ⟨j, hj⟩ : ∃ j, j = k - 1 := ⟨_, rfl⟩
      have z1 : (k : Int) - 1 = (j : Int) := by omega
      have q1 : decide ((0 : Int) ≤ (j : Int)) = true := decide_eq_true (by omega)
      have C := Lib.hid (sift_any (lo := j) hR.out (by rw [show j + 1 = k by omega]; exact hP.out) (by omega) (by omega) hn)
      have e6 : IntKind.i64.wrap ((j : Int) - 1) = (j : Int) - 1 := IntWalk.i64_in _ (by omega)
      have HJ := Lib.hid hj
      clear hP hj
      rw [z1]
      go_wp2_with fail
      refine C.out.mono ?_
      rintro e w1 ⟨rfl, zs, r1, g1, s1, h1⟩
      have R1 := Lib.hid r1
      have G1 := Lib.hid (grown_tr hG.out g1)
      have S1 : Hid (Sw a b xs zs) := hS.out.trans (s1.mono (by omega) (by omega))
      have H1 := Lib.hid h1
      clear r1 g1 s1 h1
      go_wp2
      go_roundw
      case rel => exact ⟨j, zs, by have := HJ.out; omega, by go_num, R1, G1, S1, H1⟩
      case measure => have := HJ.out; simp [intOf] <;> omega
end Go.Proofs.YtgjbnbojjgbmcaaGreat.Srt
