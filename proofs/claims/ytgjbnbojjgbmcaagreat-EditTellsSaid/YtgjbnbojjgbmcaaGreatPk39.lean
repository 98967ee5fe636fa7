/- Lists of operations of the call's own, written over: what stays. Conditions: none. point.Check and point.Points: what they answer. Conditions: a text takes at most 2 to the 30 bytes. append on slices of bytes: a row of the call's own, and a source that reads as bytes. Conditions: none. octavoref04's small functions: what they answer. Conditions: as each says. octavoref16.old, late, left, asked: what each answers. Conditions: the slices' cells are operations, elements. octavoref16.Typed: what it answers. Conditions: a place, at most 64 code points. -/
import Derived.Test.YtgjbnbojjgbmcaaGreatChecked
import Derived.WalkKit
import Derived.WalkSpells
import Derived.WalkLawsBesides
import Derived.Laws.BytesArg
import Derived.Lib.Hide
import Derived.Deep.LoopGhost
import Derived.Laws.AppendOwnNone
import Derived.Laws.OwnMore
import Derived.WideShapes
import Derived.Maps.AppendAt
import Derived.RegionTactic
import Derived.Deep.RegionHeld3
import Derived.Deep.DrawnRows
import Derived.Deep.QuietTactic
import Derived.BigQuiet
import Derived.IntWalk
import Derived.Deep.DeepCutAuto
import Derived.ScopeJumps
import Derived.Test.YtgjbnbojjgbmcaaGreatProg
import Derived.LoopTactic
import Derived.Laws.EntriesVeiled
import Derived.RowKit
import Derived.Lib.DecodeN
import Derived.Lib.RuneBytes
import Derived.Test.YtgjbnbojjgbmcaaGreatShelf
import Derived.Lib.OthersKept
import Derived.Test.YtgjbnbojjgbmcaaGreatRw
import Derived.Test.YtgjbnbojjgbmcaaGreatPk04
import Derived.Test.YtgjbnbojjgbmcaaGreatPk35
import Derived.Test.YtgjbnbojjgbmcaaGreatPk15
import Derived.Test.YtgjbnbojjgbmcaaGreatPk34
import Derived.Test.YtgjbnbojjgbmcaaGreatPk03
import Derived.Test.YtgjbnbojjgbmcaaGreatPk02
import Derived.Test.YtgjbnbojjgbmcaaGreatPk01
import Derived.Test.YtgjbnbojjgbmcaaGreatPk33
import Derived.Test.YtgjbnbojjgbmcaaGreatPk20
import Derived.Test.YtgjbnbojjgbmcaaGreatPk21
import Derived.Test.YtgjbnbojjgbmcaaGreatPk19
import Derived.Test.YtgjbnbojjgbmcaaGreatPk10
import Derived.Test.YtgjbnbojjgbmcaaGreatPk06
import Derived.Test.YtgjbnbojjgbmcaaGreatPk05
import Derived.Test.YtgjbnbojjgbmcaaGreatPk36
import Derived.Test.YtgjbnbojjgbmcaaGreatPk38
import Derived.Test.YtgjbnbojjgbmcaaGreatPk37
import Derived.Test.YtgjbnbojjgbmcaaGreatPk11

namespace Go.Proofs.YtgjbnbojjgbmcaaGreat.Bags
open Go.RowKit Go.WideShapes Stamp Go.Proofs.YtgjbnbojjgbmcaaGreat.Place Ops Codes
attribute [local go_sem ↓] Go.wp_at_zero Go.wp_at_succ
/-- Rows of operations and of their runs, from base on, ahead of top. -/
def SplO (w : World) (base top : Nat) (v : Value) (n : Nat) : Prop :=
  ∃ ao cap, v = .slice ao n cap ∧ n ≤ 9223372036854775807 ∧ (n = 0 ∨ ∃ b cb, ao = some ⟨b, 0, none⟩ ∧ base ≤ b ∧ b < top ∧ w.heap[b]? = some (.cells cb 38 (0, 0)) ∧ n * 5 ≤ cb.size ∧ ∀ k, k < n → ∃ so m sc, cb[k * 5 + 3]? = some (.slice so m sc) ∧ m ≤ 9223372036854775807 ∧
    (m = 0 ∨ ∃ g cur, so = some ⟨g, 0, none⟩ ∧ base ≤ g ∧ g < top ∧ g ≠ b ∧ w.heap[g]? = some (.cells cur 32 (0, 0)) ∧ m * 3 ≤ cur.size))
/-- What was there stays so, but from base on, ahead of top. -/
def Sand (base top : Nat) (w w' : World) : Prop := Below base w w' ∧ ∀ j, top ≤ j → w'.heap[j]? = w.heap[j]?
theorem Sand.refl (base top : Nat) (w : World) : Sand base top w w := ⟨Below.refl _ _, fun _ _ => rfl⟩
theorem Sand.trans {base top : Nat} {a b c : World} (h : Sand base top a b) (k : Sand base top b c) : Sand base top a c := ⟨h.1.trans k.1, fun j hj => (k.2 j hj).trans (h.2 j hj)⟩
theorem SplO.stay {w w' : World} {base top n : Nat} {v : Value} (h : SplO w base top v n) (hb : ∀ g o, base ≤ g → g < top → w.heap[g]? = some o → w'.heap[g]? = some o) : SplO w' base top v n := by
  obtain ⟨ao, cap, h1, h2, h3⟩ := h
  refine ⟨ao, cap, h1, h2, ?_⟩
  rcases h3 with h3 | ⟨b, cb, e1, e2, e3, e4, e5, e6⟩
  · exact .inl h3
  · refine .inr ⟨b, cb, e1, e2, e3, hb b _ e2 e3 e4, e5, fun k hk => ?_⟩
    obtain ⟨so, m, sc, f1, f2, f3⟩ := e6 k hk
    refine ⟨so, m, sc, f1, f2, ?_⟩
    rcases f3 with f3 | ⟨g, cur, g1, g2, g3, g4, g5, g6⟩
    · exact .inl f3
    · exact .inr ⟨g, cur, g1, g2, g3, g4, hb g _ g2 g3 g5, g6⟩
theorem SplO.keeps {w w' : World} {base top n : Nat} {v : Value} (h : SplO w base top v n) (hb : Below w.heap.size w w') : SplO w' base top v n :=
  h.stay fun g _ _ _ hg => (hb.block g (Array.getElem?_eq_some_iff.1 hg).1).trans hg
theorem SplO.sand {w w' : World} {base top base' top' n : Nat} {v : Value} (h : SplO w base' top' v n) (hs : Sand base top w w') (ht : top ≤ base') : SplO w' base' top' v n :=
  h.stay fun g _ h1 _ hg => (hs.2 g (by omega)).trans hg
theorem SplO.setG {w : World} {base top n g j : Nat} {v u : Value} (h : SplO w base top v n) (hg : ∀ b cap, v = .slice (some ⟨b, 0, none⟩) n cap → g ≠ b) : SplO (w.setCell ⟨g, j, none⟩ u) base top v n := by
  obtain ⟨ao, cap, h1, h2, h3⟩ := h
  refine ⟨ao, cap, h1, h2, ?_⟩
  rcases h3 with h3 | ⟨b, cb, e1, e2, e3, e4, e5, e6⟩
  · exact .inl h3
  · have hgb := hg b cap (by rw [h1, e1])
    refine .inr ⟨b, cb, e1, e2, e3, (heap_setCell_other w ⟨g, j, none⟩ b u (fun e => hgb e.symm)).trans e4, e5, fun k hk => ?_⟩
    obtain ⟨so, m, sc, f1, f2, f3⟩ := e6 k hk
    refine ⟨so, m, sc, f1, f2, ?_⟩
    rcases f3 with f3 | ⟨q, cur, g1, g2, g3, g4, g5, g6⟩
    · exact .inl f3
    · right
      by_cases e : q = g
      · subst e
        exact ⟨q, _, g1, g2, g3, g4, heap_setCell_same w q j cur _ u g5, by rw [Array.size_setIfInBounds]; exact g6⟩
      · exact ⟨q, cur, g1, g2, g3, g4, (heap_setCell_other w ⟨g, j, none⟩ q u e).trans g5, g6⟩
theorem holdP_spl {w : World} {base : Nat} : ∀ {cs : List Value} {l : List Opn}, HoldP w base cs l → ∀ k, k < l.length → ∃ so m sc, cs[k * 5 + 3]? = some (.slice so m sc) ∧ m ≤ 9223372036854775807 ∧
    (m = 0 ∨ ∃ g cur, so = some ⟨g, 0, none⟩ ∧ base ≤ g ∧ g < w.heap.size ∧ w.heap[g]? = some (.cells cur 32 (0, 0)) ∧ m * 3 ≤ cur.size)
  | _, x :: l, ⟨v, d, h1, ho, h3⟩, 0, _ => by
    have hm := Sees.max (Sees.own ho)
    obtain ⟨so, sc, hb⟩ := Sees.shape (Sees.own ho)
    refine ⟨so, x.pl.length, sc, by rw [h1]; simp [hb], hm, ?_⟩
    rcases ho.2 with ⟨h0, h1⟩ | ⟨g, cap, cur, h0, h1, h2, h3, _, h4, _⟩
    · exact .inl h1
    · rw [hb] at h0
      obtain ⟨rfl, -, rfl⟩ := Value.slice.inj h0
      exact .inr ⟨g, cur, rfl, h1, (Array.getElem?_eq_some_iff.1 h2).1, h2, by rw [h4]; exact Nat.mul_le_mul_right 3 h3⟩
  | _, x :: l, ⟨v, d, h1, ho, h3⟩, k + 1, hk => by
    obtain ⟨so, m, sc, h4, h5⟩ := holdP_spl h3 k (by simpa using hk)
    refine ⟨so, m, sc, ?_, h5⟩
    rw [h1, show (k + 1) * 5 + 3 = k * 5 + 3 + 5 by omega]
    simpa using h4
  | _, [], _, k, hk => by simp at hk
theorem op_row {w : World} {base n : Nat} {v : Value} {cs : List Value} (h : w.ownsRow base 38 5 v n cs) : ∀ j cur, v.ownBlock = some j → w.heap[j]? ≠ some (.cells cur 32 (0, 0)) := by
  intro j cur hj he
  rcases h.2 with ⟨h0, _⟩ | ⟨g, cap, cur2, h0, _, hgb, _⟩
  · rw [h0] at hj; cases hj
  · rw [h0] at hj
    simp only [Value.ownBlock, Option.some.injEq] at hj
    subst hj
    rw [hgb] at he
    simp at he
theorem own_spl {w : World} {base : Nat} {v : Value} {l : List Opn} (h : OwnL w base v l) : SplO w base w.heap.size v l.length := by
  obtain ⟨cs, h1, h2⟩ := h
  have hm := Sees.max (Sees.own h1)
  obtain ⟨ao, cap, hv⟩ := Sees.shape (Sees.own h1)
  refine ⟨ao, cap, hv, hm, ?_⟩
  have hr := op_row h1
  have hk := h1
  rcases h1.2 with ⟨_, h0⟩ | ⟨b, cap', cur, h0, e1, e2, e3, _, e4, _⟩
  · exact .inl h0
  · right
    rw [hv] at h0
    obtain ⟨rfl, -, rfl⟩ := Value.slice.inj h0
    refine ⟨b, cur, rfl, e1, (Array.getElem?_eq_some_iff.1 e2).1, e2, by rw [e4]; exact Nat.mul_le_mul_right 5 e3, fun k hkn => ?_⟩
    obtain ⟨so, m, sc, f1, f2, f3⟩ := holdP_spl h2 k hkn
    refine ⟨so, m, sc, ?_, f2, ?_⟩
    · rw [hv] at hk
      rw [← cell_of_row w b (k * 5 + 3) cur _ _ e2, hk.cellAt (k * 5 + 3) (by omega)]
      exact f1
    · rcases f3 with f3 | ⟨g, cu, g1, g2, g3, g4, g5⟩
      · exact .inl f3
      · refine .inr ⟨g, cu, g1, g2, g3, fun e => ?_, g4, g5⟩
        subst e
        exact hr g cu (by rw [hv]; rfl) g4
end Go.Proofs.YtgjbnbojjgbmcaaGreat.Bags

namespace Go.Proofs.YtgjbnbojjgbmcaaGreat.Point
open Go.RowKit Go.WideShapes
theorem isPt_iff (n : Int) : IsPt n ↔ 0 ≤ n ∧ n ≤ 1114111 ∧ (n < 55296 ∨ 57343 < n) := Iff.rfl
end Go.Proofs.YtgjbnbojjgbmcaaGreat.Point

namespace Go.Proofs.YtgjbnbojjgbmcaaGreat
open Go.RowKit Go.WideShapes
/-- A new row of bytes. -/
theorem reads_new (w : World) (xs : List UInt8) (h : xs.length ≤ 1000) (fr : Nat × Nat) : Reads (w.alloc (.cells (bs xs).toArray 5 fr)) (.slice (some ⟨w.heap.size, 0, none⟩) xs.length xs.length) xs := by
  refine ⟨by omega, _, _, rfl, Nat.le_refl _, by omega, by simp, .inr ⟨w.heap.size, 0, rfl, by simp, fun j hj => ?_⟩⟩
  rw [cell_of_row _ w.heap.size (0 + j) (bs xs).toArray 5 fr (heap_alloc_new w _), Nat.zero_add, List.getElem?_toArray]
  exact bs_get xs j hj
end Go.Proofs.YtgjbnbojjgbmcaaGreat

namespace Go.Proofs.YtgjbnbojjgbmcaaGreat.Point
open Go.RowKit Go.WideShapes
theorem refIs_yes (n : Int) (h : IsPt n) (w : World) : Calls Tryz.prog 134 #[.int .i64 n] w fun e w' => e = .returned (.bool true) ∧ w = w' := by
  obtain ⟨h1, h2, h3⟩ := h
  have q1 : decide (0 ≤ n) = true := by simpa using h1
  have q2 : decide (n ≤ 1114111) = true := by simpa using h2
  by_cases h4 : n < 55296
  · have q3 : decide (n < 55296) = true := by simpa using h4
    go_enter Tryz.func134, Tryz.ntmps134
    go_wp2
    go_ret
    exact ⟨rfl, rfl⟩
  · have q3 : decide (n < 55296) = false := by simpa using h4
    have q4 : decide (57343 < n) = true := by simp; omega
    go_enter Tryz.func134, Tryz.ntmps134
    go_wp2
    go_ret
    exact ⟨rfl, rfl⟩
theorem refIs_no (n : Int) (h : ¬ IsPt n) (w : World) : Calls Tryz.prog 134 #[.int .i64 n] w fun e w' => e = .returned (.bool false) ∧ w = w' := by
  rw [isPt_iff] at h
  by_cases h1 : 0 ≤ n
  · have q1 : decide (0 ≤ n) = true := by simpa using h1
    by_cases h2 : n ≤ 1114111
    · have q2 : decide (n ≤ 1114111) = true := by simpa using h2
      have q3 : decide (n < 55296) = false := by simp; omega
      have q4 : decide (57343 < n) = false := by simp; omega
      clear h
      go_enter Tryz.func134, Tryz.ntmps134
      go_wp2
      go_ret
      exact ⟨rfl, rfl⟩
    · have q2 : decide (n ≤ 1114111) = false := by simpa using h2
      clear h
      go_enter Tryz.func134, Tryz.ntmps134
      go_wp2
      go_ret
      exact ⟨rfl, rfl⟩
  · have q1 : decide (0 ≤ n) = false := by simpa using h1
    clear h
    go_enter Tryz.func134, Tryz.ntmps134
    go_wp2
    go_ret
    exact ⟨rfl, rfl⟩
/-- A number without its lowest digits to the base of 64. -/
def cut64 : Nat → Nat → Nat
  | 0, n => n
  | j + 1, n => cut64 j n / 64
theorem six_any (n k : Nat) (hn : n ≤ 1114111) (hk : k ≤ 3) (w : World) :
    Calls Tryz.prog 186 #[.int .i64 (n : Int), .int .i64 (k : Int)] w fun e w' => e = .returned (.int .u8 ((128 + cut64 k n % 64 : Nat) : Int)) ∧ w = w' := by
  go_enter Tryz.func186, Tryz.ntmps186
  go_wp2
  go_loop [0, 5] (fun x i => ∃ (j m : Nat), j ≤ k ∧ i = .int .i64 (j : Int) ∧ m ≤ 1114111 ∧ x = .int .i64 (m : Int) ∧ Hid (m = cut64 j n)) (fun _ i => k - (intOf i).toNat)
  case atStart => exact ⟨0, n, by omega, rfl, hn, rfl, Lib.hid rfl⟩
  case round =>
    obtain ⟨j, m, hj, rfl, hm, rfl, hx⟩ := hrel
    by_cases hjk : j < k
    · have q1 : decide (j < k) = true := by simpa using hjk
      have q2 : (0 : Int) ≤ (m : Int) := by omega
      go_wp2
      go_round
      case rel =>
        refine ⟨j + 1, m / 64, by omega, by go_num, by omega, by go_num, Lib.hid ?_⟩
        show m / 64 = cut64 j n / 64
        rw [hx.out]
      case measure => simp [intOf]; omega
    · obtain rfl : j = k := by omega
      have q1 : decide (j < j) = false := by simp
      have q2 : (0 : Int) ≤ (m : Int) := by omega
      go_wp2
      go_ret
      refine ⟨?_, rfl⟩
      rw [← hx.out]
      rfl
/-- A code point's bytes as cells. -/
def encCells (n : Nat) : List Value :=
  if n < 128 then [.int .u8 (n : Int)]
  else if n < 2048 then [.int .u8 ((192 + n / 64 : Nat) : Int), .int .u8 ((128 + n % 64 : Nat) : Int)]
  else if n < 65536 then [.int .u8 ((224 + n / 4096 : Nat) : Int), .int .u8 ((128 + n / 64 % 64 : Nat) : Int), .int .u8 ((128 + n % 64 : Nat) : Int)]
  else [.int .u8 ((240 + n / 262144 : Nat) : Int), .int .u8 ((128 + n / 4096 % 64 : Nat) : Int), .int .u8 ((128 + n / 64 % 64 : Nat) : Int), .int .u8 ((128 + n % 64 : Nat) : Int)]
theorem bs_enc (n : Nat) (h : IsPt (n : Int)) : bs (enc (n : Int)) = encCells n := by
  have h' := h
  obtain ⟨h0, h1, h2⟩ := h
  have hr : bs (enc (n : Int)) = Lib.runeCells (n : Int) := Lib.byteCells_encodeRune (n : Int)
  rw [hr]
  unfold encCells Lib.runeCells
  by_cases c1 : n < 128
  · rw [if_pos c1, Lib.encodeRuneZ_one (by omega) (by omega)]; rfl
  · rw [if_neg c1]
    by_cases c2 : n < 2048
    · rw [if_pos c2, Lib.encodeRuneZ_two (by omega) (by omega)]
      simp
    · rw [if_neg c2]
      by_cases c3 : n < 65536
      · rw [if_pos c3, Lib.encodeRuneZ_three (by omega)]
        simp
      · rw [if_neg c3, Lib.encodeRuneZ_four (by omega) (by omega)]
        simp
theorem cut_two (n : Nat) : cut64 2 n = n / 4096 := by show n / 64 / 64 = _; omega
theorem cut_one (n : Nat) : cut64 1 n = n / 64 := rfl
theorem cut_zero (n : Nat) : cut64 0 n = n := rfl
set_option maxHeartbeats 1000000 in
theorem bytes_any (n : Nat) (h : IsPt (n : Int)) (w : World) :
    Calls Tryz.prog 135 #[.int .i64 (n : Int)] w fun e w' => ∃ v, e = .returned v ∧ Reads w' v (enc (n : Int)) ∧ Below w.heap.size w w' := by
  have hb := bs_enc n h
  have hl := enc_len (n : Int)
  have hn : n ≤ 1114111 := by have := h.2.1; omega
  have fin : ∀ m : Nat, encCells n = (bs (enc (n : Int))) → (enc (n : Int)).length = m → Reads (w.alloc (.cells (encCells n).toArray 5)) (.slice (some ⟨w.heap.size, 0, none⟩) m m) (enc (n : Int)) := by
    rintro m h1 rfl
    rw [h1]
    exact reads_new w _ (by omega) _
  have hel : (enc (n : Int)).length = (encCells n).length := by rw [← hb, bs_len]
  have q0 : (0 : Int) ≤ (n : Int) := by omega
  by_cases c1 : n < 128
  · have e : encCells n = [.int .u8 (n : Int)] := if_pos c1
    have F := Lib.hid (fin 1 hb.symm (by rw [hel, e]; rfl))
    rw [e] at F
    have t1 : decide ((n : Int) < 128) = true := by simp; omega
    have t2 : decide (n < 128) = true := by simpa using c1
    have t3 : (n : Int) < 128 := by omega
    clear hb hl fin hel e h
    go_enter Tryz.func135, Tryz.ntmps135
    go_wp2
    go_ret
    exact ⟨_, rfl, F.out, (Below.refl _ _).alloc (Nat.le_refl _) _⟩
  · have t1 : decide ((n : Int) < 128) = false := by simp; omega
    have t2 : decide (n < 128) = false := by simpa using c1
    by_cases c2 : n < 2048
    · have e : encCells n = [.int .u8 ((192 + n / 64 : Nat) : Int), .int .u8 ((128 + n % 64 : Nat) : Int)] := by unfold encCells; rw [if_neg c1, if_pos c2]
      have F := Lib.hid (fin 2 hb.symm (by rw [hel, e]; rfl))
      rw [e] at F
      have t3 : decide ((n : Int) < 2048) = true := by simp; omega
      have t4 : decide (n < 2048) = true := by simpa using c2
      have t5 : (n : Int) < 2048 := by omega
      clear hb hl fin hel e h
      go_enter Tryz.func135, Tryz.ntmps135
      go_wp2_with fail
      refine (six_any n 0 hn (by omega) _).mono ?_
      rintro e w' ⟨rfl, rfl⟩
      go_wp2
      go_ret
      exact ⟨_, rfl, by simpa [cut_zero] using F.out, (Below.refl _ _).alloc (Nat.le_refl _) _⟩
    · have t3 : decide ((n : Int) < 2048) = false := by simp; omega
      have t4 : decide (n < 2048) = false := by simpa using c2
      by_cases c3 : n < 65536
      · have e : encCells n = [.int .u8 ((224 + n / 4096 : Nat) : Int), .int .u8 ((128 + n / 64 % 64 : Nat) : Int), .int .u8 ((128 + n % 64 : Nat) : Int)] := by unfold encCells; rw [if_neg c1, if_neg c2, if_pos c3]
        have F := Lib.hid (fin 3 hb.symm (by rw [hel, e]; rfl))
        rw [e] at F
        have t5 : decide ((n : Int) < 65536) = true := by simp; omega
        have t6 : decide (n < 65536) = true := by simpa using c3
        have t7 : (n : Int) < 65536 := by omega
        clear hb hl fin hel e h
        go_enter Tryz.func135, Tryz.ntmps135
        go_wp2_with fail
        refine (six_any n 1 hn (by omega) _).mono ?_
        rintro e w' ⟨rfl, rfl⟩
        go_wp2_with fail
        refine (six_any n 0 hn (by omega) _).mono ?_
        rintro e w' ⟨rfl, rfl⟩
        go_wp2
        go_ret
        exact ⟨_, rfl, by simpa [cut_one, cut_zero] using F.out, (Below.refl _ _).alloc (Nat.le_refl _) _⟩
      · have e : encCells n = [.int .u8 ((240 + n / 262144 : Nat) : Int), .int .u8 ((128 + n / 4096 % 64 : Nat) : Int), .int .u8 ((128 + n / 64 % 64 : Nat) : Int), .int .u8 ((128 + n % 64 : Nat) : Int)] := by unfold encCells; rw [if_neg c1, if_neg c2, if_neg c3]
        have F := Lib.hid (fin 4 hb.symm (by rw [hel, e]; rfl))
        rw [e] at F
        have t5 : decide ((n : Int) < 65536) = false := by simp; omega
        have t6 : decide (n < 65536) = false := by simpa using c3
        have t7 : (n : Int) ≤ 1114111 := by omega
        clear hb hl fin hel e h
        go_enter Tryz.func135, Tryz.ntmps135
        go_wp2_with fail
        refine (six_any n 2 hn (by omega) _).mono ?_
        rintro e w' ⟨rfl, rfl⟩
        go_wp2_with fail
        refine (six_any n 1 hn (by omega) _).mono ?_
        rintro e w' ⟨rfl, rfl⟩
        go_wp2_with fail
        refine (six_any n 0 hn (by omega) _).mono ?_
        rintro e w' ⟨rfl, rfl⟩
        go_wp2
        go_ret
        exact ⟨_, rfl, by simpa [cut_one, cut_two, cut_zero] using F.out, (Below.refl _ _).alloc (Nat.le_refl _) _⟩
end Go.Proofs.YtgjbnbojjgbmcaaGreat.Point

namespace Go.Proofs.YtgjbnbojjgbmcaaGreat.Edits
open Go.RowKit Go.WideShapes Stamp Go.Proofs.YtgjbnbojjgbmcaaGreat.Place Ops Codes Bags Marks Homes Covers Views
attribute [local go_sem ↓] Go.wp_at_zero Go.wp_at_succ
attribute [local go_sem] yielded_undef
set_option maxRecDepth 100000 in
set_option maxHeartbeats 8000000 in
theorem refOld_any {v : Value} {l : List Opn} {t : Nat} {w : World} (hv : OpL w v l) (hl : l.length ≤ 1000000) :
    Calls Tryz.prog 90 #[v, .int .u32 (t : Int)] w fun e w' => e = .returned (.bool (oldB l t)) ∧ Below w.heap.size w w' := by
  obtain ⟨ao, cap, rfl⟩ := hv.shape
  obtain ⟨n, hn⟩ : ∃ n, n = l.length := ⟨_, rfl⟩
  have HV : Hid (∀ W : World, Below w.heap.size w W → OpL W (.slice ao l.length cap) l) := fun W h => hv.keeps h
  have HN := Lib.hid hn
  obtain ⟨R, hR⟩ : ∃ R, oldB l t = R := ⟨_, rfl⟩
  have HY : Hid ((∀ k (h : k < l.length), (l[k]'h).t ≤ t) → R = true) := fun h => by
    rw [← hR]
    exact oldB_iff.2 (fun o ho => by obtain ⟨k, hk, rfl⟩ := List.getElem_of_mem ho; exact h k hk)
  have HX : Hid (∀ k (h : k < l.length), t < (l[k]'h).t → R = false) := fun k h h2 => by
    rw [← hR]
    cases hb : oldB l t
    · rfl
    · have := oldB_iff.1 hb _ (List.getElem_mem h); omega
  rw [← hn] at hl ⊢
  rw [hR]
  have B0 : Hid (Below w.heap.size w w) := Below.refl _ _
  clear hv hn hR
  go_enter Tryz.func90, Tryz.ntmps90
  go_wp2
  go_loopw [5] (fun i wr => ∃ j : Nat, j ≤ n ∧ i = .int .i64 (j : Int) ∧ Hid (∀ k (h : k < l.length), k < j → (l[k]'h).t ≤ t) ∧ Hid (Below w.heap.size w wr)) (fun i _ => n - (intOf i).toNat)
  case atStart => exact ⟨0, by omega, rfl, fun k h hk => by omega, B0⟩
  case round =>
    clear B0
    obtain ⟨j, hj, rfl, hall, hbel⟩ := hrel
    by_cases hjn : j < n
    rotate_left
    · have q3 : decide (j < n) = false := by simpa using hjn
      obtain rfl := HY.out (fun k h => hall.out k h (by have := HN.out; omega))
      clear hall HX
      go_wp2
      go_ret
      exact ⟨rfl, hbel.out⟩
    have q3 : decide (j < n) = true := by simpa using hjn
    have q4 : (0 : Int) ≤ (j : Int) := by omega
    have q5 : (j : Int) < (n : Int) := by omega
    have hjl : j < l.length := by rw [← HN.out]; exact hjn
    obtain ⟨bb, oo, u, e, hbb, hru, h0, h1, h2, h3, h4⟩ := opl_at (HV.out wr hbel.out) j hjl
    subst e
    obtain ⟨a, ha⟩ : ∃ a, (l[j]'hjl).t = a := ⟨_, rfl⟩
    rw [ha] at h1
    have HXA : Hid (t < a → R = false) := fun h => HX.out j hjl (by rw [ha]; exact h)
    have HAA : Hid (¬ t < a → ∀ k (h : k < l.length), k < j + 1 → (l[k]'h).t ≤ t) := fun h2 k h hk => by
      by_cases e : k = j
      · subst e; rw [ha]; omega
      · exact hall.out k h (by omega)
    clear ha hru h0 h2 h3 h4 hall HX
    by_cases hta : t < a
    · have q6 : decide (t < a) = true := decide_eq_true hta
      have q7 : decide ((t : Int) < (a : Int)) = true := decide_eq_true (by omega)
      obtain rfl := HXA.out hta
      go_wp2
      go_ret
      exact ⟨rfl, hbel.out⟩
    · have q6 : decide (t < a) = false := decide_eq_false hta
      have q7 : decide ((t : Int) < (a : Int)) = false := decide_eq_false (by omega)
      have HA2 := Lib.hid (HAA.out hta)
      clear HXA HAA
      go_wp2
      go_roundw
      case rel => exact ⟨j + 1, by omega, by go_num, HA2, hbel⟩
      case measure => simp [intOf]; omega
theorem refLate_any {t m : Nat} (ht : t < 4294967296) (hm : m ≤ 4294967296) (w : World) :
    Calls Tryz.prog 46 #[.int .u32 (t : Int), .int .i64 (m : Int)] w fun e w' => e = .returned (.bool (decide (1073741824 < t + m))) ∧ w' = w := by
  have e0 : IntKind.i64.wrap (t : Int) = (t : Int) := IntWalk.i64_in _ (by omega)
  have e1 : IntKind.i64.wrap ((t : Int) + (m : Int)) = (t : Int) + (m : Int) := IntWalk.i64_in _ (by omega)
  have e2 : decide ((1073741824 : Int) < (t : Int) + (m : Int)) = decide (1073741824 < t + m) := decide_eq_decide.2 (by omega)
  go_enter Tryz.func46, Tryz.ntmps46
  go_wp2
  go_ret
  exact ⟨by first | rfl | rw [e2], rfl⟩
set_option maxRecDepth 100000 in
set_option maxHeartbeats 8000000 in
theorem refLeft_any {v0 vl vx : Value} {live X : List Opn} (s : Id) (k : Nat) {w : World} (hl : OpL w vl live) (hx : ElL w vx X) (hk : k ≤ X.length) (hX : X.length ≤ 1000000) (hL : live.length ≤ 1000000) (hs : 0 ≤ whereM live s) :
    Calls Tryz.prog 48 #[v0, vl, .agg #[.int .u32 (s.t : Int), .int .u8 (s.r : Int)], vx, .int .i64 (k : Int)] w fun e w' => ∃ v', e = .returned v' ∧ Runs w' v' (leftM live (whereN live s) X k) ∧ Below w.heap.size w w' := by
  obtain ⟨wl, hwl⟩ : ∃ x, x = w.alloc (.cells #[.int .u32 (s.t : Int), .int .u8 (s.r : Int)] 28) := ⟨_, rfl⟩
  have B0 : Hid (Below w.heap.size w wl) := by rw [hwl]; exact (Below.refl _ _).alloc (Nat.le_refl _) _
  have Y0 : Hid (wl.heap[w.heap.size]? = some (.cells #[.int .u32 (s.t : Int), .int .u8 (s.r : Int)] 28)) := by rw [hwl]; exact blk_new rfl
  have HW := Lib.hid hwl
  by_cases h0 : k = 0
  · subst h0
    have hw : whereM live s = (whereN live s : Int) := by unfold whereM at hs ⊢; split at hs <;> first | rw [if_pos (by assumption)] | omega
    have WH : Hid (Calls Tryz.prog 52 #[vl, .agg #[.int .u32 (s.t : Int), .int .u8 (s.r : Int)]] wl fun e w' => e = .returned (.int .i64 (whereN live s : Int)) ∧ Below wl.heap.size wl w') := by
      have := refWhere_any s (hl.keeps B0.out) hL
      rwa [hw] at this
    have BG : Hid (∀ W : World, Below w.heap.size w W → Calls Tryz.prog 54 #[vl, .int .i64 (whereN live s : Int)] W fun e w' => ∃ ao cap, e = .returned (.slice ao (beginM live (whereN live s : Int)).length cap) ∧ Runs W (.slice ao (beginM live (whereN live s : Int)).length cap) (beginM live (whereN live s : Int)) ∧ w' = W) := fun W h =>
      refBegin_any (whereN live s : Int) (hl.keeps h) (by omega) (by unfold whereM at hs; split at hs <;> omega)
    have e0 : leftM live (whereN live s) X 0 = beginM live (whereN live s : Int) := by unfold leftM; rw [if_neg (by omega)]
    rw [e0]
    obtain ⟨P, hP⟩ : ∃ P, beginM live (whereN live s : Int) = P := ⟨_, rfl⟩
    obtain ⟨q, hq⟩ : ∃ q, whereN live s = q := ⟨_, rfl⟩
    rw [hq] at WH
    simp only [hP] at BG ⊢
    rw [hq] at BG
    obtain ⟨lo, lc, rfl⟩ := hl.shape
    obtain ⟨xo, xc, rfl⟩ := hx.shape
    obtain ⟨nl, hnl⟩ : ∃ n, live.length = n := ⟨_, rfl⟩
    obtain ⟨nx, hnx⟩ : ∃ n, X.length = n := ⟨_, rfl⟩
    rw [hnl] at WH BG ⊢
    rw [hnx]
    clear hl hx hwl hw e0 hs hP hq hnl hnx
    obtain ⟨ts, rs, hts, hrs⟩ := s
    simp only at Y0 HW WH ⊢
    have d0 := cell_of_row _ _ 0 _ _ _ Y0.out
    have d1 := cell_of_row _ _ 1 _ _ _ Y0.out
    go_enter Tryz.func48, Tryz.ntmps48
    go_wp2_with fail
    rw [← HW.out]
    refine WH.out.mono ?_
    rintro e w1 ⟨rfl, b1⟩
    have B1 := Lib.hid (bt B0.out b1)
    clear b1 WH d0 d1 Y0 B0 HW
    go_wp2_with fail
    refine (BG.out _ B1.out).mono ?_
    rintro e w2 ⟨ao, cap, rfl, r2, rfl⟩
    have R2 := Lib.hid r2
    clear r2 BG
    go_wp2
    go_ret
    exact ⟨_, rfl, R2.out, B1.out⟩
  obtain ⟨j, rfl⟩ : ∃ j, k = j + 1 := ⟨k - 1, by omega⟩
  have hj : j < X.length := by omega
  have e0 : leftM live (whereN live s) X (j + 1) = (X[j]'hj).pl := by
    unfold leftM
    rw [if_pos (by omega), Nat.add_sub_cancel, List.getD_eq_getElem?_getD, List.getElem?_eq_getElem hj]
    rfl
  rw [e0]
  obtain ⟨xo, xc, rfl⟩ := hx.shape
  obtain ⟨bb, oo, u, e, hbb, hru, h0', h1, h2, h3⟩ := el_at (hx.keeps B0.out) j hj
  cases e
  obtain ⟨bb', oo', u', e', hbb', -⟩ := el_at hx j hj
  cases e'
  have RU : Hid (Runs wl u (X[j]'hj).pl) := hru
  have hne : ¬ bb = w.heap.size := by omega
  obtain ⟨P, hP⟩ : ∃ P, (X[j]'hj).pl = P := ⟨_, rfl⟩
  rw [hP] at RU ⊢
  obtain ⟨nx, hnx⟩ : ∃ n, X.length = n := ⟨_, rfl⟩
  rw [hnx] at hX hj ⊢
  obtain ⟨uo, uc, rfl⟩ := RU.out.shape
  obtain ⟨np, hnp⟩ : ∃ n, P.length = n := ⟨_, rfl⟩
  rw [hnp] at RU h2
  have g1 : (((j + 1 : Nat) : Int)) = (j : Int) + 1 := by omega
  have g2 : decide ((0 : Int) < (j : Int) + 1) = true := decide_eq_true (by omega)
  have g3 : (j : Int) + 1 - 1 = (j : Int) := by omega
  have g4 : IntKind.i64.wrap (j : Int) = (j : Int) := IntWalk.i64_in _ (by omega)
  have g5 : (0 : Int) ≤ (j : Int) := by omega
  have g6 : (j : Int) < (nx : Int) := by omega
  have g7 : (0 : Int) < (j : Int) + 1 := by omega
  have HNP := Lib.hid hnp
  rw [g1]
  clear hl hx hwl hs h0' h1 h3 hru hP e0 hnx hk g1 h0 hnp
  obtain ⟨ts, rs, hts, hrs⟩ := s
  simp only at HW ⊢
  have BE := B0.out
  rw [HW.out] at h2 RU
  go_enter Tryz.func48, Tryz.ntmps48
  go_wp2
  go_ret
  exact ⟨_, rfl, RU.out, by rw [← HW.out]; exact BE⟩
/-- The live marks, and an error. -/
def AskD (l : List Opn) (r t : Nat) (s : Id) (w : World) (e : Ending) (w' : World) : Prop := ∃ v', e = .returned (.tuple #[v', .int .i64 (askE l r t s)]) ∧ OpL w' v' (if askE l r t s = 0 then livesM l l else []) ∧ Below w.heap.size w w'
set_option maxRecDepth 100000 in
set_option maxHeartbeats 8000000 in
theorem refAsk_any {v : Value} {l : List Opn} {r t : Nat} (s : Id) {w : World} (hv : OpL w v l) (hr : r < 256) :
    Calls Tryz.prog 43 #[v, .int .u8 (r : Int), .int .u32 (t : Int), .agg #[.int .u32 (s.t : Int), .int .u8 (s.r : Int)]] w (AskD l r t s w) := by
  obtain ⟨wl, hwl⟩ : ∃ x, x = w.alloc (.cells #[.int .u32 (s.t : Int), .int .u8 (s.r : Int)] 28) := ⟨_, rfl⟩
  have B0 : Hid (Below w.heap.size w wl) := by rw [hwl]; exact (Below.refl _ _).alloc (Nat.le_refl _) _
  have Y0 : Hid (wl.heap[w.heap.size]? = some (.cells #[.int .u32 (s.t : Int), .int .u8 (s.r : Int)] 28)) := by rw [hwl]; exact blk_new rfl
  have HW := Lib.hid hwl
  have ML : Hid (Calls Tryz.prog 89 #[v] wl fun e w' => e = .returned (.bool (bagB l)) ∧ Below wl.heap.size wl w') := refMayL_any (hv.keeps B0.out)
  have OL : Hid (Bag l → ∀ W : World, Below w.heap.size w W → Calls Tryz.prog 90 #[v, .int .u32 (t : Int)] W fun e w' => e = .returned (.bool (oldB l t)) ∧ Below W.heap.size W w') := fun hb W h => refOld_any (hv.keeps h) (by have := hb.1; omega)
  have LV : Hid (Bag l → ∀ W : World, Below w.heap.size w W → Calls Tryz.prog 91 #[v] W fun e w' => ∃ v', e = .returned v' ∧ OpL w' v' (livesM l l) ∧ Below W.heap.size W w') := fun hb W h => refLives_any (hv.keeps h) hb.2.1 hb.1
  have WH : Hid (Bag l → ∀ (W : World) (y : Value), OpL W y (livesM l l) → Calls Tryz.prog 52 #[y, .agg #[.int .u32 (s.t : Int), .int .u8 (s.r : Int)]] W fun e w' => e = .returned (.int .i64 (whereM (livesM l l) s)) ∧ Below W.heap.size W w') := fun hb W y h => refWhere_any s h (by have := (lives_fits hb).1; omega)
  have HNO : Hid (AskD l r t s w = fun e w' => ∃ v', e = .returned (.tuple #[v', .int .i64 (askE l r t s)]) ∧ OpL w' v' (if askE l r t s = 0 then livesM l l else []) ∧ Below w.heap.size w w') := rfl
  rw [HNO.out]
  obtain ⟨ao, cap, rfl⟩ := hv.shape
  obtain ⟨n, hn⟩ : ∃ n, l.length = n := ⟨_, rfl⟩
  rw [hn] at ML OL LV ⊢
  clear hv hwl hn HNO
  by_cases hb : Bag l
  rotate_left
  · have e3 : askE l r t s = 8 := by
      unfold askE
      split
      · unfold spanE; rw [bagB_no hb]; rfl
      · rfl
    rw [bagB_no hb] at ML
    rw [e3, if_neg (by decide)]
    obtain ⟨ts, rs, hts, hrs⟩ := s
    simp only at Y0 HW ⊢
    clear LV WH OL hb e3
    go_enter Tryz.func43, Tryz.ntmps43
    go_wp2_with fail
    rw [← HW.out]
    refine ML.out.mono ?_
    rintro e w1 ⟨rfl, b1⟩
    have B1 := Lib.hid (bt B0.out b1)
    clear b1 Y0 B0 HW ML
    go_wp2
    exact bodyPost_ret (v := .tuple #[.slice none 0 0, .int .i64 8]) (by simp [results, Tryz.results43, go_sem]) rfl ⟨_, rfl, Seq.nil _ _, B1.out⟩
  rw [(bagB_iff l).2 hb] at ML
  have OL2 := Lib.hid (OL.out hb)
  have LV2 := Lib.hid (LV.out hb)
  have WH2 := Lib.hid (WH.out hb)
  have SE : Hid (spanE l s = if 0 ≤ whereM (livesM l l) s then 0 else 130) := by unfold Hid spanE; rw [(bagB_iff l).2 hb]; simp
  have AE : Hid (askE l r t s = if r < 8 ∧ oldB l t = true then spanE l s else 8) := rfl
  obtain ⟨a, ha⟩ : ∃ a, askE l r t s = a := ⟨_, rfl⟩
  obtain ⟨o, ho⟩ : ∃ o, oldB l t = o := ⟨_, rfl⟩
  rw [ho] at OL2 AE
  rw [ha] at AE ⊢
  rw [SE.out] at AE
  obtain ⟨x, hx⟩ : ∃ x, whereM (livesM l l) s = x := ⟨_, rfl⟩
  rw [hx] at WH2 AE
  obtain ⟨V, hV⟩ : ∃ V, livesM l l = V := ⟨_, rfl⟩
  rw [hV] at LV2 WH2 ⊢
  clear OL LV WH SE ha ho hx hV hb
  obtain ⟨ts, rs, hts, hrs⟩ := s
  simp only at Y0 HW WH2 ⊢
  by_cases hr8 : r < 8
  rotate_left
  · obtain rfl : a = 8 := by rw [AE.out, if_neg (fun h => hr8 h.1)]
    have q1 : decide ((8 : Int) ≤ (r : Int)) = true := decide_eq_true (by omega)
    have q2 : decide (8 ≤ r) = true := decide_eq_true (by omega)
    rw [if_neg (by decide)]
    clear AE OL2 LV2 WH2
    go_enter Tryz.func43, Tryz.ntmps43
    go_wp2_with fail
    rw [← HW.out]
    refine ML.out.mono ?_
    rintro e w1 ⟨rfl, b1⟩
    have B1 := Lib.hid (bt B0.out b1)
    clear b1 Y0 B0 HW ML
    go_wp2
    exact bodyPost_ret (v := .tuple #[.slice none 0 0, .int .i64 8]) (by simp [results, Tryz.results43, go_sem]) rfl ⟨_, rfl, Seq.nil _ _, B1.out⟩
  have q1 : decide ((8 : Int) ≤ (r : Int)) = false := decide_eq_false (by omega)
  have q2 : decide (8 ≤ r) = false := decide_eq_false (by omega)
  cases o
  · obtain rfl : a = 8 := by rw [AE.out, if_neg (fun h => by cases h.2)]
    rw [if_neg (by decide)]
    clear AE LV2 WH2
    go_enter Tryz.func43, Tryz.ntmps43
    go_wp2_with fail
    rw [← HW.out]
    refine ML.out.mono ?_
    rintro e w1 ⟨rfl, b1⟩
    have B1 := Lib.hid (bt B0.out b1)
    clear b1 Y0 B0 HW ML
    go_wp2_with fail
    refine (OL2.out _ B1.out).mono ?_
    rintro e w2 ⟨rfl, b2⟩
    have B2 := Lib.hid (bt B1.out b2)
    clear b2 OL2 B1
    go_wp2
    exact bodyPost_ret (v := .tuple #[.slice none 0 0, .int .i64 8]) (by simp [results, Tryz.results43, go_sem]) rfl ⟨_, rfl, Seq.nil _ _, B2.out⟩
  rw [if_pos ⟨hr8, rfl⟩] at AE
  by_cases hx0 : 0 ≤ x
  rotate_left
  · obtain rfl : a = 130 := by rw [AE.out, if_neg hx0]
    have q3 : decide (x < 0) = true := decide_eq_true (by omega)
    rw [if_neg (by decide)]
    clear AE
    go_enter Tryz.func43, Tryz.ntmps43
    go_wp2_with fail
    rw [← HW.out]
    refine ML.out.mono ?_
    rintro e w1 ⟨rfl, b1⟩
    have B1 := Lib.hid (bt B0.out b1)
    have Y1 := Lib.hid (blk_below b1 Y0.out)
    clear b1 Y0 B0 HW ML
    go_wp2_with fail
    refine (OL2.out _ B1.out).mono ?_
    rintro e w2 ⟨rfl, b2⟩
    have B2 := Lib.hid (bt B1.out b2)
    have Y2 := Lib.hid (blk_below b2 Y1.out)
    clear b2 OL2 B1 Y1
    go_wp2_with fail
    refine (LV2.out _ B2.out).mono ?_
    rintro e w3 ⟨v3, rfl, o3, b3⟩
    have B3 := Lib.hid (bt B2.out b3)
    have Y3 := Lib.hid (blk_below b3 Y2.out)
    have O3 := Lib.hid o3
    clear b3 o3 LV2 B2 Y2
    have d0 := cell_of_row _ _ 0 _ _ _ Y3.out
    have d1 := cell_of_row _ _ 1 _ _ _ Y3.out
    go_wp2_with fail
    refine (WH2.out _ _ O3.out).mono ?_
    rintro e w4 ⟨rfl, b4⟩
    have B4 := Lib.hid (bt B3.out b4)
    have O4 := Lib.hid (O3.out.keeps b4)
    clear b4 WH2 B3 O3 Y3 d0 d1
    go_wp2
    exact bodyPost_ret (v := .tuple #[.slice none 0 0, .int .i64 130]) (by simp [results, Tryz.results43, go_sem]) rfl ⟨_, rfl, Seq.nil _ _, B4.out⟩
  obtain rfl : a = 0 := by rw [AE.out, if_pos hx0]
  have q3 : decide (x < 0) = false := decide_eq_false (by omega)
  rw [if_pos rfl]
  clear AE
  go_enter Tryz.func43, Tryz.ntmps43
  go_wp2_with fail
  rw [← HW.out]
  refine ML.out.mono ?_
  rintro e w1 ⟨rfl, b1⟩
  have B1 := Lib.hid (bt B0.out b1)
  have Y1 := Lib.hid (blk_below b1 Y0.out)
  clear b1 Y0 B0 HW ML
  go_wp2_with fail
  refine (OL2.out _ B1.out).mono ?_
  rintro e w2 ⟨rfl, b2⟩
  have B2 := Lib.hid (bt B1.out b2)
  have Y2 := Lib.hid (blk_below b2 Y1.out)
  clear b2 OL2 B1 Y1
  go_wp2_with fail
  refine (LV2.out _ B2.out).mono ?_
  rintro e w3 ⟨v3, rfl, o3, b3⟩
  have B3 := Lib.hid (bt B2.out b3)
  have Y3 := Lib.hid (blk_below b3 Y2.out)
  have O3 := Lib.hid o3
  clear b3 o3 LV2 B2 Y2
  have d0 := cell_of_row _ _ 0 _ _ _ Y3.out
  have d1 := cell_of_row _ _ 1 _ _ _ Y3.out
  go_wp2_with fail
  refine (WH2.out _ _ O3.out).mono ?_
  rintro e w4 ⟨rfl, b4⟩
  have B4 := Lib.hid (bt B3.out b4)
  have O4 := Lib.hid (O3.out.keeps b4)
  clear b4 WH2 B3 O3 Y3 d0 d1
  go_wp2
  exact bodyPost_ret (v := .tuple #[v3, .int .i64 0]) (by simp [results, Tryz.results43, go_sem]) rfl ⟨_, rfl, O4.out, B4.out⟩
end Go.Proofs.YtgjbnbojjgbmcaaGreat.Edits

namespace Go.Proofs.YtgjbnbojjgbmcaaGreat.Edits
open Go.RowKit Go.WideShapes Stamp Go.Proofs.YtgjbnbojjgbmcaaGreat.Place Ops Codes Bags Marks Homes Covers Views
attribute [local go_sem ↓] Go.wp_at_zero Go.wp_at_succ
attribute [local go_sem] yielded_undef
theorem und_len (p : List Run) (a : Id) : (und p a).1.length ≤ 64 := by
  unfold und
  split
  · simp
  · split
    · simp
    · split
      · simp
      · rename_i h; show (more p a).length ≤ 64; omega
theorem run_grown {w w' : World} {base sz n B : Nat} {v u : Value} {rs : List Value} {L : List Run} (hg : w.grownBy w' v.ownBlock) (hv : w.ownsRow B 38 sz v n rs) (h2 : w.ownsRow base 32 3 u L.length (runs L)) : w'.ownsRow base 32 3 u L.length (runs L) :=
  ⟨h2.1, h2.2.imp id fun ⟨g, cap, cur, e1, e2, e3, e4⟩ => ⟨g, cap, cur, e1, e2, blk_grown hg (own_ne hv e3 (by intro c h; injection h with h1 h2 h3; exact absurd h2 (by decide))) e3, e4⟩⟩
theorem id_grown {w w' : World} {sz n B k : Nat} {v c0 c1 : Value} {rs : List Value} (hg : w.grownBy w' v.ownBlock) (hv : w.ownsRow B 38 sz v n rs) (h : w.heap[k]? = some (.cells #[c0, c1] 28)) : w'.heap[k]? = some (.cells #[c0, c1] 28) :=
  blk_grown hg (own_ne hv h (by intro c h; injection h with h1 h2 h3; exact absurd h2 (by decide))) h
set_option maxRecDepth 100000 in
set_option maxHeartbeats 8000000 in
theorem refTyped_any {vp vc : Value} {p : List Run} {cs : List Int} {r t : Nat} {w : World} (hp : Runs w vp p) (hc : Ints w vc cs) (hcl : cs.length ≤ 64) (ht : t + cs.length ≤ 1073741824) (hr : r < 256) (hci : ∀ c ∈ cs, -9223372036854775808 ≤ c ∧ c ≤ 9223372036854775807) :
    Calls Tryz.prog 47 #[vp, .int .u8 (r : Int), .int .u32 (t : Int), vc] w fun e w' => ∃ v', e = .returned (.tuple #[v', .bool (typed p r t cs).2]) ∧ OwnL w' w.heap.size v' (if (typed p r t cs).2 = true then (typed p r t cs).1 else []) ∧ Below w.heap.size w w' := by
  obtain ⟨co, cc, rfl⟩ := hc.shape
  obtain ⟨n, hn⟩ : ∃ n, n = cs.length := ⟨_, rfl⟩
  have HC : Hid (∀ W : World, Below w.heap.size w W → Ints W (.slice co cs.length cc) cs) := fun W h => hc.keeps h
  have HN := Lib.hid hn
  have HCI := Lib.hid hci
  have HP0 := Lib.hid hp
  obtain ⟨R, q, hR⟩ : ∃ R q, typed p r t cs = (R, q) := ⟨_, _, rfl⟩
  have T0 : Hid ((R, q) = ([] ++ (typed p r (t + 0) (cs.drop 0)).1, (typed p r (t + 0) (cs.drop 0)).2)) := by
    show _ = _
    rw [Nat.add_zero, List.drop_zero, hR]
    rfl
  rw [← hn] at hcl ht ⊢
  rw [hR]
  have L0 : Hid (OwnL w w.heap.size (.slice none 0 0) []) := OwnL.nil _ _
  have B0 : Hid (Below w.heap.size w w) := Below.refl _ _
  have M0 : Hid (0 = ([] : List Opn).length) := rfl
  clear hp hc hn hci hR
  go_enter Tryz.func47, Tryz.ntmps47
  go_wp2
  go_loopw [0, 10, 11] (fun vp vo i wr => ∃ (j : Nat) (P : List Run) (O : List Opn) (lo : Option Addr) (lc : Nat), j ≤ n ∧ i = .int .i64 (j : Int) ∧ vo = .slice lo j lc ∧ Hid (Runs wr vp P) ∧ Hid (j = O.length) ∧ Hid ((R, q) = (O ++ (typed P r (t + j) (cs.drop j)).1, (typed P r (t + j) (cs.drop j)).2)) ∧ Hid (OwnL wr w.heap.size (.slice lo j lc) O) ∧ Hid (Below w.heap.size w wr)) (fun _ _ i _ => n - (intOf i).toNat)
  case atStart => exact ⟨0, p, [], none, 0, by omega, rfl, rfl, HP0, M0, T0, L0, B0⟩
  case round =>
    clear HP0 M0 T0 L0 B0
    obtain ⟨j, P, O, lo, lc, hj, rfl, rfl, HP, HM, HT, hown, hbel⟩ := hrel
    by_cases hjn : j < n
    rotate_left
    · have q3 : decide (j < n) = false := by simpa using hjn
      obtain rfl : j = n := by omega
      have hd : cs.drop j = [] := List.drop_eq_nil_iff.2 (by have := HN.out; omega)
      have hT := HT.out
      rw [hd] at hT
      obtain ⟨e1, e2⟩ := Prod.mk.inj hT
      have e3 : R = O := e1.trans (List.append_nil O)
      have e4 : q = true := e2
      clear e1 e2 hT HT hd
      subst e3 e4
      go_wp2
      exact bodyPost_ret (v := .tuple #[.slice lo j lc, .bool true]) (by simp [results, Tryz.results47, go_sem]) rfl ⟨_, rfl, hown.out, hbel.out⟩
    have q3 : decide (j < n) = true := by simpa using hjn
    have q4 : (0 : Int) ≤ (j : Int) := by omega
    have q5 : (j : Int) < (n : Int) := by omega
    have hjl : j < cs.length := by rw [← HN.out]; exact hjn
    obtain ⟨bb, oo, e, hbb, hcell⟩ := ints_at (HC.out w (Below.refl _ _)) j hjl
    cases e
    obtain ⟨c, hcx⟩ : ∃ c, cs[j]'hjl = c := ⟨_, rfl⟩
    have hcb := HCI.out _ (List.getElem_mem hjl)
    have hdr : cs.drop j = c :: cs.drop (j + 1) := by rw [← hcx]; exact List.drop_eq_getElem_cons hjl
    rw [hcx] at hcell hcb
    obtain ⟨vo', vc', rfl⟩ := HP.out.shape
    obtain ⟨np, hnp⟩ : ∃ n, P.length = n := ⟨_, rfl⟩
    rw [hnp] at HP ⊢
    obtain ⟨T, hTT⟩ : ∃ T, T = t + j + 1 := ⟨_, rfl⟩
    have hTm : T ≤ 1073741824 := by omega
    have e1 : (mk T r).t = T := mk_t (by omega)
    have e2 : (mk T r).r = r := mk_r hr
    have UN : Hid (∀ W : World, Below wr.heap.size wr W → Calls Tryz.prog 51 #[.slice vo' np vc', .agg #[.int .u32 (T : Int), .int .u8 (r : Int)]] W fun e w' => ∃ ao cap, e = .returned (.tuple #[.slice ao (und P (mk T r)).1.length cap, .int .i64 (und P (mk T r)).2]) ∧ w'.ownsRow W.heap.size 32 3 (.slice ao (und P (mk T r)).1.length cap) (und P (mk T r)).1.length (runs (und P (mk T r)).1) ∧ Below W.heap.size W w') := fun W h => by
      have := refUnder_own (a := mk T r) (HP.out.keeps h)
      rw [e1, e2] at this
      exact this
    have hT := HT.out
    rw [hdr, typed_step, ← hTT] at hT
    have hql := und_len P (mk T r)
    obtain ⟨Q, f, hQ⟩ : ∃ Q f, und P (mk T r) = (Q, f) := ⟨_, _, rfl⟩
    rw [hQ] at hT hql
    simp only [hQ] at UN
    simp only at hT hql
    have w1 : IntKind.u32.wrap (j : Int) = (j : Int) := IntWalk.u32_in _ (by omega)
    have w2 : IntKind.u32.wrap ((t : Int) + (j : Int)) = (t : Int) + (j : Int) := IntWalk.u32_in _ (by omega)
    have w3 : (t : Int) + (j : Int) + 1 = (T : Int) := by omega
    have w4 : IntKind.u32.wrap (T : Int) = (T : Int) := IntWalk.u32_in _ (by omega)
    have HO : Hid (∀ v : Value, [Value.int .u8 ((1 : Nat) : Int), .int .u32 (T : Int), .int .u8 (r : Int), v, .int .i64 c] = [Value.int .u8 ((mkO 1 (mk T r) Q c).k : Int), .int .u32 ((mkO 1 (mk T r) Q c).t : Int), .int .u8 ((mkO 1 (mk T r) Q c).r : Int), v, .int .i64 (mkO 1 (mk T r) Q c).p]) := fun v => by
      show _ = [Value.int .u8 ((1 % 256 : Nat) : Int), .int .u32 ((mk T r).t : Int), .int .u8 ((mk T r).r : Int), v, .int .i64 (if -9223372036854775808 ≤ c ∧ c ≤ 9223372036854775807 then c else 0)]
      rw [e1, e2, if_pos hcb]
    obtain ⟨wl, hwl⟩ : ∃ x, x = wr.alloc (.cells #[.int .u32 (T : Int), .int .u8 (r : Int)] 28) := ⟨_, rfl⟩
    have BL : Hid (Below wr.heap.size wr wl) := by rw [hwl]; exact (Below.refl _ _).alloc (Nat.le_refl _) _
    have YL : Hid (wl.heap[wr.heap.size]? = some (.cells #[.int .u32 (T : Int), .int .u8 (r : Int)] 28)) := by rw [hwl]; exact blk_new rfl
    have HW := Lib.hid hwl
    have CE : Hid (∀ W : World, Below w.heap.size w W → W.cell? ⟨bb, oo + j, none⟩ = some (.int .i64 c)) := fun W h => (h.cell (p := ⟨bb, oo + j, none⟩) hbb).trans hcell
    clear hcell hcx hdr e1 e2 HT hQ hnp hwl hcb hTT
    have d0 := cell_of_row _ _ 0 _ _ _ YL.out
    have d1 := cell_of_row _ _ 1 _ _ _ YL.out
    by_cases hf : f = 0
    rotate_left
    · rw [if_neg hf] at hT
      obtain ⟨rfl, rfl⟩ := Prod.mk.inj hT
      have t1 : (f != 0) = true := by simpa using hf
      have t2 : decide (f = 0) = false := decide_eq_false hf
      clear hT HO hown
      go_wp2_with fail
      rw [← HW.out]
      refine (UN.out _ BL.out).mono ?_
      rintro e w5 ⟨qo, qc, rfl, -, b5⟩
      have B5 := Lib.hid (bt hbel.out (bt BL.out b5))
      clear b5 UN d0 d1 HP hql
      go_wp2
      exact bodyPost_ret (v := .tuple #[.slice none 0 0, .bool false]) (by simp [results, Tryz.results47, go_sem]) rfl ⟨_, rfl, by first | exact OwnL.nil _ _ | (rw [if_neg (by simp)]; exact OwnL.nil _ _), B5.out⟩
    subst hf
    rw [if_pos rfl] at hT
    have HT2 : Hid ((R, q) = ((O ++ [mkO 1 (mk T r) Q c]) ++ (typed Q r T (cs.drop (j + 1))).1, (typed Q r T (cs.drop (j + 1))).2)) := by
      show _ = _
      rw [hT, List.append_assoc]
      rfl
    clear hT
    obtain ⟨nq, hnq⟩ : ∃ n, Q.length = n := ⟨_, rfl⟩
    rw [hnq] at hql
    go_wp2_with fail
    rw [← HW.out]
    refine (UN.out _ BL.out).mono ?_
    rintro e w5 ⟨qo, qc, rfl, o5, b5⟩
    have PO : Hid (w5.ownsRow w.heap.size 32 3 (.slice qo Q.length qc) Q.length (runs Q)) := op_base o5 (Nat.le_trans hbel.out.size BL.out.size)
    have B5 := Lib.hid (bt BL.out b5)
    have Y5 := Lib.hid (blk_below b5 YL.out)
    have BW5 := Lib.hid (bt hbel.out B5.out)
    have LL := Lib.hid (hown.out.keeps B5.out)
    have PR := Lib.hid (Runs.own PO.out)
    obtain ⟨ks, lo5, lh⟩ := LL.out
    rw [← HM.out] at lo5
    have LO := Lib.hid lo5
    have LH := Lib.hid lh
    rw [hnq] at PO PR ⊢
    have SG : Hid (∀ W : World, Below w.heap.size w W → W.heap[wr.heap.size]? = some (.cells #[.int .u32 (T : Int), .int .u8 (r : Int)] 28) → Below w.heap.size w W ∧ W.cell? ⟨wr.heap.size, 0, none⟩ = some (.int .u32 (T : Int)) ∧ W.cell? ⟨wr.heap.size, 1, none⟩ = some (.int .u8 (r : Int)) ∧ W.cell? ⟨bb, oo + j, none⟩ = some (.int .i64 c)) := fun W h g =>
      ⟨h, cell_of_row _ _ 0 _ _ _ g, cell_of_row _ _ 1 _ _ _ g, CE.out W h⟩
    have SK : Hid (∀ W : World, Below w5.heap.size w5 W → Below w.heap.size w W ∧ W.cell? ⟨wr.heap.size, 0, none⟩ = some (.int .u32 (T : Int)) ∧ W.cell? ⟨wr.heap.size, 1, none⟩ = some (.int .u8 (r : Int)) ∧ W.cell? ⟨bb, oo + j, none⟩ = some (.int .i64 c)) := fun W h => SG.out W (bt BW5.out h) (blk_below h Y5.out)
    have FO : Hid (∀ z ∈ ([.int .u8 ((1 : Nat) : Int), .int .u32 (T : Int), .int .u8 (r : Int), .slice qo nq qc, .int .i64 c] : List Value), z.oneCell' = true) := by unfold Hid; rw [HO.out]; exact five_one _ _ ⟨_, _, _, rfl⟩
    have HNQ := Lib.hid hnq
    clear o5 b5 lo5 lh hown UN d0 d1 LL B5 HP YL HW BL CE hbel hnq hbb
    go_wp2
    refine wp_region_held_drew (S := fun w' => Below w.heap.size w w' ∧ w'.cell? ⟨wr.heap.size, 0, none⟩ = some (.int .u32 (T : Int)) ∧ w'.cell? ⟨wr.heap.size, 1, none⟩ = some (.int .u8 (r : Int)) ∧ w'.cell? ⟨bb, oo + j, none⟩ = some (.int .i64 c)) (by kernel_rfl) (SK.out _ (drew1 _)) (fun hHeld => ?_)
    refine rN 0 ?_
    refine rN 1 ?_
    refine rN 2 ?_
    refine rN 3 ?_
    refine rN 4 ?_
    refine rN 5 ?_
    refine rN 6 ?_
    refine rN 7 ?_
    refine wpAnyH_ready (rs := [8]) (by kernel_rfl) (by simp) ?_
    refine AllReadyH.cons rfl (fun K hK => ?_) AllReadyH.nil
    go_simp
    have BD : Hid (Below w5.heap.size w5 ((w5.drew).alloc (.cells #[.int .u8 ((1 : Nat) : Int), .int .u32 (T : Int), .int .u8 (r : Int), .slice qo nq qc, .int .i64 c] 38))) := ((Below.refl _ _).drew).alloc (Nat.le_refl _) _
    refine hK.out _ _ (SK.out _ BD.out) (fun hNew => ?_)
    clear hHeld
    have hHeld := hNew
    clear hNew hK K
    refine rX ?_
    refine wpAnyH_ready (rs := [9]) (by kernel_rfl) (by simp) ?_
    refine AllReadyH.cons rfl (fun K hK => ?_) AllReadyH.nil
    refine step_append_sees rfl (.tmp 36) (.tmp 44) 22 38 rfl Tryz.underlying22 op_info rfl (by decide) w.heap.size _ j ks rfl (own_stays LO.out BD.out) (.slice (some ⟨w5.heap.size, 0, none⟩) 1 1) 1 [.int .u8 ((1 : Nat) : Int), .int .u32 (T : Int), .int .u8 (r : Int), .slice qo nq qc, .int .i64 c] rfl (sees_new (w5.drew) [.int .u8 ((1 : Nat) : Int), .int .u32 (T : Int), .int .u8 (r : Int), .slice qo nq qc, .int .i64 c] 5 1 rfl (by omega) 38 (0, 0)) FO.out (by omega) (by omega) (Nat.le_trans BW5.out.size BD.out.size) ?_
    intro v6 w6 o6 g6 b6
    have L6 : Hid (OwnL w6 w.heap.size v6 (O ++ [mkO 1 (mk T r) Q c])) := by
      have lo2 := LO.out
      have o7 := o6
      rw [HO.out] at o7
      have po : ((w5.drew).alloc (.cells #[.int .u8 ((1 : Nat) : Int), .int .u32 (T : Int), .int .u8 (r : Int), .slice qo nq qc, .int .i64 c] 38)).ownsRow w.heap.size 32 3 (.slice qo nq qc) Q.length (runs Q) := by
        rw [HNQ.out]
        exact own_stays PO.out BD.out
      have gx := g6
      rw [HM.out] at lo2 gx
      exact OwnL.snoc (W := w5) (W8 := (w5.drew).alloc (.cells #[.int .u8 ((1 : Nat) : Int), .int .u32 (T : Int), .int .u8 (r : Int), .slice qo nq qc, .int .i64 c] 38)) (o := mkO 1 (mk T r) Q c) (m := j + 1) lo2 LH.out BD.out po gx o7 (by rw [HM.out])
    have B6 : Hid (Below w.heap.size w w6) := (bt BW5.out BD.out).trans b6
    have I6 := Lib.hid (id_grown g6 (own_stays LO.out BD.out) (blk_below BD.out Y5.out))
    have P6 : Hid (Runs w6 (.slice qo nq qc) Q) := by
      have po : ((w5.drew).alloc (.cells #[.int .u8 ((1 : Nat) : Int), .int .u32 (T : Int), .int .u8 (r : Int), .slice qo nq qc, .int .i64 c] 38)).ownsRow w.heap.size 32 3 (.slice qo nq qc) Q.length (runs Q) := by
        rw [HNQ.out]
        exact own_stays PO.out BD.out
      exact Runs.own (run_grown g6 (own_stays LO.out BD.out) po)
    obtain ⟨va, vc, rfl⟩ : ∃ ao cap, v6 = .slice ao (j + 1) cap := Sees.shape (Sees.own o6)
    clear o6 g6 b6
    refine hK.out _ _ (SG.out _ B6.out I6.out) (fun hNew => ?_)
    clear hHeld
    have hHeld := hNew
    clear hNew hK K
    refine rX ?_
    refine rN 10 ?_
    refine wpAnyH_done (by kernel_rfl) ?_ _
    have M6 : Hid (j + 1 = (O ++ [mkO 1 (mk T r) Q c]).length) := by unfold Hid; rw [List.length_append, ← HM.out]; rfl
    have HT3 : Hid ((R, q) = ((O ++ [mkO 1 (mk T r) Q c]) ++ (typed Q r (t + (j + 1)) (cs.drop (j + 1))).1, (typed Q r (t + (j + 1)) (cs.drop (j + 1))).2)) := by
      rw [show t + (j + 1) = T by omega]
      exact HT2.out
    clear hHeld SK SG PO PR LO LH FO BW5 BD HT2 HM HO I6 Y5
    go_wp2
    go_roundw
    case rel => exact ⟨j + 1, Q, _, va, vc, by omega, by go_num, rfl, P6, M6, HT3, L6, B6⟩
    case measure => simp [intOf]; omega
end Go.Proofs.YtgjbnbojjgbmcaaGreat.Edits
