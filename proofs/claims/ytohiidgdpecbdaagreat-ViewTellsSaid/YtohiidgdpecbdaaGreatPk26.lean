/- octavoref15.At: what it answers. Conditions: the slice's cells are operations; the number is one. append on slices of bytes: a row of the call's own, and a source that reads as bytes. Conditions: none. octavoref04's small functions: what they answer. Conditions: as each says. octavoref15.Word, Text: what each answers. Conditions: the slices' cells are elements, operations. octavo/view.Text, Offset, At: what each answers. Conditions: the slice's cells are operations. -/
import Derived.Test.YtohiidgdpecbdaaGreatChecked
import Derived.WalkKit
import Derived.WalkSpells
import Derived.WalkLawsBesides
import Derived.Laws.BytesArg
import Derived.Lib.Hide
import Derived.Deep.LoopGhost
import Derived.Laws.AppendOwnNone
import Derived.Laws.OwnMore
import Derived.WideShapes
import Derived.Maps.AppendAt
import Derived.RegionTactic
import Derived.Deep.RegionHeld3
import Derived.Deep.DrawnRows
import Derived.Deep.QuietTactic
import Derived.BigQuiet
import Derived.IntWalk
import Derived.Deep.DeepCutAuto
import Derived.ScopeJumps
import Derived.Test.YtohiidgdpecbdaaGreatProg
import Derived.LoopTactic
import Derived.Laws.EntriesVeiled
import Derived.RowKit
import Derived.Lib.DecodeN
import Derived.Lib.RuneBytes
import Derived.Test.YtohiidgdpecbdaaGreatShelf
import Derived.Lib.OthersKept
import Derived.Maps.Own
import Derived.Maps.OwnOps
import Derived.Maps.OwnSet
import Derived.Maps.Views
import Derived.DeepKeys4
import Derived.Shelf.SlSortCmp.InsertionK
import Derived.Calls
import Derived.StepT
import Derived.Below
import Derived.Sort.Grow
import Derived.Deep.Draws
import Derived.Shelf.SlLaysF0
import Derived.Shelf.SlSortCmp.NoneTotal
import Derived.Scope
import Derived.Shelf.Abstract
import Derived.RangeFuncBox
import Derived.RangeFuncLeaves
import Derived.RangeFuncNested
import Derived.RangeFuncBound
import Derived.RangeFuncCalls
import Derived.OwnWalkIn
import Derived.TacticsInMore
import Derived.LoopNIn
import Derived.LoopIn
import Derived.Lib.Tables
import Derived.Laws.Bits64
import Derived.BigCall
import Derived.Test.YtohiidgdpecbdaaGreatPk05
import Derived.Test.YtohiidgdpecbdaaGreatPk25
import Derived.Test.YtohiidgdpecbdaaGreatPk23
import Derived.Test.YtohiidgdpecbdaaGreatPk22
import Derived.Test.YtohiidgdpecbdaaGreatPk21
import Derived.Test.YtohiidgdpecbdaaGreatPk04
import Derived.Test.YtohiidgdpecbdaaGreatPk20
import Derived.Test.YtohiidgdpecbdaaGreatPk03
import Derived.Test.YtohiidgdpecbdaaGreatPk02
import Derived.Test.YtohiidgdpecbdaaGreatPk01
import Derived.Test.YtohiidgdpecbdaaGreatPk19
import Derived.Test.YtohiidgdpecbdaaGreatPk24
import Derived.Test.YtohiidgdpecbdaaGreatPk09
import Derived.Test.YtohiidgdpecbdaaGreatPk06
import Derived.Test.YtohiidgdpecbdaaGreatPk07
import Derived.Test.YtohiidgdpecbdaaGreatPk08

namespace Go.Proofs.YtohiidgdpecbdaaGreat.Views
open Go.RowKit Go.WideShapes Stamp Go.Proofs.YtohiidgdpecbdaaGreat.Place Ops Codes Bags Marks Homes Covers
attribute [local go_sem ↓] Go.wp_at_zero Go.wp_at_succ
attribute [local go_sem] yielded_undef
def put4 (X : World) (g : Nat) (d0 d1 d2 d3 : Value) : World := (((X.setCell ⟨g, 0, none⟩ d0).setCell ⟨g, 1, none⟩ d1).setCell ⟨g, 2, none⟩ d2).setCell ⟨g, 3, none⟩ d3
theorem put4_same {X : World} {g : Nat} {c0 c1 c2 c3 : Value} (d0 d1 d2 d3 : Value) {e : TypeId} (h : X.heap[g]? = some (.cells #[c0, c1, c2, c3] e)) : (put4 X g d0 d1 d2 d3).heap[g]? = some (.cells #[d0, d1, d2, d3] e) := by
  have h0 := heap_setCell_same X g 0 _ _ d0 h
  have h1 := heap_setCell_same _ g 1 _ _ d1 h0
  have h2 := heap_setCell_same _ g 2 _ _ d2 h1
  have h3 := heap_setCell_same _ g 3 _ _ d3 h2
  exact h3
theorem put4_other {X : World} {g k : Nat} (d0 d1 d2 d3 : Value) {o : Obj} (hk : k ≠ g) (h : X.heap[k]? = some o) : (put4 X g d0 d1 d2 d3).heap[k]? = some o := by
  unfold put4
  rw [heap_setCell_other _ _ _ _ hk, heap_setCell_other _ _ _ _ hk, heap_setCell_other _ _ _ _ hk, heap_setCell_other _ _ _ _ hk]
  exact h
theorem put4_below {B g : Nat} {W X : World} (d0 d1 d2 d3 : Value) (hg : B ≤ g) (h : Below B W X) : Below B W (put4 X g d0 d1 d2 d3) :=
  (((h.setCell (p := ⟨g, 0, none⟩) hg _).setCell (p := ⟨g, 1, none⟩) hg _).setCell (p := ⟨g, 2, none⟩) hg _).setCell (p := ⟨g, 3, none⟩) hg _
theorem put4_size {X : World} {g : Nat} (d0 d1 d2 d3 : Value) : (put4 X g d0 d1 d2 d3).heap.size = X.heap.size := by unfold put4; simp
theorem free4 {X : World} {g : Nat} {cs : Array Value} {e : TypeId} (h : X.heap[g]? = some (.cells cs e)) (o : Nat) : X.frozen? ⟨g, o, none⟩ = false := by simp [World.frozen?, h]
/-- Runs stay so where an element's block is written. -/
theorem runs_put4 {X : World} {g : Nat} {v : Value} {l : List Run} {a b p : Int} {so : Option Addr} {sn sc : Nat} (d0 d1 d2 d3 : Value) (h : Runs X v l) (hg : X.heap[g]? = some (.cells #[.int .u32 a, .int .u8 b, .slice so sn sc, .int .i64 p] 44)) : Runs (put4 X g d0 d1 d2 d3) v l := by
  obtain ⟨h1, ao, cap, rfl, h2, h3, h4, h5⟩ := h
  refine ⟨h1, ao, cap, rfl, h2, h3, h4, ?_⟩
  rcases h5 with h5 | ⟨q, off, rfl, hlt, hc⟩
  · exact .inl h5
  · refine .inr ⟨q, off, rfl, by rw [put4_size]; exact hlt, fun j u hj => ?_⟩
    have hne : q ≠ g := by
      intro e
      subst e
      cases l with
      | nil => simp [runs] at hj
      | cons x l =>
        have c0 := hc 0 (.int .u32 (x.t : Int)) rfl
        have c1 := hc 1 (.int .u8 (x.r : Int)) rfl
        have c2 := hc 2 (.int .i64 x.m) rfl
        rw [cell_of_row _ q _ _ _ _ hg] at c0 c1 c2
        rcases off with _ | _ | _ | _ | off
        · simp at c2
        · simp at c0
        · simp at c0
        · simp at c0
        · simp at c0
    exact (World.cell?_of_block (by unfold put4; exact (heap_setCell_other _ _ _ _ hne).trans ((heap_setCell_other _ _ _ _ hne).trans ((heap_setCell_other _ _ _ _ hne).trans (heap_setCell_other _ _ _ _ hne))))).trans (hc j u hj)
set_option maxRecDepth 100000 in
set_option maxHeartbeats 8000000 in
theorem refAt15_any {v : Value} {l : List Opn} (s : Id) (k : Int) {w : World} (hv : OpL w v l) : Calls Tryz.prog 14 #[v, .agg #[.int .u32 (s.t : Int), .int .u8 (s.r : Int)], .int .i64 k] w fun e w' => ∃ vt, e = .returned (.tuple #[elv (atL l s k) vt, .int .i64 (atE l s k)]) ∧ Runs w' vt (atL l s k).pl ∧ Below w.heap.size w w' := by
  obtain ⟨wb, hwb⟩ : ∃ x, x = w.alloc (.cells #[.int .u32 (s.t : Int), .int .u8 (s.r : Int)] 25) := ⟨_, rfl⟩
  obtain ⟨wl, hwl⟩ : ∃ x, x = wb.alloc (.cells #[.int .u32 0, .int .u8 0, .slice none 0 0, .int .i64 0] 44) := ⟨_, rfl⟩
  have hsz : wb.heap.size = w.heap.size + 1 := by rw [hwb]; exact Array.size_push _
  have X0 : Hid (wl.heap[w.heap.size + 1]? = some (.cells #[.int .u32 0, .int .u8 0, .slice none 0 0, .int .i64 0] 44)) := by rw [hwl, ← hsz]; exact blk_new rfl
  have Bb : Below w.heap.size w wb := by rw [hwb]; exact (Below.refl _ _).alloc (Nat.le_refl _) _
  have Y0 : Hid (wl.heap[w.heap.size]? = some (.cells #[.int .u32 (s.t : Int), .int .u8 (s.r : Int)] 25)) := by
    have h1 : wb.heap[w.heap.size]? = some (.cells #[.int .u32 (s.t : Int), .int .u8 (s.r : Int)] 25) := by rw [hwb]; exact blk_new rfl
    rw [hwl]
    exact blk_below ((Below.refl _ _).alloc (Nat.le_refl _) _) h1
  have B0 : Hid (Below w.heap.size w wl) := by rw [hwl]; exact Bb.alloc (by omega) _
  have HW : Hid (wl = (w.alloc (.cells #[.int .u32 (s.t : Int), .int .u8 (s.r : Int)] 25)).alloc (.cells #[.int .u32 0, .int .u8 0, .slice none 0 0, .int .i64 0] 44)) := by rw [hwl, hwb]; rfl
  have EL : Hid (Calls Tryz.prog 8 #[v, .agg #[.int .u32 (s.t : Int), .int .u8 (s.r : Int)]] wl (DoneE (elmL l s) (spanE l s) wl)) := refElements_any s (hv.keeps B0.out)
  have hlen := (elm_fits l s).1
  unfold DoneE at EL
  have eE : atE l s k = if spanE l s = 0 then (if 0 ≤ k ∧ k < ((elmL l s).length : Int) then 0 else 2) else spanE l s := rfl
  have eL : atL l s k = if spanE l s = 0 ∧ 0 ≤ k ∧ k < ((elmL l s).length : Int) then (elmL l s).getD k.toNat Codes.zop else Codes.zop := rfl
  rw [eE, eL]
  obtain ⟨L, hL⟩ : ∃ L, elmL l s = L := ⟨_, rfl⟩
  rw [hL] at EL hlen ⊢
  obtain ⟨x, hx⟩ : ∃ x, spanE l s = x := ⟨_, rfl⟩
  rw [hx] at EL ⊢
  clear hv hwl hwb hsz Bb hL hx eE eL
  obtain ⟨ts, rs, hts, hrs⟩ := s
  simp only at Y0 HW EL ⊢
  by_cases h0 : x = 0
  rotate_left
  · rw [if_neg (fun h => h0 h.1), if_neg h0]
    have q0 : (x == 0) = false := by simpa using h0
    have q1 : decide (x = 0) = false := decide_eq_false h0
    have d0 := cell_of_row _ _ 0 _ _ _ Y0.out
    have d1 := cell_of_row _ _ 1 _ _ _ Y0.out
    go_enter Tryz.func14, Tryz.ntmps14
    go_wp2_with fail
    rw [← HW.out]
    refine EL.out.mono ?_
    rintro e w1 ⟨v1, rfl, o1, b1⟩
    obtain ⟨ea, ec, rfl⟩ := o1.shape
    have O1 := Lib.hid o1
    have B1 := Lib.hid (bt B0.out b1)
    have X1 := Lib.hid (blk_below b1 X0.out)
    clear b1 o1 Y0 X0 B0 HW EL d0 d1
    obtain ⟨c0, c1, c2, c3⟩ := cells4 X1.out
    have f0 : ∀ o, w1.frozen? ⟨w.heap.size + 1, o, none⟩ = false := fun o => free4 X1.out o
    have HF := Lib.hid (put4_same (.int .u32 0) (.int .u8 0) (.slice none 0 0) (.int .i64 0) X1.out)
    have BF := Lib.hid (put4_below (.int .u32 0) (.int .u8 0) (.slice none 0 0) (.int .i64 0) (Nat.le_add_right w.heap.size 1) B1.out)
    obtain ⟨WF, hWF⟩ : ∃ WF, put4 w1 (w.heap.size + 1) (.int .u32 0) (.int .u8 0) (.slice none 0 0) (.int .i64 0) = WF := ⟨_, rfl⟩
    rw [hWF] at HF BF
    unfold put4 at hWF
    have HX := Lib.hid hWF
    clear hWF X1 B1 O1
    go_wp2
    rw [HX.out]
    obtain ⟨e0, e1, e2, e3⟩ := cells4 HF.out
    exact bodyPost_ret (v := .tuple #[.agg #[.int .u32 0, .int .u8 0, .slice none 0 0, .int .i64 0], .int .i64 x]) (by simp [results, Tryz.results14, go_sem, e0, e1, e2, e3]) rfl ⟨_, rfl, Sees.nil _ _, BF.out⟩
  subst h0
  obtain ⟨n, hn⟩ : ∃ n, L.length = n := ⟨_, rfl⟩
  have HN := Lib.hid hn
  by_cases hk : 0 ≤ k ∧ k < (L.length : Int)
  rotate_left
  · rw [if_neg (fun h => hk h.2), if_pos rfl, if_neg hk]
    rw [hn] at hk hlen
    by_cases hneg : k < 0
    · have q2 : decide (k < 0) = true := decide_eq_true hneg
      have d0 := cell_of_row _ _ 0 _ _ _ Y0.out
      have d1 := cell_of_row _ _ 1 _ _ _ Y0.out
      go_enter Tryz.func14, Tryz.ntmps14
      go_wp2_with fail
      rw [← HW.out]
      refine EL.out.mono ?_
      rintro e w1 ⟨v1, rfl, o1, b1⟩
      obtain ⟨ea, ec, rfl⟩ := o1.shape
      have O1 := Lib.hid o1
      have B1 := Lib.hid (bt B0.out b1)
      have X1 := Lib.hid (blk_below b1 X0.out)
      clear b1 o1 Y0 X0 B0 HW EL d0 d1
      rw [HN.out]
      obtain ⟨c0, c1, c2, c3⟩ := cells4 X1.out
      have f0 : ∀ o, w1.frozen? ⟨w.heap.size + 1, o, none⟩ = false := fun o => free4 X1.out o
      have HF := Lib.hid (put4_same (.int .u32 0) (.int .u8 0) (.slice none 0 0) (.int .i64 0) X1.out)
      have BF := Lib.hid (put4_below (.int .u32 0) (.int .u8 0) (.slice none 0 0) (.int .i64 0) (Nat.le_add_right w.heap.size 1) B1.out)
      obtain ⟨WF, hWF⟩ : ∃ WF, put4 w1 (w.heap.size + 1) (.int .u32 0) (.int .u8 0) (.slice none 0 0) (.int .i64 0) = WF := ⟨_, rfl⟩
      rw [hWF] at HF BF
      unfold put4 at hWF
      have HX := Lib.hid hWF
      clear hWF X1 B1 O1
      go_wp2
      rw [HX.out]
      obtain ⟨e0, e1, e2, e3⟩ := cells4 HF.out
      exact bodyPost_ret (v := .tuple #[.agg #[.int .u32 0, .int .u8 0, .slice none 0 0, .int .i64 0], .int .i64 2]) (by simp [results, Tryz.results14, go_sem, e0, e1, e2, e3]) rfl ⟨_, rfl, Sees.nil _ _, BF.out⟩
    · have q2 : decide (k < 0) = false := decide_eq_false hneg
      have q3 : decide ((n : Int) ≤ k) = true := decide_eq_true (by omega)
      have d0 := cell_of_row _ _ 0 _ _ _ Y0.out
      have d1 := cell_of_row _ _ 1 _ _ _ Y0.out
      go_enter Tryz.func14, Tryz.ntmps14
      go_wp2_with fail
      rw [← HW.out]
      refine EL.out.mono ?_
      rintro e w1 ⟨v1, rfl, o1, b1⟩
      obtain ⟨ea, ec, rfl⟩ := o1.shape
      have O1 := Lib.hid o1
      have B1 := Lib.hid (bt B0.out b1)
      have X1 := Lib.hid (blk_below b1 X0.out)
      clear b1 o1 Y0 X0 B0 HW EL d0 d1
      rw [HN.out]
      obtain ⟨c0, c1, c2, c3⟩ := cells4 X1.out
      have f0 : ∀ o, w1.frozen? ⟨w.heap.size + 1, o, none⟩ = false := fun o => free4 X1.out o
      have HF := Lib.hid (put4_same (.int .u32 0) (.int .u8 0) (.slice none 0 0) (.int .i64 0) X1.out)
      have BF := Lib.hid (put4_below (.int .u32 0) (.int .u8 0) (.slice none 0 0) (.int .i64 0) (Nat.le_add_right w.heap.size 1) B1.out)
      obtain ⟨WF, hWF⟩ : ∃ WF, put4 w1 (w.heap.size + 1) (.int .u32 0) (.int .u8 0) (.slice none 0 0) (.int .i64 0) = WF := ⟨_, rfl⟩
      rw [hWF] at HF BF
      unfold put4 at hWF
      have HX := Lib.hid hWF
      clear hWF X1 B1 O1
      go_wp2
      rw [HX.out]
      obtain ⟨e0, e1, e2, e3⟩ := cells4 HF.out
      exact bodyPost_ret (v := .tuple #[.agg #[.int .u32 0, .int .u8 0, .slice none 0 0, .int .i64 0], .int .i64 2]) (by simp [results, Tryz.results14, go_sem, e0, e1, e2, e3]) rfl ⟨_, rfl, Sees.nil _ _, BF.out⟩
  rw [if_pos ⟨rfl, hk⟩, if_pos rfl, if_pos hk]
  obtain ⟨j, rfl⟩ : ∃ j : Nat, k = (j : Int) := ⟨k.toNat, by omega⟩
  rw [Int.toNat_natCast]
  have hjl : j < L.length := by omega
  have hg : L.getD j Codes.zop = L[j]'hjl := by rw [List.getD_eq_getElem?_getD, List.getElem?_eq_getElem hjl]; rfl
  rw [hg]
  obtain ⟨y, hy⟩ : ∃ y, L[j]'hjl = y := ⟨_, rfl⟩
  rw [hn] at hk hlen
  rw [hy]
  have HY := Lib.hid hy
  clear hy
  obtain ⟨yk, t, r, yl, p, hyk, ht, hr, hp⟩ := y
  unfold elv
  simp only
  have q2 : decide ((j : Int) < 0) = false := decide_eq_false (by omega)
  have q3 : decide ((n : Int) ≤ (j : Int)) = false := decide_eq_false (by omega)
  have q3' : decide (n ≤ j) = false := decide_eq_false (by omega)
  have q4 : (0 : Int) ≤ (j : Int) := by omega
  have q5 : (j : Int) < (n : Int) := by omega
  clear hg hn
  have d0 := cell_of_row _ _ 0 _ _ _ Y0.out
  have d1 := cell_of_row _ _ 1 _ _ _ Y0.out
  go_enter Tryz.func14, Tryz.ntmps14
  go_wp2_with fail
  rw [← HW.out]
  refine EL.out.mono ?_
  rintro e w1 ⟨v1, rfl, o1, b1⟩
  obtain ⟨ea, ec, rfl⟩ := o1.shape
  have O1 := Lib.hid o1
  have B1 := Lib.hid (bt B0.out b1)
  have X1 := Lib.hid (blk_below b1 X0.out)
  clear b1 o1 Y0 X0 B0 HW EL d0 d1
  obtain ⟨bb, oo, u, e, hbb, hru, h0, h1, h2, h3⟩ := el_at O1.out j hjl
  cases e
  rw [HY.out] at hru h0 h1 h3
  simp only at hru h0 h1 h3
  obtain ⟨uo, uc, rfl⟩ := hru.shape
  have RU := Lib.hid hru
  rw [HN.out]
  obtain ⟨ny, hny⟩ : ∃ z, yl.length = z := ⟨_, rfl⟩
  rw [hny] at RU h2
  clear hru hny HY hbb
  obtain ⟨c0, c1, c2, c3⟩ := cells4 X1.out
  have f0 : ∀ o, w1.frozen? ⟨w.heap.size + 1, o, none⟩ = false := fun o => free4 X1.out o
  have HF := Lib.hid (put4_same (.int .u32 (t : Int)) (.int .u8 (r : Int)) (.slice uo ny uc) (.int .i64 p) X1.out)
  have BF := Lib.hid (put4_below (.int .u32 (t : Int)) (.int .u8 (r : Int)) (.slice uo ny uc) (.int .i64 p) (Nat.le_add_right w.heap.size 1) B1.out)
  have RF := Lib.hid (runs_put4 (.int .u32 (t : Int)) (.int .u8 (r : Int)) (.slice uo ny uc) (.int .i64 p) RU.out X1.out)
  obtain ⟨WF, hWF⟩ : ∃ WF, put4 w1 (w.heap.size + 1) (.int .u32 (t : Int)) (.int .u8 (r : Int)) (.slice uo ny uc) (.int .i64 p) = WF := ⟨_, rfl⟩
  rw [hWF] at HF BF RF
  unfold put4 at hWF
  have HX := Lib.hid hWF
  clear hWF X1 B1 O1
  go_wp2
  rw [HX.out]
  obtain ⟨e0, e1, e2, e3⟩ := cells4 HF.out
  exact bodyPost_ret (v := .tuple #[.agg #[.int .u32 (t : Int), .int .u8 (r : Int), .slice uo ny uc, .int .i64 p], .int .i64 0]) (by simp [results, Tryz.results14, go_sem, e0, e1, e2, e3]) rfl ⟨_, rfl, RF.out, BF.out⟩
end Go.Proofs.YtohiidgdpecbdaaGreat.Views

namespace Go.Proofs.YtohiidgdpecbdaaGreat
open Go.RowKit Go.WideShapes
theorem u8_info : (Tryz.prog.info? 5).map (fun i => (i.zero, i.size, i.bytes)) = some (some (.int .u8 0), 1, 1) := by kernel_rfl
/-- A new row of bytes. -/
theorem reads_new (w : World) (xs : List UInt8) (h : xs.length ≤ 1000) (fr : Nat × Nat) : Reads (w.alloc (.cells (bs xs).toArray 5 fr)) (.slice (some ⟨w.heap.size, 0, none⟩) xs.length xs.length) xs := by
  refine ⟨by omega, _, _, rfl, Nat.le_refl _, by omega, by simp, .inr ⟨w.heap.size, 0, rfl, by simp, fun j hj => ?_⟩⟩
  rw [cell_of_row _ w.heap.size (0 + j) (bs xs).toArray 5 fr (heap_alloc_new w _), Nat.zero_add, List.getElem?_toArray]
  exact bs_get xs j hj
theorem Reads.shape {w : World} {v : Value} {xs : List UInt8} (h : Reads w v xs) : ∃ ao cap, v = .slice ao xs.length cap := by
  obtain ⟨_, ao, cap, h, _⟩ := h; exact ⟨ao, cap, h⟩
theorem Reads.cap {w : World} {ao : Option Addr} {n cap : Nat} {xs : List UInt8} (h : Reads w (.slice ao n cap) xs) : n = xs.length ∧ xs.length ≤ cap ∧ (ao = none → cap = 0) := by
  obtain ⟨_, ao', cap', he, h2, _, h4, _⟩ := h
  obtain ⟨rfl, rfl, rfl⟩ := Value.slice.inj he
  exact ⟨rfl, h2, h4⟩
/-- The cells of what reads as bytes. -/
theorem Reads.cells {w : World} {a : Addr} {n cap : Nat} {xs : List UInt8} (h : Reads w (.slice (some a) n cap) xs) : ∀ (j : Nat) (u : Value), (bs xs)[j]? = some u → w.cell? (a.add j) = some u := by
  intro j u hj
  have hlt : j < xs.length := by have := (List.getElem?_eq_some_iff.1 hj).1; rwa [bs_len] at this
  obtain ⟨_, ao, cp, he, _, _, _, hc | ⟨b, off, hb, _, hc⟩⟩ := h
  · subst hc; simp at hlt
  · simp only [Value.slice.injEq] at he
    obtain ⟨h1, _⟩ := he
    rw [hb] at h1
    cases h1
    rw [add_plain, hc j hlt]
    rw [bs_get xs j hlt] at hj
    exact hj
theorem wpList_append_bytes {w : World} {ops : Array Oper} {rest : List Oper} {o : Oper} {a : Act} {Q : Exit → Act → World → Prop} (hgd : o.guard = none) (s x : Operand)
    (ho : o.op = .call { callee := .builtin .append, args := #[s, x], argTypes := #[76, 76] })
    (base : Nat) (v : Value) (L : List UInt8) (hs : a.eval s = v) (hown : w.ownsRow base 5 1 v L.length (bs L))
    (u : Value) (xs : List UInt8) (hx : a.eval x = u) (hr : Reads w u xs) (h47 : L.length + xs.length ≤ 140737488355328) (hbase : base ≤ w.heap.size)
    (h : ∀ v' w', w'.ownsRow base 5 1 v' (L ++ xs).length (bs (L ++ xs)) → Below base w w' → wpList Tryz.prog ops Q rest (a.put o.dst v') w') : wpList Tryz.prog ops Q (o :: rest) a w := by
  obtain ⟨i0, hi, hz0, hz1, hz2⟩ := info_parts u8_info
  obtain ⟨ao, cap, rfl⟩ := hr.shape
  cases ao with
  | none =>
    obtain ⟨_, h2, h3⟩ := hr.cap
    have hc0 := h3 rfl
    subst hc0
    obtain rfl : xs = [] := List.length_eq_zero_iff.1 (by omega)
    refine wpList_append_own_none hgd s x 76 ho base 5 i0 1 Tryz.underlying76 hi v L.length (bs L) hs hown hx (h v w ?_ (Below.refl _ _))
    rw [List.append_nil]; exact hown
  | some a2 =>
    refine wpList_append_own _ hgd s x 76 ho base 5 i0 (.int .u8 0) 1 1 Tryz.underlying76 hi hz0 hz1 hz2 rfl (by decide) v L.length (bs L) hs hown a2 xs.length cap (bs xs) hx (by rw [bs_len, Nat.mul_one]) hr.cells (bs_oneCell xs) (by unfold maxLen; omega) (by omega) hbase ?_
    intro v' w' h1 h2 _
    refine h v' w' ?_ ((Below.refl _ _).grown h2 hbase (fun j hj => (hown.lt j hj).1))
    rw [bs_append, List.length_append]; exact h1
end Go.Proofs.YtohiidgdpecbdaaGreat

namespace Go.Proofs.YtohiidgdpecbdaaGreat.Point
open Go.RowKit Go.WideShapes
/-- A number without its lowest digits to the base of 64. -/
def cut64 : Nat → Nat → Nat
  | 0, n => n
  | j + 1, n => cut64 j n / 64
theorem six_any (n k : Nat) (hn : n ≤ 1114111) (hk : k ≤ 3) (w : World) :
    Calls Tryz.prog 111 #[.int .i64 (n : Int), .int .i64 (k : Int)] w fun e w' => e = .returned (.int .u8 ((128 + cut64 k n % 64 : Nat) : Int)) ∧ w = w' := by
  go_enter Tryz.func111, Tryz.ntmps111
  go_wp2
  go_loop [0, 5] (fun x i => ∃ (j m : Nat), j ≤ k ∧ i = .int .i64 (j : Int) ∧ m ≤ 1114111 ∧ x = .int .i64 (m : Int) ∧ Hid (m = cut64 j n)) (fun _ i => k - (intOf i).toNat)
  case atStart => exact ⟨0, n, by omega, rfl, hn, rfl, Lib.hid rfl⟩
  case round =>
    obtain ⟨j, m, hj, rfl, hm, rfl, hx⟩ := hrel
    by_cases hjk : j < k
    · have q1 : decide (j < k) = true := by simpa using hjk
      have q2 : (0 : Int) ≤ (m : Int) := by omega
      go_wp2
      go_round
      case rel =>
        refine ⟨j + 1, m / 64, by omega, by go_num, by omega, by go_num, Lib.hid ?_⟩
        show m / 64 = cut64 j n / 64
        rw [hx.out]
      case measure => simp [intOf]; omega
    · obtain rfl : j = k := by omega
      have q1 : decide (j < j) = false := by simp
      have q2 : (0 : Int) ≤ (m : Int) := by omega
      go_wp2
      go_ret
      refine ⟨?_, rfl⟩
      rw [← hx.out]
      rfl
/-- A code point's bytes as cells. -/
def encCells (n : Nat) : List Value :=
  if n < 128 then [.int .u8 (n : Int)]
  else if n < 2048 then [.int .u8 ((192 + n / 64 : Nat) : Int), .int .u8 ((128 + n % 64 : Nat) : Int)]
  else if n < 65536 then [.int .u8 ((224 + n / 4096 : Nat) : Int), .int .u8 ((128 + n / 64 % 64 : Nat) : Int), .int .u8 ((128 + n % 64 : Nat) : Int)]
  else [.int .u8 ((240 + n / 262144 : Nat) : Int), .int .u8 ((128 + n / 4096 % 64 : Nat) : Int), .int .u8 ((128 + n / 64 % 64 : Nat) : Int), .int .u8 ((128 + n % 64 : Nat) : Int)]
theorem bs_enc (n : Nat) (h : IsPt (n : Int)) : bs (enc (n : Int)) = encCells n := by
  have h' := h
  obtain ⟨h0, h1, h2⟩ := h
  have hr : bs (enc (n : Int)) = Lib.runeCells (n : Int) := Lib.byteCells_encodeRune (n : Int)
  rw [hr]
  unfold encCells Lib.runeCells
  by_cases c1 : n < 128
  · rw [if_pos c1, Lib.encodeRuneZ_one (by omega) (by omega)]; rfl
  · rw [if_neg c1]
    by_cases c2 : n < 2048
    · rw [if_pos c2, Lib.encodeRuneZ_two (by omega) (by omega)]
      simp
    · rw [if_neg c2]
      by_cases c3 : n < 65536
      · rw [if_pos c3, Lib.encodeRuneZ_three (by omega)]
        simp
      · rw [if_neg c3, Lib.encodeRuneZ_four (by omega) (by omega)]
        simp
theorem cut_two (n : Nat) : cut64 2 n = n / 4096 := by show n / 64 / 64 = _; omega
theorem cut_one (n : Nat) : cut64 1 n = n / 64 := rfl
theorem cut_zero (n : Nat) : cut64 0 n = n := rfl
set_option maxHeartbeats 1000000 in
theorem bytes_any (n : Nat) (h : IsPt (n : Int)) (w : World) :
    Calls Tryz.prog 68 #[.int .i64 (n : Int)] w fun e w' => ∃ v, e = .returned v ∧ Reads w' v (enc (n : Int)) ∧ Below w.heap.size w w' := by
  have hb := bs_enc n h
  have hl := enc_len (n : Int)
  have hn : n ≤ 1114111 := by have := h.2.1; omega
  have fin : ∀ m : Nat, encCells n = (bs (enc (n : Int))) → (enc (n : Int)).length = m → Reads (w.alloc (.cells (encCells n).toArray 5)) (.slice (some ⟨w.heap.size, 0, none⟩) m m) (enc (n : Int)) := by
    rintro m h1 rfl
    rw [h1]
    exact reads_new w _ (by omega) _
  have hel : (enc (n : Int)).length = (encCells n).length := by rw [← hb, bs_len]
  have q0 : (0 : Int) ≤ (n : Int) := by omega
  by_cases c1 : n < 128
  · have e : encCells n = [.int .u8 (n : Int)] := if_pos c1
    have F := Lib.hid (fin 1 hb.symm (by rw [hel, e]; rfl))
    rw [e] at F
    have t1 : decide ((n : Int) < 128) = true := by simp; omega
    have t2 : decide (n < 128) = true := by simpa using c1
    have t3 : (n : Int) < 128 := by omega
    clear hb hl fin hel e h
    go_enter Tryz.func68, Tryz.ntmps68
    go_wp2
    go_ret
    exact ⟨_, rfl, F.out, (Below.refl _ _).alloc (Nat.le_refl _) _⟩
  · have t1 : decide ((n : Int) < 128) = false := by simp; omega
    have t2 : decide (n < 128) = false := by simpa using c1
    by_cases c2 : n < 2048
    · have e : encCells n = [.int .u8 ((192 + n / 64 : Nat) : Int), .int .u8 ((128 + n % 64 : Nat) : Int)] := by unfold encCells; rw [if_neg c1, if_pos c2]
      have F := Lib.hid (fin 2 hb.symm (by rw [hel, e]; rfl))
      rw [e] at F
      have t3 : decide ((n : Int) < 2048) = true := by simp; omega
      have t4 : decide (n < 2048) = true := by simpa using c2
      have t5 : (n : Int) < 2048 := by omega
      clear hb hl fin hel e h
      go_enter Tryz.func68, Tryz.ntmps68
      go_wp2_with fail
      refine (six_any n 0 hn (by omega) _).mono ?_
      rintro e w' ⟨rfl, rfl⟩
      go_wp2
      go_ret
      exact ⟨_, rfl, by simpa [cut_zero] using F.out, (Below.refl _ _).alloc (Nat.le_refl _) _⟩
    · have t3 : decide ((n : Int) < 2048) = false := by simp; omega
      have t4 : decide (n < 2048) = false := by simpa using c2
      by_cases c3 : n < 65536
      · have e : encCells n = [.int .u8 ((224 + n / 4096 : Nat) : Int), .int .u8 ((128 + n / 64 % 64 : Nat) : Int), .int .u8 ((128 + n % 64 : Nat) : Int)] := by unfold encCells; rw [if_neg c1, if_neg c2, if_pos c3]
        have F := Lib.hid (fin 3 hb.symm (by rw [hel, e]; rfl))
        rw [e] at F
        have t5 : decide ((n : Int) < 65536) = true := by simp; omega
        have t6 : decide (n < 65536) = true := by simpa using c3
        have t7 : (n : Int) < 65536 := by omega
        clear hb hl fin hel e h
        go_enter Tryz.func68, Tryz.ntmps68
        go_wp2_with fail
        refine (six_any n 1 hn (by omega) _).mono ?_
        rintro e w' ⟨rfl, rfl⟩
        go_wp2_with fail
        refine (six_any n 0 hn (by omega) _).mono ?_
        rintro e w' ⟨rfl, rfl⟩
        go_wp2
        go_ret
        exact ⟨_, rfl, by simpa [cut_one, cut_zero] using F.out, (Below.refl _ _).alloc (Nat.le_refl _) _⟩
      · have e : encCells n = [.int .u8 ((240 + n / 262144 : Nat) : Int), .int .u8 ((128 + n / 4096 % 64 : Nat) : Int), .int .u8 ((128 + n / 64 % 64 : Nat) : Int), .int .u8 ((128 + n % 64 : Nat) : Int)] := by unfold encCells; rw [if_neg c1, if_neg c2, if_neg c3]
        have F := Lib.hid (fin 4 hb.symm (by rw [hel, e]; rfl))
        rw [e] at F
        have t5 : decide ((n : Int) < 65536) = false := by simp; omega
        have t6 : decide (n < 65536) = false := by simpa using c3
        have t7 : (n : Int) ≤ 1114111 := by omega
        clear hb hl fin hel e h
        go_enter Tryz.func68, Tryz.ntmps68
        go_wp2_with fail
        refine (six_any n 2 hn (by omega) _).mono ?_
        rintro e w' ⟨rfl, rfl⟩
        go_wp2_with fail
        refine (six_any n 1 hn (by omega) _).mono ?_
        rintro e w' ⟨rfl, rfl⟩
        go_wp2_with fail
        refine (six_any n 0 hn (by omega) _).mono ?_
        rintro e w' ⟨rfl, rfl⟩
        go_wp2
        go_ret
        exact ⟨_, rfl, by simpa [cut_one, cut_two, cut_zero] using F.out, (Below.refl _ _).alloc (Nat.le_refl _) _⟩
end Go.Proofs.YtohiidgdpecbdaaGreat.Point

namespace Go.Proofs.YtohiidgdpecbdaaGreat.Views
open Go.RowKit Go.WideShapes Stamp Go.Proofs.YtohiidgdpecbdaaGreat.Place Ops Codes Bags Marks Homes Covers
attribute [local go_sem ↓] Go.wp_at_zero Go.wp_at_succ
attribute [local go_sem] yielded_undef
set_option maxRecDepth 100000 in
set_option maxHeartbeats 8000000 in
theorem refWord_any {v : Value} {c : List Opn} {w : World} (hv : ElL w v c) (hp : ∀ o ∈ c, Point.IsPt o.p) (hl : c.length ≤ 1000000) :
    Calls Tryz.prog 34 #[v] w fun e w' => e = .returned (.string (str (wordM c))) ∧ Below w.heap.size w w' := by
  obtain ⟨ao, cap, rfl⟩ := hv.shape
  obtain ⟨n, hn⟩ : ∃ n, n = c.length := ⟨_, rfl⟩
  have hnm : n ≤ 1000000 := by omega
  have HV : Hid (∀ W : World, Below w.heap.size w W → ElL W (.slice ao c.length cap) c) := fun W h => hv.keeps h
  have HN := Lib.hid hn
  have HP := Lib.hid hp
  obtain ⟨R, hR⟩ : ∃ R, wordM c = R := ⟨_, rfl⟩
  have HR := Lib.hid hR
  rw [← hn, hR]
  have B0 : Hid (Below w.heap.size w w) := Below.refl _ _
  have M0 : Hid (0 = (wordM (c.take 0)).length) := rfl
  have O0 : Hid (w.ownsRow w.heap.size 5 1 (.slice none 0 0) 0 (bs (wordM (c.take 0)))) := World.ownsRow_nil _ _ _ _
  clear hv hn hl hp hR
  go_enter Tryz.func34, Tryz.ntmps34
  go_wp2
  go_loopw [3, 4] (fun u i wr => ∃ j m : Nat, j ≤ n ∧ i = .int .i64 (j : Int) ∧ (∃ ao cap, u = .slice ao m cap) ∧ Hid (m = (wordM (c.take j)).length) ∧ Hid (wr.ownsRow w.heap.size 5 1 u m (bs (wordM (c.take j)))) ∧ Hid (Below w.heap.size w wr)) (fun _ i _ => n - (intOf i).toNat)
  case atStart => exact ⟨0, 0, by omega, rfl, ⟨none, 0, rfl⟩, M0, O0, B0⟩
  case round =>
    clear B0 M0 O0
    obtain ⟨j, m, hj, rfl, ⟨uo, uc, rfl⟩, hml, hown, hbel⟩ := hrel
    have hsz : w.heap.size ≤ wr.heap.size := hbel.out.size
    by_cases hjn : j < n
    rotate_left
    · have q3 : decide (j < n) = false := by simpa using hjn
      have hkk : c.take j = c := List.take_of_length_le (by have := HN.out; omega)
      have q2 : (convert 76 9 (.slice uo m uc)).run Tryz.prog wr = .ok (.string (str R)) wr := run_string (by
        have h := hown.out
        have e := hml.out
        rw [hkk, HR.out] at h e
        rw [e] at h ⊢
        exact Reads.own h)
      clear hkk hown hml
      go_wp2
      go_ret
      exact ⟨rfl, hbel.out⟩
    have q3 : decide (j < n) = true := by simpa using hjn
    have q4 : (0 : Int) ≤ (j : Int) := by omega
    have q5 : (j : Int) < (n : Int) := by omega
    have hjl : j < c.length := by rw [← HN.out]; exact hjn
    obtain ⟨bb, oo, y, e, hbb, hru, h0, h1, h2, h3⟩ := el_at (HV.out wr hbel.out) j hjl
    cases e
    have hpt := HP.out _ (List.getElem_mem hjl)
    have HWS := Lib.hid (wordM_snoc hjl)
    have hwl := wordM_len (c.take j)
    rw [← hml.out, List.length_take] at hwl
    have hfl : m ≤ 4000000 := by omega
    obtain ⟨p, hp⟩ : ∃ p, (c[j]'hjl).p = p := ⟨_, rfl⟩
    rw [hp] at h3 hpt HWS
    obtain ⟨z, rfl⟩ := Int.eq_ofNat_of_zero_le hpt.1
    clear hru h0 h1 h2 hp hwl hbb
    go_wp2_with fail
    refine (Point.bytes_any z hpt _).mono ?_
    rintro e w3 ⟨u, rfl, g1, g2⟩
    have G1 := Lib.hid g1
    have G2 : Hid (Below w.heap.size w w3) := hbel.out.trans (g2.mono hsz)
    have G3 : Hid (w3.ownsRow w.heap.size 5 1 (.slice uo m uc) (wordM (c.take j)).length (bs (wordM (c.take j)))) := by
      show w3.ownsRow _ _ _ _ _ _
      have := own_stays hown.out g2
      rw [← hml.out]; exact this
    have h4 := (Point.enc_len (z : Int)).2
    have hs3 : w.heap.size ≤ w3.heap.size := G2.out.size
    clear g1 g2 hown h3
    go_wp2_with (at_builtin; refine wpList_append_bytes rfl (.tmp 11) (.tmp 17) rfl w.heap.size _ (wordM (c.take j)) rfl G3.out _ (Point.enc (z : Int)) rfl G1.out ?k1 ?k2 ?_)
    case k1 => rw [← hml.out]; omega
    case k2 => exact hs3
    rintro v4 w4 o4 b4
    rw [← HWS.out] at o4
    obtain ⟨ao', cap', rfl⟩ := own_shape o4
    obtain ⟨m', hm'⟩ : ∃ m', m' = (wordM (c.take j)).length + (Point.enc (z : Int)).length := ⟨_, rfl⟩
    rw [← hm'] at o4 ⊢
    have O4 := Lib.hid o4
    have HM' : Hid (m' = (wordM (c.take (j + 1))).length) := by unfold Hid; rw [HWS.out, List.length_append]; exact hm'
    have B4 : Hid (Below w.heap.size w w4) := G2.out.trans b4
    clear o4 b4 hm' G1 G2 G3 HWS hml hbel
    go_wp2
    go_roundw
    case rel => exact ⟨j + 1, m', by omega, by go_num, ⟨ao', cap', rfl⟩, HM', O4, B4⟩
    case measure => simp [intOf]; omega
set_option maxRecDepth 100000 in
set_option maxHeartbeats 8000000 in
theorem refText15_any {v : Value} {l : List Opn} (s : Id) {w : World} (hv : OpL w v l) : Calls Tryz.prog 10 #[v, .agg #[.int .u32 (s.t : Int), .int .u8 (s.r : Int)]] w fun e w' => e = .returned (.tuple #[.string (str (textL l s)), .int .i64 (spanE l s)]) ∧ Below w.heap.size w w' := by
  obtain ⟨wl, hwl⟩ : ∃ x, x = w.alloc (.cells #[.int .u32 (s.t : Int), .int .u8 (s.r : Int)] 25) := ⟨_, rfl⟩
  have B0 : Hid (Below w.heap.size w wl) := by rw [hwl]; exact (Below.refl _ _).alloc (Nat.le_refl _) _
  have Y0 : Hid (wl.heap[w.heap.size]? = some (.cells #[.int .u32 (s.t : Int), .int .u8 (s.r : Int)] 25)) := by rw [hwl]; exact blk_new rfl
  have HW := Lib.hid hwl
  have EL : Hid (Calls Tryz.prog 8 #[v, .agg #[.int .u32 (s.t : Int), .int .u8 (s.r : Int)]] wl (DoneE (elmL l s) (spanE l s) wl)) := refElements_any s (hv.keeps B0.out)
  have WD : Hid (∀ (W : World) (y : Value), ElL W y (elmL l s) → Calls Tryz.prog 34 #[y] W fun e w' => e = .returned (.string (str (textL l s))) ∧ Below W.heap.size W w') := fun W y h => refWord_any h (fun o ho => ins_pt (mem_elm_l ho).2.2.2.2.1 (mem_elm_l ho).2.2.2.2.2) (by have := (elm_fits l s).1; omega)
  have HT : Hid (spanE l s ≠ 0 → textL l s = []) := fun h => by unfold textL; rw [elm_no h]; rfl
  unfold DoneE at EL
  obtain ⟨L, hL⟩ : ∃ L, elmL l s = L := ⟨_, rfl⟩
  obtain ⟨T, hT⟩ : ∃ T, textL l s = T := ⟨_, rfl⟩
  obtain ⟨x, hx⟩ : ∃ x, spanE l s = x := ⟨_, rfl⟩
  rw [hL, hx] at EL
  rw [hL, hT] at WD
  rw [hx, hT] at HT ⊢
  clear hv hwl hL hT hx
  obtain ⟨ts, rs, hts, hrs⟩ := s
  simp only at Y0 HW EL ⊢
  by_cases h0 : x = 0
  rotate_left
  · have q0 : (x == 0) = false := by simpa using h0
    have q1 : decide (x = 0) = false := decide_eq_false h0
    have e0 : (str T : ByteArray) = { data := #[] } := by rw [HT.out h0]; rfl
    rw [e0]
    clear e0 HT
    have d0 := cell_of_row _ _ 0 _ _ _ Y0.out
    have d1 := cell_of_row _ _ 1 _ _ _ Y0.out
    go_enter Tryz.func10, Tryz.ntmps10
    go_wp2_with fail
    rw [← HW.out]
    refine EL.out.mono ?_
    rintro e w1 ⟨v1, rfl, o1, b1⟩
    have O1 := Lib.hid o1
    have B1 := Lib.hid (bt B0.out b1)
    clear b1 o1 Y0 B0 HW EL d0 d1
    clear O1 WD
    go_wp2
    exact bodyPost_ret (v := .tuple #[.string { data := #[] }, .int .i64 x]) (by simp [results, Tryz.results10, go_sem]) rfl ⟨rfl, B1.out⟩
  subst h0
  clear HT
  have d0 := cell_of_row _ _ 0 _ _ _ Y0.out
  have d1 := cell_of_row _ _ 1 _ _ _ Y0.out
  go_enter Tryz.func10, Tryz.ntmps10
  go_wp2_with fail
  rw [← HW.out]
  refine EL.out.mono ?_
  rintro e w1 ⟨v1, rfl, o1, b1⟩
  have O1 := Lib.hid o1
  have B1 := Lib.hid (bt B0.out b1)
  clear b1 o1 Y0 B0 HW EL d0 d1
  go_wp2_with fail
  refine (WD.out _ _ O1.out).mono ?_
  rintro e w2 ⟨rfl, b2⟩
  have B2 := Lib.hid (bt B1.out b2)
  clear b2 O1 WD B1
  go_wp2
  exact bodyPost_ret (v := .tuple #[.string (str T), .int .i64 0]) (by simp [results, Tryz.results10, go_sem]) rfl ⟨rfl, B2.out⟩
end Go.Proofs.YtohiidgdpecbdaaGreat.Views

namespace Go.Proofs.YtohiidgdpecbdaaGreat.Views
open Go.RowKit Go.WideShapes Stamp Go.Proofs.YtohiidgdpecbdaaGreat.Place Ops Codes Bags Marks Homes Covers
attribute [local go_sem ↓] Go.wp_at_zero Go.wp_at_succ
attribute [local go_sem] yielded_undef
set_option maxRecDepth 100000 in
set_option maxHeartbeats 8000000 in
theorem vOffset_any {v u : Value} {l : List Opn} {p : List Run} (s : Id) {w : World} (hv : OpL w v l) (hu : Runs w u p) : Calls Tryz.prog 11 #[v, .agg #[.int .u32 (s.t : Int), .int .u8 (s.r : Int)], u] w fun e w' => e = .returned (.tuple #[.int .i64 ((offN l s p : Nat) : Int), .int .i64 (offE l s p)]) ∧ Below w.heap.size w w' := by
  obtain ⟨wl, hwl⟩ : ∃ x, x = w.alloc (.cells #[.int .u32 (s.t : Int), .int .u8 (s.r : Int)] 25) := ⟨_, rfl⟩
  have B0 : Hid (Below w.heap.size w wl) := by rw [hwl]; exact (Below.refl _ _).alloc (Nat.le_refl _) _
  have Y0 : Hid (wl.heap[w.heap.size]? = some (.cells #[.int .u32 (s.t : Int), .int .u8 (s.r : Int)] 25)) := by rw [hwl]; exact blk_new rfl
  have HW := Lib.hid hwl
  have EL : Hid (Calls Tryz.prog 7 #[v, .agg #[.int .u32 (s.t : Int), .int .u8 (s.r : Int)]] wl (DoneOE (elmL l s) (spanE l s) wl)) := vElements_any s (hv.keeps B0.out)
  have CK : Hid (∀ W : World, Below w.heap.size w W → Calls Tryz.prog 35 #[u] W fun e w' => e = .returned (.int .i64 (Go.Proofs.YtohiidgdpecbdaaGreat.Place.chk p)) ∧ Below W.heap.size W w') := fun W h => Go.Proofs.YtohiidgdpecbdaaGreat.Place.check_any (hu.keeps h)
  have BN : Hid (anyB p = true → ∀ (W : World) (y : Value), OwnE W w.heap.size y (elmL l s) → Below w.heap.size w W → Calls Tryz.prog 36 #[y, u, .func (.func 37) #[] #[]] W fun e w' => (∃ q : Bool, e = .returned (.tuple #[.int .i64 (befM (elmL l s) p : Int), .bool q])) ∧ Below W.heap.size W w') := fun hp W y h h2 => vBin_any h.el (hu.keeps h2) (by have := (elm_fits l s).1; omega) (elm_fits l s).2 (elm_sorted l s) hp
  unfold DoneOE at EL
  obtain ⟨L, hL⟩ : ∃ L, elmL l s = L := ⟨_, rfl⟩
  have eN : offN l s p = if spanE l s = 0 ∧ anyB p = true then befM L p else 0 := by unfold offN; rw [hL]
  have eE : offE l s p = if spanE l s = 0 then (if anyB p = true then 0 else 8) else spanE l s := rfl
  rw [hL] at EL BN
  rw [eN, eE]
  obtain ⟨x, hx⟩ : ∃ x, spanE l s = x := ⟨_, rfl⟩
  rw [hx] at EL ⊢
  obtain ⟨uo, uc, rfl⟩ := hu.shape
  have hum := hu.max
  clear hv hu hwl hL eN eE hx
  obtain ⟨ts, rs, hts, hrs⟩ := s
  simp only at Y0 HW EL ⊢
  by_cases h0 : x = 0
  rotate_left
  · rw [if_neg (fun h => h0 h.1), if_neg h0]
    have q0 : (x != 0) = true := by simpa using h0
    have q1 : decide (x = 0) = false := decide_eq_false h0
    generalize p.length = np at *
    have d0 := cell_of_row _ _ 0 _ _ _ Y0.out
    have d1 := cell_of_row _ _ 1 _ _ _ Y0.out
    clear CK BN
    go_enter Tryz.func11, Tryz.ntmps11
    go_wp2_with fail
    rw [← HW.out]
    refine EL.out.mono ?_
    rintro e w1 ⟨v1, rfl, o1, b1⟩
    have B1 := Lib.hid (bt B0.out b1)
    clear b1 o1 Y0 B0 HW EL d0 d1
    go_wp2
    exact bodyPost_ret (v := .tuple #[.int .i64 0, .int .i64 x]) (by simp [results, Tryz.results11, go_sem]) rfl ⟨rfl, B1.out⟩
  subst h0
  have HPA : Hid (anyB p = (decide (p.length = 0) || mayB p)) := rfl
  by_cases hp : anyB p = true
  rotate_left
  · have hp' : anyB p = false := by simpa using hp
    rw [if_neg (fun h => hp h.2), if_pos rfl, if_neg hp]
    have hA := HPA.out
    rw [hp'] at hA
    have hn0 : ¬ p.length = 0 := by
      intro h
      rw [h] at hA
      simp at hA
    have hmb : mayB p = false := by
      rw [decide_eq_false hn0, Bool.false_or] at hA
      exact hA.symm
    have hck : Go.Proofs.YtohiidgdpecbdaaGreat.Place.chk p = 8 := by unfold Go.Proofs.YtohiidgdpecbdaaGreat.Place.chk; rw [hmb]; rfl
    rw [hck] at CK
    obtain ⟨np, hnp⟩ : ∃ np, p.length = np := ⟨_, rfl⟩
    rw [hnp] at hn0 hum CK ⊢
    have t1 : decide ((0 : Int) < (np : Int)) = true := decide_eq_true (by omega)
    have t2 : decide (0 < np) = true := decide_eq_true (by omega)
    have d0 := cell_of_row _ _ 0 _ _ _ Y0.out
    have d1 := cell_of_row _ _ 1 _ _ _ Y0.out
    clear BN HPA hp hp' hA hmb hck hnp
    go_enter Tryz.func11, Tryz.ntmps11
    go_wp2_with fail
    rw [← HW.out]
    refine EL.out.mono ?_
    rintro e w1 ⟨v1, rfl, o1, b1⟩
    have B1 := Lib.hid (bt B0.out b1)
    clear b1 o1 Y0 B0 HW EL d0 d1
    go_wp2_with fail
    refine (CK.out _ B1.out).mono ?_
    rintro e w2 ⟨rfl, b2⟩
    have B2 := Lib.hid (bt B1.out b2)
    clear b2 CK B1 t1 t2
    go_wp2
    exact bodyPost_ret (v := .tuple #[.int .i64 0, .int .i64 8]) (by simp [results, Tryz.results11, go_sem]) rfl ⟨rfl, B2.out⟩
  rw [if_pos ⟨rfl, hp⟩, if_pos rfl, if_pos hp]
  have BN2 := Lib.hid (BN.out hp)
  have hk0 : ¬ p.length = 0 → Go.Proofs.YtohiidgdpecbdaaGreat.Place.chk p = 0 := fun h => by
    have hA := HPA.out
    rw [hp, decide_eq_false h, Bool.false_or] at hA
    unfold Go.Proofs.YtohiidgdpecbdaaGreat.Place.chk
    rw [← hA]
    rfl
  obtain ⟨c, hc⟩ : ∃ c, Go.Proofs.YtohiidgdpecbdaaGreat.Place.chk p = c := ⟨_, rfl⟩
  rw [hc] at CK hk0
  obtain ⟨K, hK⟩ : ∃ K, befM L p = K := ⟨_, rfl⟩
  rw [hK] at BN2 ⊢
  obtain ⟨np, hnp⟩ : ∃ np, p.length = np := ⟨_, rfl⟩
  rw [hnp] at hum CK BN2 hk0 ⊢
  clear BN HPA hp hc hK hnp
  have d0 := cell_of_row _ _ 0 _ _ _ Y0.out
  have d1 := cell_of_row _ _ 1 _ _ _ Y0.out
  by_cases hz : np = 0
  · subst hz
    clear CK hk0
    go_enter Tryz.func11, Tryz.ntmps11
    go_wp2_with fail
    rw [← HW.out]
    refine EL.out.mono ?_
    rintro e w1 ⟨v1, rfl, o1, b1⟩
    have B1 := Lib.hid (bt B0.out b1)
    have O1 := Lib.hid (o1.base (b' := w.heap.size) B0.out.size)
    clear b1 o1 Y0 B0 HW EL d0 d1
    go_wp2_with fail
    refine (BN2.out _ _ O1.out B1.out).mono ?_
    rintro e w2 ⟨⟨q, rfl⟩, b2⟩
    have B2 := Lib.hid (bt B1.out b2)
    clear b2 B1 O1 BN2
    go_wp2
    exact bodyPost_ret (v := .tuple #[.int .i64 (K : Int), .int .i64 0]) (by simp [results, Tryz.results11, go_sem]) rfl ⟨rfl, B2.out⟩
  · obtain rfl := hk0 hz
    have t1 : decide ((0 : Int) < (np : Int)) = true := decide_eq_true (by omega)
    have t2 : decide (0 < np) = true := decide_eq_true (by omega)
    clear hk0
    go_enter Tryz.func11, Tryz.ntmps11
    go_wp2_with fail
    rw [← HW.out]
    refine EL.out.mono ?_
    rintro e w1 ⟨v1, rfl, o1, b1⟩
    have B1 := Lib.hid (bt B0.out b1)
    have O1 := Lib.hid (o1.base (b' := w.heap.size) B0.out.size)
    clear b1 o1 Y0 B0 HW EL d0 d1
    go_wp2_with fail
    refine (CK.out _ B1.out).mono ?_
    rintro e w2 ⟨rfl, b2⟩
    have B2 := Lib.hid (bt B1.out b2)
    have O2 := Lib.hid (O1.out.keeps b2)
    clear b2 B1 O1 CK t1 t2
    go_wp2_with fail
    refine (BN2.out _ _ O2.out B2.out).mono ?_
    rintro e w3 ⟨⟨q, rfl⟩, b3⟩
    have B3 := Lib.hid (bt B2.out b3)
    clear b3 B2 O2 BN2
    go_wp2
    exact bodyPost_ret (v := .tuple #[.int .i64 (K : Int), .int .i64 0]) (by simp [results, Tryz.results11, go_sem]) rfl ⟨rfl, B3.out⟩
theorem holdE_at {w : World} {base : Nat} : ∀ {cs : List Value} {l : List Opn}, HoldE w base cs l → ∀ (k : Nat) (h : k < l.length), ∃ y, cs[k * 4 + 2]? = some y ∧ w.ownsRow base 52 3 y (l[k]'h).pl.length (runs (l[k]'h).pl)
  | _, [], _, k, h => by simp at h
  | _, x :: l, ⟨v, d, h1, h2, h3⟩, 0, _ => ⟨v, by rw [h1]; rfl, h2⟩
  | _, x :: l, ⟨v, d, h1, h2, h3⟩, k + 1, h => by
    obtain ⟨y, e1, e2⟩ := holdE_at h3 k (by simpa using h)
    refine ⟨y, ?_, e2⟩
    rw [h1, show (k + 1) * 4 + 2 = k * 4 + 2 + 4 by omega]
    simpa using e1
theorem ownE_place {w : World} {base n cap bb oo : Nat} {v u : Value} {l : List Opn} (hv : OwnE w base v l) (k : Nat) (h : k < l.length) (e : v = .slice (some ⟨bb, oo, none⟩) n cap) (hc : w.cell? ⟨bb, oo + k * 4 + 2, none⟩ = some u) : w.ownsRow base 52 3 u (l[k]'h).pl.length (runs (l[k]'h).pl) := by
  obtain ⟨cs, h1, h2⟩ := hv
  obtain ⟨y, e1, e2⟩ := holdE_at h2 k h
  rcases h1.2 with ⟨_, h0⟩ | ⟨g, c2, cur, rfl, _⟩
  · omega
  · injection e with e _ _
    injection e with e
    injection e with e3 e4 _
    subst e3 e4
    rw [Nat.zero_add, h1.cellAt (k * 4 + 2) (by omega), e1] at hc
    injection hc with hc
    subst hc
    exact e2
theorem own_put4 {X : World} {g base n : Nat} {u : Value} {rs : List Value} {cs : Array Value} (d0 d1 d2 d3 : Value) (h : X.ownsRow base 52 3 u n rs) (hg : X.heap[g]? = some (.cells cs 44)) : (put4 X g d0 d1 d2 d3).ownsRow base 52 3 u n rs := by
  refine ⟨h.1, ?_⟩
  rcases h.2 with h | ⟨b, cap, c, e1, e2, e3, e4⟩
  · exact .inl h
  · refine .inr ⟨b, cap, c, e1, e2, put4_other d0 d1 d2 d3 ?_ e3, e4⟩
    rintro rfl
    rw [hg] at e3
    injection e3 with e3
    injection e3 with _ e3 _
    exact absurd e3 (by decide)
set_option maxRecDepth 100000 in
set_option maxHeartbeats 8000000 in
theorem vAt_any {v : Value} {l : List Opn} (s : Id) (k : Int) {w : World} (hv : OpL w v l) : Calls Tryz.prog 13 #[v, .agg #[.int .u32 (s.t : Int), .int .u8 (s.r : Int)], .int .i64 k] w (OneE (atL l s k) (atE l s k) w) := by
  obtain ⟨wb, hwb⟩ : ∃ x, x = w.alloc (.cells #[.int .u32 (s.t : Int), .int .u8 (s.r : Int)] 25) := ⟨_, rfl⟩
  obtain ⟨wl, hwl⟩ : ∃ x, x = wb.alloc (.cells #[.int .u32 0, .int .u8 0, .slice none 0 0, .int .i64 0] 44) := ⟨_, rfl⟩
  have hsz : wb.heap.size = w.heap.size + 1 := by rw [hwb]; exact Array.size_push _
  have X0 : Hid (wl.heap[w.heap.size + 1]? = some (.cells #[.int .u32 0, .int .u8 0, .slice none 0 0, .int .i64 0] 44)) := by rw [hwl, ← hsz]; exact blk_new rfl
  have Bb : Below w.heap.size w wb := by rw [hwb]; exact (Below.refl _ _).alloc (Nat.le_refl _) _
  have Y0 : Hid (wl.heap[w.heap.size]? = some (.cells #[.int .u32 (s.t : Int), .int .u8 (s.r : Int)] 25)) := by
    have h1 : wb.heap[w.heap.size]? = some (.cells #[.int .u32 (s.t : Int), .int .u8 (s.r : Int)] 25) := by rw [hwb]; exact blk_new rfl
    rw [hwl]
    exact blk_below ((Below.refl _ _).alloc (Nat.le_refl _) _) h1
  have B0 : Hid (Below w.heap.size w wl) := by rw [hwl]; exact Bb.alloc (by omega) _
  have HW : Hid (wl = (w.alloc (.cells #[.int .u32 (s.t : Int), .int .u8 (s.r : Int)] 25)).alloc (.cells #[.int .u32 0, .int .u8 0, .slice none 0 0, .int .i64 0] 44)) := by rw [hwl, hwb]; rfl
  have EL : Hid (Calls Tryz.prog 7 #[v, .agg #[.int .u32 (s.t : Int), .int .u8 (s.r : Int)]] wl (DoneOE (elmL l s) (spanE l s) wl)) := vElements_any s (hv.keeps B0.out)
  have hlen := (elm_fits l s).1
  unfold DoneOE at EL
  have eE : atE l s k = if spanE l s = 0 then (if 0 ≤ k ∧ k < ((elmL l s).length : Int) then 0 else 2) else spanE l s := rfl
  have eL : atL l s k = if spanE l s = 0 ∧ 0 ≤ k ∧ k < ((elmL l s).length : Int) then (elmL l s).getD k.toNat Codes.zop else Codes.zop := rfl
  rw [eE, eL]
  obtain ⟨L, hL⟩ : ∃ L, elmL l s = L := ⟨_, rfl⟩
  rw [hL] at EL hlen ⊢
  obtain ⟨x, hx⟩ : ∃ x, spanE l s = x := ⟨_, rfl⟩
  rw [hx] at EL ⊢
  clear hv hwl hwb hsz Bb hL hx eE eL
  obtain ⟨ts, rs, hts, hrs⟩ := s
  simp only at Y0 HW EL ⊢
  by_cases h0 : x = 0
  rotate_left
  · rw [if_neg (fun h => h0 h.1), if_neg h0]
    have q0 : (x != 0) = true := by simpa using h0
    have q1 : decide (x = 0) = false := decide_eq_false h0
    have d0 := cell_of_row _ _ 0 _ _ _ Y0.out
    have d1 := cell_of_row _ _ 1 _ _ _ Y0.out
    go_enter Tryz.func13, Tryz.ntmps13
    go_wp2_with fail
    rw [← HW.out]
    refine EL.out.mono ?_
    rintro e w1 ⟨v1, rfl, o1, b1⟩
    obtain ⟨ea, ec, rfl⟩ := o1.el.shape
    have O1 : Hid (OwnE w1 w.heap.size (.slice ea _ ec) L) := o1.base B0.out.size
    have B1 := Lib.hid (bt B0.out b1)
    have X1 := Lib.hid (blk_below b1 X0.out)
    clear b1 o1 Y0 X0 B0 HW EL d0 d1
    obtain ⟨c0, c1, c2, c3⟩ := cells4 X1.out
    have f0 : ∀ o, w1.frozen? ⟨w.heap.size + 1, o, none⟩ = false := fun o => free4 X1.out o
    have HF := Lib.hid (put4_same (.int .u32 0) (.int .u8 0) (.slice none 0 0) (.int .i64 0) X1.out)
    have BF := Lib.hid (put4_below (.int .u32 0) (.int .u8 0) (.slice none 0 0) (.int .i64 0) (Nat.le_add_right w.heap.size 1) B1.out)
    obtain ⟨WF, hWF⟩ : ∃ WF, put4 w1 (w.heap.size + 1) (.int .u32 0) (.int .u8 0) (.slice none 0 0) (.int .i64 0) = WF := ⟨_, rfl⟩
    rw [hWF] at HF BF
    unfold put4 at hWF
    have HX := Lib.hid hWF
    clear hWF X1 B1 O1
    go_wp2
    rw [HX.out]
    obtain ⟨e0, e1, e2, e3⟩ := cells4 HF.out
    exact bodyPost_ret (v := .tuple #[.agg #[.int .u32 0, .int .u8 0, .slice none 0 0, .int .i64 0], .int .i64 x]) (by simp [results, Tryz.results13, go_sem, e0, e1, e2, e3]) rfl ⟨_, rfl, World.ownsRow_nil _ _ _ _, BF.out⟩
  subst h0
  obtain ⟨n, hn⟩ : ∃ n, L.length = n := ⟨_, rfl⟩
  have HN := Lib.hid hn
  by_cases hk : 0 ≤ k ∧ k < (L.length : Int)
  rotate_left
  · rw [if_neg (fun h => hk h.2), if_pos rfl, if_neg hk]
    rw [hn] at hk hlen
    by_cases hneg : k < 0
    · have q2 : decide (k < 0) = true := decide_eq_true hneg
      have d0 := cell_of_row _ _ 0 _ _ _ Y0.out
      have d1 := cell_of_row _ _ 1 _ _ _ Y0.out
      go_enter Tryz.func13, Tryz.ntmps13
      go_wp2_with fail
      rw [← HW.out]
      refine EL.out.mono ?_
      rintro e w1 ⟨v1, rfl, o1, b1⟩
      obtain ⟨ea, ec, rfl⟩ := o1.el.shape
      have O1 : Hid (OwnE w1 w.heap.size (.slice ea _ ec) L) := o1.base B0.out.size
      have B1 := Lib.hid (bt B0.out b1)
      have X1 := Lib.hid (blk_below b1 X0.out)
      clear b1 o1 Y0 X0 B0 HW EL d0 d1
      rw [HN.out]
      obtain ⟨c0, c1, c2, c3⟩ := cells4 X1.out
      have f0 : ∀ o, w1.frozen? ⟨w.heap.size + 1, o, none⟩ = false := fun o => free4 X1.out o
      have HF := Lib.hid (put4_same (.int .u32 0) (.int .u8 0) (.slice none 0 0) (.int .i64 0) X1.out)
      have BF := Lib.hid (put4_below (.int .u32 0) (.int .u8 0) (.slice none 0 0) (.int .i64 0) (Nat.le_add_right w.heap.size 1) B1.out)
      obtain ⟨WF, hWF⟩ : ∃ WF, put4 w1 (w.heap.size + 1) (.int .u32 0) (.int .u8 0) (.slice none 0 0) (.int .i64 0) = WF := ⟨_, rfl⟩
      rw [hWF] at HF BF
      unfold put4 at hWF
      have HX := Lib.hid hWF
      clear hWF X1 B1 O1
      go_wp2
      rw [HX.out]
      obtain ⟨e0, e1, e2, e3⟩ := cells4 HF.out
      exact bodyPost_ret (v := .tuple #[.agg #[.int .u32 0, .int .u8 0, .slice none 0 0, .int .i64 0], .int .i64 2]) (by simp [results, Tryz.results13, go_sem, e0, e1, e2, e3]) rfl ⟨_, rfl, World.ownsRow_nil _ _ _ _, BF.out⟩
    · have q2 : decide (k < 0) = false := decide_eq_false hneg
      have q3 : decide ((n : Int) ≤ k) = true := decide_eq_true (by omega)
      have d0 := cell_of_row _ _ 0 _ _ _ Y0.out
      have d1 := cell_of_row _ _ 1 _ _ _ Y0.out
      go_enter Tryz.func13, Tryz.ntmps13
      go_wp2_with fail
      rw [← HW.out]
      refine EL.out.mono ?_
      rintro e w1 ⟨v1, rfl, o1, b1⟩
      obtain ⟨ea, ec, rfl⟩ := o1.el.shape
      have O1 : Hid (OwnE w1 w.heap.size (.slice ea _ ec) L) := o1.base B0.out.size
      have B1 := Lib.hid (bt B0.out b1)
      have X1 := Lib.hid (blk_below b1 X0.out)
      clear b1 o1 Y0 X0 B0 HW EL d0 d1
      rw [HN.out]
      obtain ⟨c0, c1, c2, c3⟩ := cells4 X1.out
      have f0 : ∀ o, w1.frozen? ⟨w.heap.size + 1, o, none⟩ = false := fun o => free4 X1.out o
      have HF := Lib.hid (put4_same (.int .u32 0) (.int .u8 0) (.slice none 0 0) (.int .i64 0) X1.out)
      have BF := Lib.hid (put4_below (.int .u32 0) (.int .u8 0) (.slice none 0 0) (.int .i64 0) (Nat.le_add_right w.heap.size 1) B1.out)
      obtain ⟨WF, hWF⟩ : ∃ WF, put4 w1 (w.heap.size + 1) (.int .u32 0) (.int .u8 0) (.slice none 0 0) (.int .i64 0) = WF := ⟨_, rfl⟩
      rw [hWF] at HF BF
      unfold put4 at hWF
      have HX := Lib.hid hWF
      clear hWF X1 B1 O1
      go_wp2
      rw [HX.out]
      obtain ⟨e0, e1, e2, e3⟩ := cells4 HF.out
      exact bodyPost_ret (v := .tuple #[.agg #[.int .u32 0, .int .u8 0, .slice none 0 0, .int .i64 0], .int .i64 2]) (by simp [results, Tryz.results13, go_sem, e0, e1, e2, e3]) rfl ⟨_, rfl, World.ownsRow_nil _ _ _ _, BF.out⟩
  rw [if_pos ⟨rfl, hk⟩, if_pos rfl, if_pos hk]
  obtain ⟨j, rfl⟩ : ∃ j : Nat, k = (j : Int) := ⟨k.toNat, by omega⟩
  rw [Int.toNat_natCast]
  have hjl : j < L.length := by omega
  have hg : L.getD j Codes.zop = L[j]'hjl := by rw [List.getD_eq_getElem?_getD, List.getElem?_eq_getElem hjl]; rfl
  rw [hg]
  obtain ⟨y, hy⟩ : ∃ y, L[j]'hjl = y := ⟨_, rfl⟩
  rw [hn] at hk hlen
  rw [hy]
  have HY := Lib.hid hy
  clear hy
  obtain ⟨yk, t, r, yl, p, hyk, ht, hr, hp⟩ := y
  unfold OneE elv
  simp only
  have q2 : decide ((j : Int) < 0) = false := decide_eq_false (by omega)
  have q3 : decide ((n : Int) ≤ (j : Int)) = false := decide_eq_false (by omega)
  have q3' : decide (n ≤ j) = false := decide_eq_false (by omega)
  have q4 : (0 : Int) ≤ (j : Int) := by omega
  have q5 : (j : Int) < (n : Int) := by omega
  clear hg hn
  have d0 := cell_of_row _ _ 0 _ _ _ Y0.out
  have d1 := cell_of_row _ _ 1 _ _ _ Y0.out
  go_enter Tryz.func13, Tryz.ntmps13
  go_wp2_with fail
  rw [← HW.out]
  refine EL.out.mono ?_
  rintro e w1 ⟨v1, rfl, o1, b1⟩
  obtain ⟨ea, ec, rfl⟩ := o1.el.shape
  have O1 : Hid (OwnE w1 w.heap.size (.slice ea _ ec) L) := o1.base B0.out.size
  have B1 := Lib.hid (bt B0.out b1)
  have X1 := Lib.hid (blk_below b1 X0.out)
  clear b1 o1 Y0 X0 B0 HW EL d0 d1
  obtain ⟨bb, oo, u, e, hbb, hru, h0, h1, h2, h3⟩ := el_at O1.out.el j hjl
  have hrow := ownE_place O1.out j hjl (by rw [e]) h2
  cases e
  rw [HY.out] at hru h0 h1 h3 hrow
  simp only at hru h0 h1 h3 hrow
  obtain ⟨uo, uc, rfl⟩ := hru.shape
  have RU := Lib.hid hrow
  rw [HN.out]
  obtain ⟨ny, hny⟩ : ∃ z, yl.length = z := ⟨_, rfl⟩
  have HNY := Lib.hid hny
  rw [hny] at RU h2
  clear hru hrow hny HY hbb
  obtain ⟨c0, c1, c2, c3⟩ := cells4 X1.out
  have f0 : ∀ o, w1.frozen? ⟨w.heap.size + 1, o, none⟩ = false := fun o => free4 X1.out o
  have HF := Lib.hid (put4_same (.int .u32 (t : Int)) (.int .u8 (r : Int)) (.slice uo ny uc) (.int .i64 p) X1.out)
  have BF := Lib.hid (put4_below (.int .u32 (t : Int)) (.int .u8 (r : Int)) (.slice uo ny uc) (.int .i64 p) (Nat.le_add_right w.heap.size 1) B1.out)
  have RF := Lib.hid (own_put4 (.int .u32 (t : Int)) (.int .u8 (r : Int)) (.slice uo ny uc) (.int .i64 p) RU.out X1.out)
  obtain ⟨WF, hWF⟩ : ∃ WF, put4 w1 (w.heap.size + 1) (.int .u32 (t : Int)) (.int .u8 (r : Int)) (.slice uo ny uc) (.int .i64 p) = WF := ⟨_, rfl⟩
  rw [hWF] at HF BF RF
  unfold put4 at hWF
  have HX := Lib.hid hWF
  clear hWF X1 B1 O1
  go_wp2
  rw [HX.out]
  obtain ⟨e0, e1, e2, e3⟩ := cells4 HF.out
  exact bodyPost_ret (v := .tuple #[.agg #[.int .u32 (t : Int), .int .u8 (r : Int), .slice uo ny uc, .int .i64 p], .int .i64 0]) (by simp [results, Tryz.results13, go_sem, e0, e1, e2, e3]) rfl ⟨_, rfl, by rw [HNY.out]; exact RF.out, BF.out⟩
end Go.Proofs.YtohiidgdpecbdaaGreat.Views
