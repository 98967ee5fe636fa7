/- octavo/view.Text, Offset, At: what each answers. Conditions: the slice's cells are operations. octavo/edit.asked, left and what they hand on: what each answers. Conditions: the slice's cells are operations. 'copy' between slices whose elements have several cells, the target a row known whole; 'append' of a make onto a part without room. Conditions: none. Five cells stored in a row that is known whole; rows of another kind stay; lists of operations in such a row. Conditions: none. octavo/bag.Twin: what it answers. Conditions: the slice's cells are operations, not more than memory holds. Operations laid one by one in a row that was made: what each turn keeps. Conditions: none. octavoref16.Typed: what it answers. Conditions: a place, at most 64 code points. octavo/edit.done[int]: what it answers, of numbers: by what the function that is handed on answers of each. Conditions: none. octavoref -/
import Derived.Test.YtgjbnbojjgbmcaaGreatChecked
import Derived.WalkKit
import Derived.WalkSpells
import Derived.WalkLawsBesides
import Derived.Laws.BytesArg
import Derived.Lib.Hide
import Derived.Deep.LoopGhost
import Derived.Laws.AppendOwnNone
import Derived.Laws.OwnMore
import Derived.WideShapes
import Derived.Maps.AppendAt
import Derived.RegionTactic
import Derived.Deep.RegionHeld3
import Derived.Deep.DrawnRows
import Derived.Deep.QuietTactic
import Derived.BigQuiet
import Derived.IntWalk
import Derived.Deep.DeepCutAuto
import Derived.ScopeJumps
import Derived.Test.YtgjbnbojjgbmcaaGreatProg
import Derived.LoopTactic
import Derived.Laws.EntriesVeiled
import Derived.RowKit
import Derived.Lib.DecodeN
import Derived.Lib.RuneBytes
import Derived.Maps.Own
import Derived.Maps.OwnOps
import Derived.Maps.OwnSet
import Derived.Maps.Views
import Derived.DeepKeys4
import Derived.Shelf.SlSortCmp.InsertionK
import Derived.Calls
import Derived.StepT
import Derived.Below
import Derived.Sort.Grow
import Derived.Deep.Draws
import Derived.Shelf.SlLaysF0
import Derived.Shelf.SlSortCmp.NoneTotal
import Derived.Scope
import Derived.Shelf.Abstract
import Derived.RangeFuncBox
import Derived.RangeFuncLeaves
import Derived.RangeFuncNested
import Derived.RangeFuncBound
import Derived.RangeFuncCalls
import Derived.OwnWalkIn
import Derived.TacticsInMore
import Derived.LoopNIn
import Derived.LoopIn
import Derived.Lib.Tables
import Derived.Laws.Bits64
import Derived.Test.YtgjbnbojjgbmcaaGreatShelf
import Derived.Lib.OthersKept
import Derived.BigCall
import Derived.Laws.CopyOwn
import Derived.Deep.AppendSrc
import Derived.Lib.AppendZeros
import Derived.Laws.MakeOwn
import Derived.Deep.RegionWith
import Derived.Test.YtgjbnbojjgbmcaaGreatPk10
import Derived.Test.YtgjbnbojjgbmcaaGreatPk06
import Derived.Test.YtgjbnbojjgbmcaaGreatPk05
import Derived.Test.YtgjbnbojjgbmcaaGreatPk04
import Derived.Test.YtgjbnbojjgbmcaaGreatPk03
import Derived.Test.YtgjbnbojjgbmcaaGreatPk02
import Derived.Test.YtgjbnbojjgbmcaaGreatPk01
import Derived.Test.YtgjbnbojjgbmcaaGreatPk07
import Derived.Test.YtgjbnbojjgbmcaaGreatPk08
import Derived.Test.YtgjbnbojjgbmcaaGreatPk09

namespace Go.Proofs.YtgjbnbojjgbmcaaGreat.Views
open Go.RowKit Go.WideShapes Stamp Go.Proofs.YtgjbnbojjgbmcaaGreat.Place Ops Codes Bags Marks Homes Covers
attribute [local go_sem ↓] Go.wp_at_zero Go.wp_at_succ
attribute [local go_sem] yielded_undef
theorem holdE_at {w : World} {base : Nat} : ∀ {cs : List Value} {l : List Opn}, HoldE w base cs l → ∀ (k : Nat) (h : k < l.length), ∃ y, cs[k * 4 + 2]? = some y ∧ w.ownsRow base 32 3 y (l[k]'h).pl.length (runs (l[k]'h).pl)
  | _, [], _, k, h => by simp at h
  | _, x :: l, ⟨v, d, h1, h2, h3⟩, 0, _ => ⟨v, by rw [h1]; rfl, h2⟩
  | _, x :: l, ⟨v, d, h1, h2, h3⟩, k + 1, h => by
    obtain ⟨y, e1, e2⟩ := holdE_at h3 k (by simpa using h)
    refine ⟨y, ?_, e2⟩
    rw [h1, show (k + 1) * 4 + 2 = k * 4 + 2 + 4 by omega]
    simpa using e1
theorem ownE_place {w : World} {base n cap bb oo : Nat} {v u : Value} {l : List Opn} (hv : OwnE w base v l) (k : Nat) (h : k < l.length) (e : v = .slice (some ⟨bb, oo, none⟩) n cap) (hc : w.cell? ⟨bb, oo + k * 4 + 2, none⟩ = some u) : w.ownsRow base 32 3 u (l[k]'h).pl.length (runs (l[k]'h).pl) := by
  obtain ⟨cs, h1, h2⟩ := hv
  obtain ⟨y, e1, e2⟩ := holdE_at h2 k h
  rcases h1.2 with ⟨_, h0⟩ | ⟨g, c2, cur, rfl, _⟩
  · omega
  · injection e with e _ _
    injection e with e
    injection e with e3 e4 _
    subst e3 e4
    rw [Nat.zero_add, h1.cellAt (k * 4 + 2) (by omega), e1] at hc
    injection hc with hc
    subst hc
    exact e2
theorem own_put4 {X : World} {g base n : Nat} {u : Value} {rs : List Value} {cs : Array Value} (d0 d1 d2 d3 : Value) (h : X.ownsRow base 32 3 u n rs) (hg : X.heap[g]? = some (.cells cs 91)) : (put4 X g d0 d1 d2 d3).ownsRow base 32 3 u n rs := by
  refine ⟨h.1, ?_⟩
  rcases h.2 with h | ⟨b, cap, c, e1, e2, e3, e4⟩
  · exact .inl h
  · refine .inr ⟨b, cap, c, e1, e2, put4_other d0 d1 d2 d3 ?_ e3, e4⟩
    rintro rfl
    rw [hg] at e3
    injection e3 with e3
    injection e3 with _ e3 _
    exact absurd e3 (by decide)
set_option maxRecDepth 100000 in
set_option maxHeartbeats 8000000 in
theorem vAt_any {v : Value} {l : List Opn} (s : Id) (k : Int) {w : World} (hv : OpL w v l) : Calls Tryz.prog 71 #[v, .agg #[.int .u32 (s.t : Int), .int .u8 (s.r : Int)], .int .i64 k] w (OneE (atL l s k) (atE l s k) w) := by
  obtain ⟨wb, hwb⟩ : ∃ x, x = w.alloc (.cells #[.int .u32 (s.t : Int), .int .u8 (s.r : Int)] 28) := ⟨_, rfl⟩
  obtain ⟨wl, hwl⟩ : ∃ x, x = wb.alloc (.cells #[.int .u32 0, .int .u8 0, .slice none 0 0, .int .i64 0] 91) := ⟨_, rfl⟩
  have hsz : wb.heap.size = w.heap.size + 1 := by rw [hwb]; exact Array.size_push _
  have X0 : Hid (wl.heap[w.heap.size + 1]? = some (.cells #[.int .u32 0, .int .u8 0, .slice none 0 0, .int .i64 0] 91)) := by rw [hwl, ← hsz]; exact blk_new rfl
  have Bb : Below w.heap.size w wb := by rw [hwb]; exact (Below.refl _ _).alloc (Nat.le_refl _) _
  have Y0 : Hid (wl.heap[w.heap.size]? = some (.cells #[.int .u32 (s.t : Int), .int .u8 (s.r : Int)] 28)) := by
    have h1 : wb.heap[w.heap.size]? = some (.cells #[.int .u32 (s.t : Int), .int .u8 (s.r : Int)] 28) := by rw [hwb]; exact blk_new rfl
    rw [hwl]
    exact blk_below ((Below.refl _ _).alloc (Nat.le_refl _) _) h1
  have B0 : Hid (Below w.heap.size w wl) := by rw [hwl]; exact Bb.alloc (by omega) _
  have HW : Hid (wl = (w.alloc (.cells #[.int .u32 (s.t : Int), .int .u8 (s.r : Int)] 28)).alloc (.cells #[.int .u32 0, .int .u8 0, .slice none 0 0, .int .i64 0] 91)) := by rw [hwl, hwb]; rfl
  have EL : Hid (Calls Tryz.prog 23 #[v, .agg #[.int .u32 (s.t : Int), .int .u8 (s.r : Int)]] wl (DoneOE (elmL l s) (spanE l s) wl)) := vElements_any s (hv.keeps B0.out)
  have hlen := (elm_fits l s).1
  unfold DoneOE at EL
  have eE : atE l s k = if spanE l s = 0 then (if 0 ≤ k ∧ k < ((elmL l s).length : Int) then 0 else 2) else spanE l s := rfl
  have eL : atL l s k = if spanE l s = 0 ∧ 0 ≤ k ∧ k < ((elmL l s).length : Int) then (elmL l s).getD k.toNat Codes.zop else Codes.zop := rfl
  rw [eE, eL]
  obtain ⟨L, hL⟩ : ∃ L, elmL l s = L := ⟨_, rfl⟩
  rw [hL] at EL hlen ⊢
  obtain ⟨x, hx⟩ : ∃ x, spanE l s = x := ⟨_, rfl⟩
  rw [hx] at EL ⊢
  clear hv hwl hwb hsz Bb hL hx eE eL
  obtain ⟨ts, rs, hts, hrs⟩ := s
  simp only at Y0 HW EL ⊢
  by_cases h0 : x = 0
  rotate_left
  · rw [if_neg (fun h => h0 h.1), if_neg h0]
    have q0 : (x != 0) = true := by simpa using h0
    have q1 : decide (x = 0) = false := decide_eq_false h0
    have d0 := cell_of_row _ _ 0 _ _ _ Y0.out
    have d1 := cell_of_row _ _ 1 _ _ _ Y0.out
    go_enter Tryz.func71, Tryz.ntmps71
    go_wp2_with fail
    rw [← HW.out]
    refine EL.out.mono ?_
    rintro e w1 ⟨v1, rfl, o1, b1⟩
    obtain ⟨ea, ec, rfl⟩ := o1.el.shape
    have O1 : Hid (OwnE w1 w.heap.size (.slice ea _ ec) L) := o1.base B0.out.size
    have B1 := Lib.hid (bt B0.out b1)
    have X1 := Lib.hid (blk_below b1 X0.out)
    clear b1 o1 Y0 X0 B0 HW EL d0 d1
    obtain ⟨c0, c1, c2, c3⟩ := cells4 X1.out
    have f0 : ∀ o, w1.frozen? ⟨w.heap.size + 1, o, none⟩ = false := fun o => free4 X1.out o
    have HF := Lib.hid (put4_same (.int .u32 0) (.int .u8 0) (.slice none 0 0) (.int .i64 0) X1.out)
    have BF := Lib.hid (put4_below (.int .u32 0) (.int .u8 0) (.slice none 0 0) (.int .i64 0) (Nat.le_add_right w.heap.size 1) B1.out)
    obtain ⟨WF, hWF⟩ : ∃ WF, put4 w1 (w.heap.size + 1) (.int .u32 0) (.int .u8 0) (.slice none 0 0) (.int .i64 0) = WF := ⟨_, rfl⟩
    rw [hWF] at HF BF
    unfold put4 at hWF
    have HX := Lib.hid hWF
    clear hWF X1 B1 O1
    go_wp2
    rw [HX.out]
    obtain ⟨e0, e1, e2, e3⟩ := cells4 HF.out
    exact bodyPost_ret (v := .tuple #[.agg #[.int .u32 0, .int .u8 0, .slice none 0 0, .int .i64 0], .int .i64 x]) (by simp [results, Tryz.results71, go_sem, e0, e1, e2, e3]) rfl ⟨_, rfl, World.ownsRow_nil _ _ _ _, BF.out⟩
  subst h0
  obtain ⟨n, hn⟩ : ∃ n, L.length = n := ⟨_, rfl⟩
  have HN := Lib.hid hn
  by_cases hk : 0 ≤ k ∧ k < (L.length : Int)
  rotate_left
  · rw [if_neg (fun h => hk h.2), if_pos rfl, if_neg hk]
    rw [hn] at hk hlen
    by_cases hneg : k < 0
    · have q2 : decide (k < 0) = true := decide_eq_true hneg
      have d0 := cell_of_row _ _ 0 _ _ _ Y0.out
      have d1 := cell_of_row _ _ 1 _ _ _ Y0.out
      go_enter Tryz.func71, Tryz.ntmps71
      go_wp2_with fail
      rw [← HW.out]
      refine EL.out.mono ?_
      rintro e w1 ⟨v1, rfl, o1, b1⟩
      obtain ⟨ea, ec, rfl⟩ := o1.el.shape
      have O1 : Hid (OwnE w1 w.heap.size (.slice ea _ ec) L) := o1.base B0.out.size
      have B1 := Lib.hid (bt B0.out b1)
      have X1 := Lib.hid (blk_below b1 X0.out)
      clear b1 o1 Y0 X0 B0 HW EL d0 d1
      rw [HN.out]
      obtain ⟨c0, c1, c2, c3⟩ := cells4 X1.out
      have f0 : ∀ o, w1.frozen? ⟨w.heap.size + 1, o, none⟩ = false := fun o => free4 X1.out o
      have HF := Lib.hid (put4_same (.int .u32 0) (.int .u8 0) (.slice none 0 0) (.int .i64 0) X1.out)
      have BF := Lib.hid (put4_below (.int .u32 0) (.int .u8 0) (.slice none 0 0) (.int .i64 0) (Nat.le_add_right w.heap.size 1) B1.out)
      obtain ⟨WF, hWF⟩ : ∃ WF, put4 w1 (w.heap.size + 1) (.int .u32 0) (.int .u8 0) (.slice none 0 0) (.int .i64 0) = WF := ⟨_, rfl⟩
      rw [hWF] at HF BF
      unfold put4 at hWF
      have HX := Lib.hid hWF
      clear hWF X1 B1 O1
      go_wp2
      rw [HX.out]
      obtain ⟨e0, e1, e2, e3⟩ := cells4 HF.out
      exact bodyPost_ret (v := .tuple #[.agg #[.int .u32 0, .int .u8 0, .slice none 0 0, .int .i64 0], .int .i64 2]) (by simp [results, Tryz.results71, go_sem, e0, e1, e2, e3]) rfl ⟨_, rfl, World.ownsRow_nil _ _ _ _, BF.out⟩
    · have q2 : decide (k < 0) = false := decide_eq_false hneg
      have q3 : decide ((n : Int) ≤ k) = true := decide_eq_true (by omega)
      have d0 := cell_of_row _ _ 0 _ _ _ Y0.out
      have d1 := cell_of_row _ _ 1 _ _ _ Y0.out
      go_enter Tryz.func71, Tryz.ntmps71
      go_wp2_with fail
      rw [← HW.out]
      refine EL.out.mono ?_
      rintro e w1 ⟨v1, rfl, o1, b1⟩
      obtain ⟨ea, ec, rfl⟩ := o1.el.shape
      have O1 : Hid (OwnE w1 w.heap.size (.slice ea _ ec) L) := o1.base B0.out.size
      have B1 := Lib.hid (bt B0.out b1)
      have X1 := Lib.hid (blk_below b1 X0.out)
      clear b1 o1 Y0 X0 B0 HW EL d0 d1
      rw [HN.out]
      obtain ⟨c0, c1, c2, c3⟩ := cells4 X1.out
      have f0 : ∀ o, w1.frozen? ⟨w.heap.size + 1, o, none⟩ = false := fun o => free4 X1.out o
      have HF := Lib.hid (put4_same (.int .u32 0) (.int .u8 0) (.slice none 0 0) (.int .i64 0) X1.out)
      have BF := Lib.hid (put4_below (.int .u32 0) (.int .u8 0) (.slice none 0 0) (.int .i64 0) (Nat.le_add_right w.heap.size 1) B1.out)
      obtain ⟨WF, hWF⟩ : ∃ WF, put4 w1 (w.heap.size + 1) (.int .u32 0) (.int .u8 0) (.slice none 0 0) (.int .i64 0) = WF := ⟨_, rfl⟩
      rw [hWF] at HF BF
      unfold put4 at hWF
      have HX := Lib.hid hWF
      clear hWF X1 B1 O1
      go_wp2
      rw [HX.out]
      obtain ⟨e0, e1, e2, e3⟩ := cells4 HF.out
      exact bodyPost_ret (v := .tuple #[.agg #[.int .u32 0, .int .u8 0, .slice none 0 0, .int .i64 0], .int .i64 2]) (by simp [results, Tryz.results71, go_sem, e0, e1, e2, e3]) rfl ⟨_, rfl, World.ownsRow_nil _ _ _ _, BF.out⟩
  rw [if_pos ⟨rfl, hk⟩, if_pos rfl, if_pos hk]
  obtain ⟨j, rfl⟩ : ∃ j : Nat, k = (j : Int) := ⟨k.toNat, by omega⟩
  rw [Int.toNat_natCast]
  have hjl : j < L.length := by omega
  have hg : L.getD j Codes.zop = L[j]'hjl := by rw [List.getD_eq_getElem?_getD, List.getElem?_eq_getElem hjl]; rfl
  rw [hg]
  obtain ⟨y, hy⟩ : ∃ y, L[j]'hjl = y := ⟨_, rfl⟩
  rw [hn] at hk hlen
  rw [hy]
  have HY := Lib.hid hy
  clear hy
  obtain ⟨yk, t, r, yl, p, hyk, ht, hr, hp⟩ := y
  unfold OneE elv
  simp only
  have q2 : decide ((j : Int) < 0) = false := decide_eq_false (by omega)
  have q3 : decide ((n : Int) ≤ (j : Int)) = false := decide_eq_false (by omega)
  have q3' : decide (n ≤ j) = false := decide_eq_false (by omega)
  have q4 : (0 : Int) ≤ (j : Int) := by omega
  have q5 : (j : Int) < (n : Int) := by omega
  clear hg hn
  have d0 := cell_of_row _ _ 0 _ _ _ Y0.out
  have d1 := cell_of_row _ _ 1 _ _ _ Y0.out
  go_enter Tryz.func71, Tryz.ntmps71
  go_wp2_with fail
  rw [← HW.out]
  refine EL.out.mono ?_
  rintro e w1 ⟨v1, rfl, o1, b1⟩
  obtain ⟨ea, ec, rfl⟩ := o1.el.shape
  have O1 : Hid (OwnE w1 w.heap.size (.slice ea _ ec) L) := o1.base B0.out.size
  have B1 := Lib.hid (bt B0.out b1)
  have X1 := Lib.hid (blk_below b1 X0.out)
  clear b1 o1 Y0 X0 B0 HW EL d0 d1
  obtain ⟨bb, oo, u, e, hbb, hru, h0, h1, h2, h3⟩ := el_at O1.out.el j hjl
  have hrow := ownE_place O1.out j hjl (by rw [e]) h2
  cases e
  rw [HY.out] at hru h0 h1 h3 hrow
  simp only at hru h0 h1 h3 hrow
  obtain ⟨uo, uc, rfl⟩ := hru.shape
  have RU := Lib.hid hrow
  rw [HN.out]
  obtain ⟨ny, hny⟩ : ∃ z, yl.length = z := ⟨_, rfl⟩
  have HNY := Lib.hid hny
  rw [hny] at RU h2
  clear hru hrow hny HY hbb
  obtain ⟨c0, c1, c2, c3⟩ := cells4 X1.out
  have f0 : ∀ o, w1.frozen? ⟨w.heap.size + 1, o, none⟩ = false := fun o => free4 X1.out o
  have HF := Lib.hid (put4_same (.int .u32 (t : Int)) (.int .u8 (r : Int)) (.slice uo ny uc) (.int .i64 p) X1.out)
  have BF := Lib.hid (put4_below (.int .u32 (t : Int)) (.int .u8 (r : Int)) (.slice uo ny uc) (.int .i64 p) (Nat.le_add_right w.heap.size 1) B1.out)
  have RF := Lib.hid (own_put4 (.int .u32 (t : Int)) (.int .u8 (r : Int)) (.slice uo ny uc) (.int .i64 p) RU.out X1.out)
  obtain ⟨WF, hWF⟩ : ∃ WF, put4 w1 (w.heap.size + 1) (.int .u32 (t : Int)) (.int .u8 (r : Int)) (.slice uo ny uc) (.int .i64 p) = WF := ⟨_, rfl⟩
  rw [hWF] at HF BF RF
  unfold put4 at hWF
  have HX := Lib.hid hWF
  clear hWF X1 B1 O1
  go_wp2
  rw [HX.out]
  obtain ⟨e0, e1, e2, e3⟩ := cells4 HF.out
  exact bodyPost_ret (v := .tuple #[.agg #[.int .u32 (t : Int), .int .u8 (r : Int), .slice uo ny uc, .int .i64 p], .int .i64 0]) (by simp [results, Tryz.results71, go_sem, e0, e1, e2, e3]) rfl ⟨_, rfl, by rw [HNY.out]; exact RF.out, BF.out⟩
end Go.Proofs.YtgjbnbojjgbmcaaGreat.Views

namespace Go.Proofs.YtgjbnbojjgbmcaaGreat.Edits
open Go.RowKit Go.WideShapes Stamp Go.Proofs.YtgjbnbojjgbmcaaGreat.Place Ops Codes Bags Marks Homes Covers Views
attribute [local go_sem ↓] Go.wp_at_zero Go.wp_at_succ
attribute [local go_sem] yielded_undef
theorem young_any {ao : Option Addr} {m cap : Nat} {o : Opn} {tb t : Nat} {w : World} (hc : w.cell? ⟨tb, 0, none⟩ = some (.int .u32 (t : Int))) (hb : tb < w.heap.size) :
    Calls Tryz.prog 84 #[opv o (.slice ao m cap), .pointer (some ⟨tb, 0, none⟩)] w fun e w' => e = .returned (.bool (decide (o.t ≤ t))) ∧ Below w.heap.size w w' := by
  obtain ⟨k, a, r, pl, p, hk, ha, hr, hp⟩ := o
  unfold opv
  simp only
  have B0 := Lib.hid ((Below.refl w.heap.size w).alloc (Nat.le_refl _) (.cells #[.int .u8 (k : Int), .int .u32 (a : Int), .int .u8 (r : Int), .slice ao m cap, .int .i64 p] 38))
  have c0 := (B0.out.cell (p := ⟨tb, 0, none⟩) hb).trans hc
  obtain ⟨q, hq⟩ : ∃ q, decide (a ≤ t) = q := ⟨_, rfl⟩
  have hq2 : decide ((a : Int) ≤ (t : Int)) = q := by rw [← hq]; simp
  rw [hq]
  go_enter Tryz.func84, Tryz.ntmps84
  go_wp2
  go_ret
  exact ⟨rfl, B0.out⟩
theorem old_take {l : List Opn} {t j : Nat} (h : j < l.length) : oldB (l.take (j + 1)) t = (oldB (l.take j) t && decide ((l[j]'h).t ≤ t)) := by
  unfold oldB
  rw [List.take_succ_eq_append_getElem h, List.all_append]
  simp
theorem old_no {l : List Opn} {t j : Nat} (h : j < l.length) (h2 : ¬ (l[j]'h).t ≤ t) : oldB l t = false := by
  cases e : oldB l t
  · rfl
  · exact absurd (oldB_iff.1 e _ (List.getElem_mem h)) h2
set_option maxRecDepth 100000 in
set_option maxHeartbeats 8000000 in
theorem eAll_any {v : Value} {l : List Opn} {t tb : Nat} {w : World} (hv : OpL w v l) (hl : l.length ≤ 1000000) (hc : w.cell? ⟨tb, 0, none⟩ = some (.int .u32 (t : Int))) (htb : tb < w.heap.size) :
    Calls Tryz.prog 85 #[v, .func (.func 84) #[] #[.pointer (some ⟨tb, 0, none⟩)]] w fun e w' => e = .returned (.bool (oldB l t)) ∧ Below w.heap.size w w' := by
  obtain ⟨ao, cap, rfl⟩ := hv.shape
  obtain ⟨n, hn⟩ : ∃ n, n = l.length := ⟨_, rfl⟩
  have HV : Hid (∀ W : World, Below w.heap.size w W → OpL W (.slice ao l.length cap) l) := fun W h => hv.keeps h
  have HN := Lib.hid hn
  have YN : Hid (∀ (W : World) (o : Opn) (uo : Option Addr) (um uc : Nat), Below w.heap.size w W → Calls Tryz.prog 84 #[opv o (.slice uo um uc), .pointer (some ⟨tb, 0, none⟩)] W fun e w' => e = .returned (.bool (decide (o.t ≤ t))) ∧ Below W.heap.size W w') := fun W o uo um uc h => young_any ((h.cell (p := ⟨tb, 0, none⟩) htb).trans hc) (Nat.lt_of_lt_of_le htb h.size)
  rw [← hn] at hl ⊢
  have Z0 : Hid (oldB (l.take 0) t = true) := rfl
  have M0 : Hid (Below w.heap.size w w) := Below.refl _ _
  obtain ⟨Q, hQ⟩ : ∃ q, oldB l t = q := ⟨_, rfl⟩
  have HQ := Lib.hid hQ
  rw [hQ]
  clear hv hn hc hQ htb
  go_enter Tryz.func85, Tryz.ntmps85
  go_wp2
  go_loopw [9] (fun i wr => ∃ j : Nat, j ≤ n ∧ i = .int .i64 (j : Int) ∧ Hid (oldB (l.take j) t = true) ∧ Hid (Below w.heap.size w wr)) (fun i _ => n - (intOf i).toNat)
  case atStart => exact ⟨0, by omega, rfl, Z0, M0⟩
  case round =>
    clear Z0 M0
    obtain ⟨j, hj, rfl, hold, hbel⟩ := hrel
    by_cases hjn : j < n
    rotate_left
    · have q3 : decide (j < n) = false := by simpa using hjn
      have hkk : l.take j = l := List.take_of_length_le (by have := HN.out; omega)
      have hold2 := hold.out
      rw [hkk, HQ.out] at hold2
      subst hold2
      clear hkk hold HQ HV YN
      go_wp2
      go_ret
      exact ⟨rfl, hbel.out⟩
    have q3 : decide (j < n) = true := by simpa using hjn
    have q4 : (0 : Int) ≤ (j : Int) := by omega
    have q5 : (j : Int) < (n : Int) := by omega
    have hjl : j < l.length := by rw [← HN.out]; exact hjn
    obtain ⟨bb, oo, u, e, hbb, hru, h0, h1, h2, h3, h4⟩ := opl_at (HV.out wr hbel.out) j hjl
    subst e
    have FT := Lib.hid (old_take (t := t) hjl)
    have FN := Lib.hid (old_no (t := t) hjl)
    obtain ⟨x, hx⟩ : ∃ x, l[j]'hjl = x := ⟨_, rfl⟩
    rw [hx] at hru h0 h1 h2 h4 FT FN
    obtain ⟨uo, uc, rfl⟩ := hru.shape
    obtain ⟨nu, hnu⟩ : ∃ n, x.pl.length = n := ⟨_, rfl⟩
    rw [hnu] at h3
    have YX : Hid (∀ W : World, Below wr.heap.size wr W → Calls Tryz.prog 84 #[opv x (.slice uo nu uc), .pointer (some ⟨tb, 0, none⟩)] W fun e w' => e = .returned (.bool (decide (x.t ≤ t))) ∧ Below W.heap.size W w') := fun W h => YN.out W x uo nu uc (bt hbel.out h)
    have HO : Hid (∀ v : Value, opv x v = .agg #[.int .u8 (x.k : Int), .int .u32 (x.t : Int), .int .u8 (x.r : Int), v, .int .i64 x.p]) := fun v => rfl
    rw [HO.out] at YX
    obtain ⟨k, hk⟩ : ∃ z, x.k = z := ⟨_, rfl⟩
    obtain ⟨a, ha⟩ : ∃ z, x.t = z := ⟨_, rfl⟩
    obtain ⟨r, hr⟩ : ∃ z, x.r = z := ⟨_, rfl⟩
    obtain ⟨p, hp⟩ : ∃ z, x.p = z := ⟨_, rfl⟩
    rw [hk, ha, hr, hp] at YX
    rw [hk] at h0
    rw [ha] at h1 FT FN
    rw [hr] at h2
    rw [hp] at h4
    have BL : Hid (Below wr.heap.size wr (wr.alloc (.cells #[.int .u8 (k : Int), .int .u32 (a : Int), .int .u8 (r : Int), .slice uo nu uc, .int .i64 p] 38))) := (Below.refl _ _).alloc (Nat.le_refl _) _
    clear hru hx hk ha hr hp HO hnu HV YN HN
    by_cases hat : a ≤ t
    · have q6 : decide (a ≤ t) = true := decide_eq_true hat
      rw [q6] at YX
      have F1 : Hid (oldB (l.take (j + 1)) t = true) := by unfold Hid; rw [FT.out, hold.out, q6]; rfl
      clear FT FN hold q6 hat
      go_wp2_with fail
      refine (YX.out _ BL.out).mono ?_
      rintro e w5 ⟨rfl, b5⟩
      have B5 := Lib.hid (bt hbel.out (bt BL.out b5))
      clear b5 YX BL hbel
      go_wp2
      go_roundw
      case rel => exact ⟨j + 1, by omega, by go_num, F1, B5⟩
      case measure => simp [intOf]; omega
    · have q6 : decide (a ≤ t) = false := decide_eq_false hat
      rw [q6] at YX
      have F1 := FN.out hat
      rw [HQ.out] at F1
      subst F1
      clear FT FN hold q6 hat HQ
      go_wp2_with fail
      refine (YX.out _ BL.out).mono ?_
      rintro e w5 ⟨rfl, b5⟩
      have B5 := Lib.hid (bt hbel.out (bt BL.out b5))
      clear b5 YX BL hbel
      go_wp2
      go_ret
      exact ⟨rfl, B5.out⟩
def askP (l : List Opn) (r t : Nat) (s : Id) : List Run := if askE l r t s = 0 then fromL l s else []
def AskN (l : List Opn) (r t : Nat) (s : Id) (w : World) (e : Ending) (w' : World) : Prop := ∃ v', e = .returned (.tuple #[v', .int .i64 (askE l r t s)]) ∧ w'.ownsRow w.heap.size 32 3 v' (askP l r t s).length (runs (askP l r t s)) ∧ Below w.heap.size w w'
theorem from_no {l : List Opn} {s : Id} (h : spanE l s ≠ 0) : fromL l s = [] := by
  unfold fromL
  rw [if_neg]
  intro h2
  apply h
  unfold spanE
  rw [if_pos h2.1, if_pos h2.2]
theorem span_no {l : List Opn} {s : Id} (h : ¬ Bag l) : spanE l s = 8 := by
  unfold spanE
  rw [bagB_no h]
  rfl
set_option maxRecDepth 100000 in
set_option maxHeartbeats 8000000 in
theorem eAsked_any {v : Value} {l : List Opn} {r t : Nat} (s : Id) {w : World} (hv : OpL w v l) (hr : r < 256) (_ht : t < 4294967296) :
    Calls Tryz.prog 39 #[v, .int .u8 (r : Int), .int .u32 (t : Int), .agg #[.int .u32 (s.t : Int), .int .u8 (s.r : Int)]] w (AskN l r t s w) := by
  obtain ⟨wb, hwb⟩ : ∃ x, x = w.alloc (.cells #[.int .u32 (t : Int)] 26) := ⟨_, rfl⟩
  obtain ⟨wl, hwl⟩ : ∃ x, x = wb.alloc (.cells #[.int .u32 (s.t : Int), .int .u8 (s.r : Int)] 28) := ⟨_, rfl⟩
  have hsz : wb.heap.size = w.heap.size + 1 := by rw [hwb]; exact Array.size_push _
  have Y0 : Hid (wl.heap[w.heap.size + 1]? = some (.cells #[.int .u32 (s.t : Int), .int .u8 (s.r : Int)] 28)) := by rw [hwl, ← hsz]; exact blk_new rfl
  have Bb : Below w.heap.size w wb := by rw [hwb]; exact (Below.refl _ _).alloc (Nat.le_refl _) _
  have X0 : Hid (wl.heap[w.heap.size]? = some (.cells #[.int .u32 (t : Int)] 26)) := by
    have h1 : wb.heap[w.heap.size]? = some (.cells #[.int .u32 (t : Int)] 26) := by rw [hwb]; exact blk_new rfl
    rw [hwl]
    exact blk_below ((Below.refl _ _).alloc (Nat.le_refl _) _) h1
  have B0 : Hid (Below w.heap.size w wl) := by rw [hwl]; exact Bb.alloc (by omega) _
  have HW : Hid (wl = (w.alloc (.cells #[.int .u32 (t : Int)] 26)).alloc (.cells #[.int .u32 (s.t : Int), .int .u8 (s.r : Int)] 28)) := by rw [hwl, hwb]; rfl
  have CK : Hid (Calls Tryz.prog 78 #[v] wl fun e w' => e = .returned (.int .i64 (chkL l)) ∧ Below wl.heap.size wl w') := bCheck_any (hv.keeps B0.out)
  have AL : Hid (Bag l → ∀ W : World, Below wl.heap.size wl W → Calls Tryz.prog 85 #[v, .func (.func 84) #[] #[.pointer (some ⟨w.heap.size, 0, none⟩)]] W fun e w' => e = .returned (.bool (oldB l t)) ∧ Below W.heap.size W w') := fun hb W h => by
    have hx := blk_below h X0.out
    exact eAll_any (hv.keeps (bt B0.out h)) (by have := hb.1; omega) (cell_of_row _ _ 0 _ _ _ hx) (Array.getElem?_eq_some_iff.1 hx).1
  have SP : Hid (∀ W : World, Below w.heap.size w W → Calls Tryz.prog 86 #[v, .agg #[.int .u32 (s.t : Int), .int .u8 (s.r : Int)]] W (TwoR (fromL l s) (toL l s) (spanE l s) W)) := fun W h => hSpan_any s (hv.keeps h)
  unfold AskN
  obtain ⟨ao, cap, rfl⟩ := hv.shape
  obtain ⟨n, hn⟩ : ∃ n, l.length = n := ⟨_, rfl⟩
  rw [hn] at CK AL SP ⊢
  clear hv hn hsz Bb hwl hwb X0
  by_cases hb : Bag l
  rotate_left
  · have hck : chkL l = 8 := chkL_no hb
    have hE : askE l r t s = 8 := by
      unfold askE
      split
      · exact span_no hb
      · rfl
    have hP : askP l r t s = [] := by unfold askP; rw [hE]; rfl
    rw [hck] at CK
    rw [hE, hP]
    obtain ⟨ts, rs, hts, hrs⟩ := s
    simp only at Y0 HW ⊢
    clear AL SP hck hE hP hb Y0
    go_enter Tryz.func39, Tryz.ntmps39
    go_wp2_with fail
    rw [← HW.out]
    refine CK.out.mono ?_
    rintro e w1 ⟨rfl, b1⟩
    have B1 := Lib.hid (bt B0.out b1)
    clear b1 B0 HW CK
    go_wp2
    exact bodyPost_ret (v := .tuple #[.slice none 0 0, .int .i64 8]) (by simp [results, Tryz.results39, go_sem]) rfl ⟨_, rfl, World.ownsRow_nil _ _ _ _, B1.out⟩
  have AL2 := Lib.hid (AL.out hb)
  rw [chkL_yes hb] at CK
  by_cases hr8 : 8 ≤ r
  · have hE : askE l r t s = 8 := by unfold askE; rw [if_neg (by omega)]
    have hP : askP l r t s = [] := by unfold askP; rw [hE]; rfl
    rw [hE, hP]
    have q1 : decide (8 ≤ r) = true := decide_eq_true hr8
    have q2 : decide ((8 : Int) ≤ (r : Int)) = true := decide_eq_true (by omega)
    obtain ⟨ts, rs, hts, hrs⟩ := s
    simp only at Y0 HW ⊢
    clear AL AL2 SP hE hP hb Y0
    go_enter Tryz.func39, Tryz.ntmps39
    go_wp2_with fail
    rw [← HW.out]
    refine CK.out.mono ?_
    rintro e w1 ⟨rfl, b1⟩
    have B1 := Lib.hid (bt B0.out b1)
    clear b1 B0 HW CK
    go_wp2
    exact bodyPost_ret (v := .tuple #[.slice none 0 0, .int .i64 8]) (by simp [results, Tryz.results39, go_sem]) rfl ⟨_, rfl, World.ownsRow_nil _ _ _ _, B1.out⟩
  have q1 : decide (8 ≤ r) = false := decide_eq_false hr8
  have q2 : decide ((8 : Int) ≤ (r : Int)) = false := decide_eq_false (by omega)
  obtain ⟨q, hq⟩ : ∃ q, oldB l t = q := ⟨_, rfl⟩
  rw [hq] at AL2
  cases q
  · have hE : askE l r t s = 8 := by unfold askE; rw [if_neg (fun h => by rw [hq] at h; cases h.2)]
    have hP : askP l r t s = [] := by unfold askP; rw [hE]; rfl
    rw [hE, hP]
    obtain ⟨ts, rs, hts, hrs⟩ := s
    simp only at Y0 HW ⊢
    clear AL SP hE hP hb Y0 hq
    go_enter Tryz.func39, Tryz.ntmps39
    go_wp2_with fail
    rw [← HW.out]
    refine CK.out.mono ?_
    rintro e w1 ⟨rfl, b1⟩
    have B1 := Lib.hid b1
    have D1 := Lib.hid (bt B0.out b1)
    clear b1 B0 HW CK
    go_wp2_with fail
    refine (AL2.out _ B1.out).mono ?_
    rintro e w2 ⟨rfl, b2⟩
    have B2 := Lib.hid (bt D1.out b2)
    clear b2 B1 D1 AL2
    go_wp2
    exact bodyPost_ret (v := .tuple #[.slice none 0 0, .int .i64 8]) (by simp [results, Tryz.results39, go_sem]) rfl ⟨_, rfl, World.ownsRow_nil _ _ _ _, B2.out⟩
  have hE : askE l r t s = spanE l s := by unfold askE; rw [if_pos ⟨by omega, hq⟩]
  have hP : askP l r t s = fromL l s := by
    unfold askP
    rw [hE]
    split
    · rfl
    · rename_i h; exact (from_no h).symm
  rw [hE, hP]
  obtain ⟨x, hx⟩ : ∃ x, spanE l s = x := ⟨_, rfl⟩
  obtain ⟨F, hF⟩ : ∃ F, fromL l s = F := ⟨_, rfl⟩
  obtain ⟨T, hT⟩ : ∃ T, toL l s = T := ⟨_, rfl⟩
  rw [hx, hF, hT] at SP
  rw [hx, hF]
  obtain ⟨ts, rs, hts, hrs⟩ := s
  simp only at Y0 HW SP ⊢
  clear AL hE hP hb hq hx hF hT
  go_enter Tryz.func39, Tryz.ntmps39
  go_wp2_with fail
  rw [← HW.out]
  refine CK.out.mono ?_
  rintro e w1 ⟨rfl, b1⟩
  have B1 := Lib.hid b1
  have Y1 := Lib.hid (blk_below b1 Y0.out)
  have D1 := Lib.hid (bt B0.out b1)
  clear b1 B0 HW CK Y0
  go_wp2_with fail
  refine (AL2.out _ B1.out).mono ?_
  rintro e w2 ⟨rfl, b2⟩
  have B2 := Lib.hid (bt D1.out b2)
  have Y2 := Lib.hid (blk_below b2 Y1.out)
  clear b2 B1 D1 AL2 Y1
  have d0 := cell_of_row _ _ 0 _ _ _ Y2.out
  have d1 := cell_of_row _ _ 1 _ _ _ Y2.out
  go_wp2_with fail
  refine (SP.out _ B2.out).mono ?_
  rintro e w3 ⟨va, vb, rfl, h1, h2, b3⟩
  have O3 := Lib.hid (op_base h1 B2.out.size)
  have B3 := Lib.hid (bt B2.out b3)
  clear h1 h2 b3 B2 Y2 d0 d1 SP
  go_wp2
  exact bodyPost_ret (v := .tuple #[va, .int .i64 x]) (by simp [results, Tryz.results39, go_sem]) rfl ⟨_, rfl, O3.out, B3.out⟩
def lefE (l : List Opn) (r t : Nat) (s : Id) (k : Int) : Int := if askE l r t s = 0 then (if 0 ≤ k ∧ k ≤ ((elmL l s).length : Int) then 0 else 2) else askE l r t s
def lefP (l : List Opn) (r t : Nat) (s : Id) (k : Int) : List Run := if lefE l r t s k = 0 then leftP l s k.toNat else []
def LefN (l : List Opn) (r t : Nat) (s : Id) (k : Int) (w : World) (e : Ending) (w' : World) : Prop := ∃ v', e = .returned (.tuple #[v', .int .i64 (lefE l r t s k)]) ∧ w'.ownsRow w.heap.size 32 3 v' (lefP l r t s k).length (runs (lefP l r t s k)) ∧ Below w.heap.size w w'
theorem left0 {l : List Opn} {s : Id} (h : spanE l s = 0) : leftP l s 0 = fromL l s := by
  have h2 := spanE_zero.1 h
  have h3 := (sec_where h).1
  have h4 : whereM (livesM l l) s = (whereN (livesM l l) s : Int) := by unfold whereM; rw [if_pos h3]
  unfold leftP leftM fromL
  rw [if_neg (Nat.lt_irrefl 0), if_pos ⟨(bagB_iff l).2 h2.1, h2.2⟩, h4]
theorem lef_in {l : List Opn} {r t : Nat} {s : Id} {k : Int} (h0 : askE l r t s = 0) (hk : 0 < k) : lefE l r t s k = atE l s (k - 1) ∧ lefP l r t s k = (atL l s (k - 1)).pl := by
  have hs := (askE_zero.1 h0).2.2
  by_cases h : 0 ≤ k ∧ k ≤ ((elmL l s).length : Int)
  · have h2 : 0 ≤ k - 1 ∧ k - 1 < ((elmL l s).length : Int) := by omega
    have e1 : lefE l r t s k = 0 := by unfold lefE; rw [if_pos h0, if_pos h]
    refine ⟨?_, ?_⟩
    · rw [e1]; unfold atE; rw [if_pos hs, if_pos h2]
    · unfold lefP; rw [if_pos e1]
      unfold leftP leftM atL
      rw [if_pos (by omega), if_pos ⟨hs, h2⟩, show (k - 1).toNat = k.toNat - 1 by omega]
  · have h2 : ¬ (0 ≤ k - 1 ∧ k - 1 < ((elmL l s).length : Int)) := by omega
    have e1 : lefE l r t s k = 2 := by unfold lefE; rw [if_pos h0, if_neg h]
    refine ⟨?_, ?_⟩
    · rw [e1]; unfold atE; rw [if_pos hs, if_neg h2]
    · unfold lefP; rw [if_neg (by rw [e1]; decide)]
      unfold atL
      rw [if_neg (fun h3 => h2 h3.2)]
      rfl
set_option maxRecDepth 100000 in
set_option maxHeartbeats 8000000 in
theorem eLeft_any {v : Value} {l : List Opn} {r t : Nat} (s : Id) (k : Int) {w : World} (hv : OpL w v l) (hr : r < 256) (ht : t < 4294967296) (hk : k ≤ 9223372036854775807) :
    Calls Tryz.prog 32 #[v, .int .u8 (r : Int), .int .u32 (t : Int), .agg #[.int .u32 (s.t : Int), .int .u8 (s.r : Int)], .int .i64 k] w (LefN l r t s k w) := by
  obtain ⟨wl, hwl⟩ : ∃ x, x = w.alloc (.cells #[.int .u32 (s.t : Int), .int .u8 (s.r : Int)] 28) := ⟨_, rfl⟩
  have B0 : Hid (Below w.heap.size w wl) := by rw [hwl]; exact (Below.refl _ _).alloc (Nat.le_refl _) _
  have Y0 : Hid (wl.heap[w.heap.size]? = some (.cells #[.int .u32 (s.t : Int), .int .u8 (s.r : Int)] 28)) := by rw [hwl]; exact blk_new rfl
  have HW := Lib.hid hwl
  have AK : Hid (Calls Tryz.prog 39 #[v, .int .u8 (r : Int), .int .u32 (t : Int), .agg #[.int .u32 (s.t : Int), .int .u8 (s.r : Int)]] wl (AskN l r t s wl)) := eAsked_any s (hv.keeps B0.out) hr ht
  have AT : Hid (∀ W : World, Below w.heap.size w W → Calls Tryz.prog 71 #[v, .agg #[.int .u32 (s.t : Int), .int .u8 (s.r : Int)], .int .i64 (k - 1)] W (OneE (atL l s (k - 1)) (atE l s (k - 1)) W)) := fun W h => vAt_any s (k - 1) (hv.keeps h)
  unfold AskN at AK
  unfold LefN
  obtain ⟨ao, cap, rfl⟩ := hv.shape
  obtain ⟨n, hn⟩ : ∃ n, l.length = n := ⟨_, rfl⟩
  rw [hn] at AK AT ⊢
  have hE0 : lefE l r t s k = if askE l r t s = 0 then (if 0 ≤ k ∧ k ≤ ((elmL l s).length : Int) then 0 else 2) else askE l r t s := rfl
  have hP0 : lefP l r t s k = if lefE l r t s k = 0 then leftP l s k.toNat else [] := rfl
  have hL0 : askE l r t s = 0 → leftP l s 0 = fromL l s := fun h => left0 (askE_zero.1 h).2.2
  have hA0 : askE l r t s = 0 → askP l r t s = fromL l s := fun h => by unfold askP; rw [if_pos h]
  have hI := @lef_in l r t s k
  obtain ⟨a, ha⟩ : ∃ a, askE l r t s = a := ⟨_, rfl⟩
  rw [ha] at AK hE0 hL0 hA0 hI
  obtain ⟨P, hP⟩ : ∃ P, askP l r t s = P := ⟨_, rfl⟩
  rw [hP] at AK hA0
  obtain ⟨x, hx⟩ : ∃ x, lefE l r t s k = x := ⟨_, rfl⟩
  rw [hx] at hE0 hP0 hI ⊢
  obtain ⟨Q, hQ⟩ : ∃ Q, lefP l r t s k = Q := ⟨_, rfl⟩
  rw [hQ] at hP0 hI ⊢
  clear hv hwl hn ha hP hx hQ
  by_cases h0 : a = 0
  rotate_left
  · rw [if_neg h0] at hE0
    subst hE0
    rw [if_neg h0] at hP0
    subst hP0
    have q0 : (x != 0) = true := by simpa using h0
    have q1 : decide (x = 0) = false := decide_eq_false h0
    obtain ⟨ts, rs, hts, hrs⟩ := s
    simp only at Y0 HW AK ⊢
    have d0 := cell_of_row _ _ 0 _ _ _ Y0.out
    have d1 := cell_of_row _ _ 1 _ _ _ Y0.out
    clear AT hL0 hA0 hI
    go_enter Tryz.func32, Tryz.ntmps32
    go_wp2_with fail
    rw [← HW.out]
    refine AK.out.mono ?_
    rintro e w1 ⟨v1, rfl, o1, b1⟩
    have B1 := Lib.hid (bt B0.out b1)
    clear b1 o1 Y0 B0 HW AK d0 d1
    go_wp2
    exact bodyPost_ret (v := .tuple #[.slice none 0 0, .int .i64 x]) (by simp [results, Tryz.results32, go_sem]) rfl ⟨_, rfl, World.ownsRow_nil _ _ _ _, B1.out⟩
  subst h0
  rw [if_pos rfl] at hE0
  have hA1 := hA0 rfl
  have hL1 := hL0 rfl
  by_cases hk0 : k < 0
  · rw [if_neg (by omega)] at hE0
    subst hE0
    rw [if_neg (by decide)] at hP0
    subst hP0
    have q2 : decide (k < 0) = true := decide_eq_true hk0
    obtain ⟨ts, rs, hts, hrs⟩ := s
    simp only at Y0 HW AK ⊢
    have d0 := cell_of_row _ _ 0 _ _ _ Y0.out
    have d1 := cell_of_row _ _ 1 _ _ _ Y0.out
    clear AT hL0 hA0 hI hA1 hL1
    go_enter Tryz.func32, Tryz.ntmps32
    go_wp2_with fail
    rw [← HW.out]
    refine AK.out.mono ?_
    rintro e w1 ⟨v1, rfl, o1, b1⟩
    have B1 := Lib.hid (bt B0.out b1)
    clear b1 o1 Y0 B0 HW AK d0 d1
    go_wp2
    exact bodyPost_ret (v := .tuple #[.slice none 0 0, .int .i64 2]) (by simp [results, Tryz.results32, go_sem]) rfl ⟨_, rfl, World.ownsRow_nil _ _ _ _, B1.out⟩
  have q2 : decide (k < 0) = false := decide_eq_false hk0
  by_cases hk1 : k = 0
  · subst hk1
    rw [if_pos ⟨Int.le_refl 0, by omega⟩] at hE0
    subst hE0
    rw [if_pos rfl, show (0 : Int).toNat = 0 from rfl, hL1, ← hA1] at hP0
    subst hP0
    obtain ⟨ts, rs, hts, hrs⟩ := s
    simp only at Y0 HW AK ⊢
    have d0 := cell_of_row _ _ 0 _ _ _ Y0.out
    have d1 := cell_of_row _ _ 1 _ _ _ Y0.out
    clear AT hL0 hA0 hI hA1 hL1
    go_enter Tryz.func32, Tryz.ntmps32
    go_wp2_with fail
    rw [← HW.out]
    refine AK.out.mono ?_
    rintro e w1 ⟨v1, rfl, o1, b1⟩
    have B1 := Lib.hid (bt B0.out b1)
    have O1 := Lib.hid (op_base o1 B0.out.size)
    clear b1 o1 Y0 B0 HW AK d0 d1
    go_wp2
    exact bodyPost_ret (v := .tuple #[v1, .int .i64 0]) (by simp [results, Tryz.results32, go_sem]) rfl ⟨_, rfl, O1.out, B1.out⟩
  have q3 : decide (k = 0) = false := decide_eq_false hk1
  obtain ⟨i1, i2⟩ := hI rfl (by omega)
  rw [← i1] at AT
  have hz : IntKind.i64.wrap (k - 1) = k - 1 := IntWalk.i64_in _ (by omega)
  obtain ⟨o, ho⟩ : ∃ o, atL l s (k - 1) = o := ⟨_, rfl⟩
  rw [ho] at AT i2
  subst i2
  unfold OneE elv at AT
  obtain ⟨ot, hot⟩ : ∃ z, o.t = z := ⟨_, rfl⟩
  obtain ⟨or, hor⟩ : ∃ z, o.r = z := ⟨_, rfl⟩
  obtain ⟨op, hop⟩ : ∃ z, o.p = z := ⟨_, rfl⟩
  rw [hot, hor, hop] at AT
  obtain ⟨ts, rs, hts, hrs⟩ := s
  simp only at Y0 HW AK AT ⊢
  clear hL0 hA0 hI hA1 hL1 hE0 hP0 i1 hot hor hop ho
  have d0 := cell_of_row _ _ 0 _ _ _ Y0.out
  have d1 := cell_of_row _ _ 1 _ _ _ Y0.out
  go_enter Tryz.func32, Tryz.ntmps32
  go_wp2_with fail
  rw [← HW.out]
  refine AK.out.mono ?_
  rintro e w1 ⟨v1, rfl, o1, b1⟩
  have B1 := Lib.hid (bt B0.out b1)
  have Y1 := Lib.hid (blk_below b1 Y0.out)
  clear b1 o1 Y0 B0 HW AK d0 d1
  have d0 := cell_of_row _ _ 0 _ _ _ Y1.out
  have d1 := cell_of_row _ _ 1 _ _ _ Y1.out
  go_wp2_with fail
  refine (AT.out _ B1.out).mono ?_
  rintro e w2 ⟨v2, rfl, o2, b2⟩
  have B2 := Lib.hid (bt B1.out b2)
  obtain ⟨xo, xc, rfl⟩ : ∃ xo xc, v2 = .slice xo o.pl.length xc := Sees.shape (Sees.own o2)
  have O2 := Lib.hid (op_base o2 B1.out.size)
  obtain ⟨no, hno⟩ : ∃ z, o.pl.length = z := ⟨_, rfl⟩
  rw [hno] at O2 ⊢
  have HNO := Lib.hid hno
  clear b2 o2 B1 Y1 AT d0 d1 hno
  have BL : Hid (Below w2.heap.size w2 (w2.alloc (.cells #[.int .u32 (ot : Int), .int .u8 (or : Int), .slice xo no xc, .int .i64 op] 91))) := (Below.refl _ _).alloc (Nat.le_refl _) _
  have O3 := Lib.hid (own_stays O2.out BL.out)
  have B3 := Lib.hid (bt B2.out BL.out)
  clear O2 B2 BL
  go_wp2
  exact bodyPost_ret (v := .tuple #[.slice xo no xc, .int .i64 x]) (by simp [results, Tryz.results32, go_sem]) rfl ⟨_, rfl, by rw [HNO.out]; exact O3.out, B3.out⟩
end Go.Proofs.YtgjbnbojjgbmcaaGreat.Edits

namespace Go.Proofs.YtgjbnbojjgbmcaaGreat
open Go.RowKit Go.WideShapes
/-- What a copy of n elements does: the row behind it, all else as it was. -/
def Copied (w : World) (g : Nat) (cur : List Value) (off : Nat) (cs : List Value) (t : TypeId) (w' : World) : Prop :=
  w'.heap[g]? = some (.cells (splice cur off cs).toArray t (0, 0)) ∧ (∀ k, k ≠ g → w'.heap[k]? = w.heap[k]?) ∧ w'.heap.size = w.heap.size ∧ ∀ B, B ≤ g → Below B w w'
end Go.Proofs.YtgjbnbojjgbmcaaGreat

namespace Go.Proofs.YtgjbnbojjgbmcaaGreat.Codes
open Go.RowKit Go.WideShapes Go.Proofs.YtgjbnbojjgbmcaaGreat.Place Ops
theorem splice_nil {α : Type} (L : List α) (o : Nat) : splice L o [] = L := by simp [splice]
theorem splice_cons {α : Type} (L : List α) (o : Nat) (v : α) (vs : List α) (h : o + (vs.length + 1) ≤ L.length) : splice L o (v :: vs) = splice (L.set o v) (o + 1) vs := by
  unfold splice
  have h1 : (L.set o v).take (o + 1) = L.take o ++ [v] := by
    rw [List.take_succ_eq_append_getElem (by simp; omega), List.take_set_of_le (Nat.le_refl _), List.getElem_set_self]
  have h2 : (L.set o v).drop (o + 1 + vs.length) = L.drop (o + (v :: vs).length) := by
    rw [List.drop_set_of_lt (by omega)]
    congr 1
    simp; omega
  rw [h1, h2]
  simp
theorem put_step {X : World} {g o : Nat} {cur : List Value} {t : TypeId} (d : Value) (h : X.heap[g]? = some (.cells cur.toArray t (0, 0))) :
    (X.setCell ⟨g, o, none⟩ d).heap[g]? = some (.cells (cur.set o d).toArray t (0, 0)) := by
  have := heap_setCell_same X g o _ _ d h
  simpa using this
theorem put5_copied {X : World} {g o : Nat} {cur : List Value} {t : TypeId} (d0 d1 d2 d3 d4 : Value) (h : X.heap[g]? = some (.cells cur.toArray t (0, 0))) (hl : o + 5 ≤ cur.length) :
    Copied X g cur o [d0, d1, d2, d3, d4] t (((((X.setCell ⟨g, o, none⟩ d0).setCell ⟨g, o + 1, none⟩ d1).setCell ⟨g, o + 2, none⟩ d2).setCell ⟨g, o + 3, none⟩ d3).setCell ⟨g, o + 4, none⟩ d4) := by
  refine ⟨?_, ?_, ?_, ?_⟩
  · have h5 := put_step d4 (o := o + 4) (put_step d3 (o := o + 3) (put_step d2 (o := o + 2) (put_step d1 (o := o + 1) (put_step d0 (o := o) h))))
    rw [h5, splice_cons _ _ _ _ (by simpa using hl), splice_cons _ _ _ _ (by simp; omega), splice_cons _ _ _ _ (by simp; omega), splice_cons _ _ _ _ (by simp; omega), splice_cons _ _ _ _ (by simp; omega), splice_nil]
  · intro k hk
    rw [heap_setCell_other _ _ _ _ hk, heap_setCell_other _ _ _ _ hk, heap_setCell_other _ _ _ _ hk, heap_setCell_other _ _ _ _ hk, heap_setCell_other _ _ _ _ hk]
  · simp
  · intro B hB
    exact (((((Below.refl B X).setCell (p := ⟨g, o, none⟩) hB _).setCell (p := ⟨g, o + 1, none⟩) hB _).setCell (p := ⟨g, o + 2, none⟩) hB _).setCell (p := ⟨g, o + 3, none⟩) hB _).setCell (p := ⟨g, o + 4, none⟩) hB _
/-- A row of another kind stays. -/
theorem own_copied {w w' : World} {base g sz n : Nat} {e t : TypeId} {v : Value} {cs cur cs' : List Value} {o : Nat} (h : w.ownsRow base e sz v n cs) (hg : w.heap[g]? = some (.cells cur.toArray t (0, 0))) (hne : t ≠ e) (hc : Copied w g cur o cs' t w') : w'.ownsRow base e sz v n cs := by
  refine ⟨h.1, h.2.imp id ?_⟩
  rintro ⟨b, cap, c2, e1, e2, e3, e4⟩
  refine ⟨b, cap, c2, e1, e2, ?_, e4⟩
  rw [hc.2.1 b (fun e => by
    subst e
    rw [hg] at e3
    injection e3 with e3
    injection e3 with e5 e6
    exact hne e6)]
  exact e3
theorem HoldP.copied {w w' : World} {base g : Nat} {cur cs' : List Value} {o : Nat} (hg : w.heap[g]? = some (.cells cur.toArray 38 (0, 0))) (hc : Copied w g cur o cs' 38 w') : ∀ {cs : List Value} {l : List Opn}, HoldP w base cs l → HoldP w' base cs l
  | _, [], h => h
  | _, _ :: _, ⟨v, d, h1, h2, h3⟩ => ⟨v, d, h1, own_copied h2 hg (by decide) hc, HoldP.copied hg hc h3⟩
theorem HoldP.len {w : World} {base : Nat} {cs : List Value} {l : List Opn} (h : HoldP w base cs l) : cs.length = l.length * 5 := Enc.rows_len (E := opE) h.rows
/-- A list in a row that is known whole. -/
theorem ownl_row {w : World} {base g cap : Nat} {cs d : List Value} {l : List Opn} {n : Nat} (hg : w.heap[g]? = some (.cells (cs ++ d).toArray 38 (0, 0))) (hb : base ≤ g) (h : HoldP w base cs l) (hn : n = l.length) (hc : (cs ++ d).length = cap * 5) (hm : cap ≤ maxLen) : OwnL w base (.slice (some ⟨g, 0, none⟩) n cap) l := by
  have hl := h.len
  subst hn
  refine ⟨cs, ⟨hl, .inr ⟨g, cap, _, rfl, hb, hg, ?_, hm, by simpa using hc, ?_⟩⟩, h⟩
  · rw [List.length_append, hl] at hc; omega
  · rw [← hl]; simp
end Go.Proofs.YtgjbnbojjgbmcaaGreat.Codes

namespace Go.Proofs.YtgjbnbojjgbmcaaGreat.Bags
open Go.RowKit Go.WideShapes Stamp Go.Proofs.YtgjbnbojjgbmcaaGreat.Place Ops Codes
attribute [local go_sem ↓] Go.wp_at_zero Go.wp_at_succ
theorem made_opsN (n : Nat) (hn : n ≤ 1000000000) : ∃ Z : List Value, Z.length = n * 5 ∧ ∀ w : World, (Instr.makeSlice 22 (.int .i64 (n : Int)) (.int .i64 (n : Int))).run Tryz.prog w = .ok (.slice (some ⟨w.heap.size, 0, none⟩) n n) (w.alloc (.cells Z.toArray 38)) := by
  obtain ⟨i, hi, hz0, hz1, hz2⟩ := info_parts op_info
  refine ⟨(madeCells (Value.agg #[.int .u8 0, .int .u32 0, .int .u8 0, .slice none 0 0, .int .i64 0]).cells (n * 5)).toList, by simp [size_madeCells], fun w => ?_⟩
  have h := run_make (P := Tryz.prog) w 22 38 i _ Tryz.underlying22 hi hz0 .i64 .i64 (n : Int) (n : Int) (by omega) (by omega) (by rw [hz2]; omega) (by omega)
  rw [hz1] at h
  simpa using h
end Go.Proofs.YtgjbnbojjgbmcaaGreat.Bags

namespace Go.Proofs.YtgjbnbojjgbmcaaGreat.Edits
open Go.RowKit Go.WideShapes Stamp Go.Proofs.YtgjbnbojjgbmcaaGreat.Place Ops Codes Bags Marks Homes Covers Views
theorem apart_trans {B H : Nat} {w w1 w2 : World} (h1 : Clocks.Apart B H w w1) (h2 : Clocks.Apart B H w1 w2) : Clocks.Apart B H w w2 :=
  ⟨h1.1.trans h2.1, fun j hj hw => (h2.2 j hj (Nat.lt_of_lt_of_le hw h1.1.size)).trans (h1.2 j hj hw)⟩
theorem apart_below {B H : Nat} {w w1 w2 : World} (h1 : Clocks.Apart B H w w1) (h2 : Below w1.heap.size w1 w2) (hB : B ≤ w.heap.size) : Clocks.Apart B H w w2 :=
  apart_trans h1 (Clocks.Apart.of h2 (Nat.le_trans hB h1.1.size))
/-- The first ones laid in a row at a block. -/
def Laid (H g : Nat) (Z : List Value) (O : Nat → Opn) (j : Nat) (wr : World) : Prop :=
  ∃ A, HoldP wr H A ((List.range j).map O) ∧ wr.heap[g]? = some (.cells (A ++ Z.drop (j * 5)).toArray 38 (0, 0))
theorem laid_len {H j : Nat} {O : Nat → Opn} {A : List Value} {wr : World} (h : HoldP wr H A ((List.range j).map O)) : A.length = j * 5 := by
  rw [h.len, List.length_map, List.length_range]
theorem laid_apart {B H g j : Nat} {Z : List Value} {O : Nat → Opn} {w w' : World} (h : Laid H g Z O j w) (hg : H ≤ g) (ha : Clocks.Apart B H w w') : Laid H g Z O j w' := by
  obtain ⟨A, h1, h2⟩ := h
  exact ⟨A, holdP_apart ha h1, by rw [ha.2 g hg (Array.getElem?_eq_some_iff.1 h2).1]; exact h2⟩
theorem laid_five {H g j n : Nat} {Z : List Value} {O : Nat → Opn} {w : World} (hZ : Z.length = n * 5) (hj : j < n) (h : Laid H g Z O j w) :
    ∃ c0 c1 c2 c3 c4, FiveAt w g (j * 5) c0 c1 c2 c3 c4 := by
  obtain ⟨A, h1, h2⟩ := h
  have hl := laid_len h1
  have hc : ∀ i, i < 5 → ∃ c, w.cell? ⟨g, j * 5 + i, none⟩ = some c := fun i hi => by
    rw [cell_of_row w g (j * 5 + i) _ _ _ h2]
    have hlt : j * 5 + i < (A ++ Z.drop (j * 5)).toArray.size := by simp [hl, hZ]; omega
    exact ⟨_, Array.getElem?_eq_getElem hlt⟩
  obtain ⟨c0, e0⟩ := hc 0 (by decide)
  obtain ⟨c1, e1⟩ := hc 1 (by decide)
  obtain ⟨c2, e2⟩ := hc 2 (by decide)
  obtain ⟨c3, e3⟩ := hc 3 (by decide)
  obtain ⟨c4, e4⟩ := hc 4 (by decide)
  exact ⟨c0, c1, c2, c3, c4, (Array.getElem?_eq_some_iff.1 h2).1, e0, e1, e2, e3, e4⟩
theorem laid_free {H g j : Nat} {Z : List Value} {O : Nat → Opn} {w : World} (h : Laid H g Z O j w) (o : Nat) : w.frozen? ⟨g, o, none⟩ = false := by
  obtain ⟨A, _, h2⟩ := h
  exact free5 h2 o
theorem laid_step {B H g j n : Nat} {Z : List Value} {O : Nat → Opn} {wr X : World} {u : Value} {x : Opn} (hZ : Z.length = n * 5) (hj : j < n) (hx : O j = x) (h : Laid H g Z O j wr) (_hB : B ≤ g)
    (ho : wr.ownsRow H 32 3 u x.pl.length (runs x.pl))
    (hX : X = (((((wr.setCell ⟨g, j * 5, none⟩ (.int .u8 (x.k : Int))).setCell ⟨g, j * 5 + 1, none⟩ (.int .u32 (x.t : Int))).setCell ⟨g, j * 5 + 2, none⟩ (.int .u8 (x.r : Int))).setCell ⟨g, j * 5 + 3, none⟩ u).setCell ⟨g, j * 5 + 4, none⟩ (.int .i64 x.p))) :
    Laid H g Z O (j + 1) X ∧ ∃ cur cs, wr.heap[g]? = some (.cells cur.toArray 38 (0, 0)) ∧ Copied wr g cur (j * 5) cs 38 X := by
  obtain ⟨A, h1, h2⟩ := h
  have hl := laid_len h1
  have hc8 := put5_copied (o := j * 5) (.int .u8 (x.k : Int)) (.int .u32 (x.t : Int)) (.int .u8 (x.r : Int)) u (.int .i64 x.p) h2 (by rw [List.length_append, List.length_drop, hZ, hl]; omega)
  rw [← hX] at hc8
  refine ⟨⟨A ++ [.int .u8 (x.k : Int), .int .u32 (x.t : Int), .int .u8 (x.r : Int), u, .int .i64 x.p], ?_, ?_⟩, _, _, h2, hc8⟩
  · rw [List.range_succ, List.map_append, List.map_singleton, hx]
    exact HoldP.append (HoldP.copied h2 hc8 h1) ⟨u, [], rfl, own_copied ho h2 (by decide) hc8, rfl⟩
  · rw [hc8.1]
    congr 3
    unfold splice
    rw [List.take_append_of_le_length (by omega), List.take_of_length_le (by omega), List.append_assoc]
    congr 2
    rw [List.drop_append, List.drop_eq_nil_of_le (by simp; omega), List.nil_append, List.drop_drop]
    congr 1
    simp; omega
theorem apart_copied {B H g o : Nat} {w W X : World} {cur cs : List Value} {e : TypeId} (h : Clocks.Apart B H w W) (hg : w.heap.size ≤ g) (hB : B ≤ g) (hc : Copied W g cur o cs e X) : Clocks.Apart B H w X :=
  ⟨h.1.trans (hc.2.2.2 B hB), fun j hj hw => (hc.2.1 j (by omega)).trans (h.2 j hj hw)⟩
/-- What a call that makes operations one by one answers. -/
def DoneX (t n : Nat) (O : Nat → Opn) (E : Nat → Int) (B H : Nat) (w : World) (e : Ending) (w' : World) : Prop :=
  ∃ v x L, e = .returned (.tuple #[v, .int .i64 x]) ∧ OwnL w' H v L ∧ Clocks.Apart B H w w' ∧
    ((1073741824 < t + n ∧ x = 50 ∧ L = []) ∨ (t + n ≤ 1073741824 ∧ ∃ j, j < n ∧ (∀ i, i < j → E i = 0) ∧ E j ≠ 0 ∧ x = E j ∧ L = []) ∨ (t + n ≤ 1073741824 ∧ (∀ i, i < n → E i = 0) ∧ x = 0 ∧ L = (List.range n).map O))
end Go.Proofs.YtgjbnbojjgbmcaaGreat.Edits

namespace Go.Proofs.YtgjbnbojjgbmcaaGreat.Edits
open Go.RowKit Go.WideShapes Stamp Go.Proofs.YtgjbnbojjgbmcaaGreat.Place Ops Codes Bags Marks Homes Covers Views
attribute [local go_sem ↓] Go.wp_at_zero Go.wp_at_succ
attribute [local go_sem] yielded_undef
theorem typed_step (p : List Run) (r t : Nat) (c : Int) (cs : List Int) : typed p r t (c :: cs) = if (und p (mk (t + 1) r)).2 = 0 then (mkO 1 (mk (t + 1) r) (und p (mk (t + 1) r)).1 c :: (typed (und p (mk (t + 1) r)).1 r (t + 1) cs).1, (typed (und p (mk (t + 1) r)).1 r (t + 1) cs).2) else ([], false) := rfl
theorem ints_at {w : World} {ao : Option Addr} {m cap : Nat} {l : List Int} (h : Ints w (.slice ao m cap) l) (k : Nat) (hk : k < l.length) :
    ∃ b off, ao = some ⟨b, off, none⟩ ∧ b < w.heap.size ∧ w.cell? ⟨b, off + k, none⟩ = some (.int .i64 (l[k]'hk)) := by
  obtain ⟨b, off, h1, h2, h3⟩ := h.at k hk
  refine ⟨b, off, h1, h2, ?_⟩
  rw [h3, List.getD_eq_getElem?_getD, List.getElem?_eq_getElem hk]
  rfl
end Go.Proofs.YtgjbnbojjgbmcaaGreat.Edits

namespace Go.Proofs.YtgjbnbojjgbmcaaGreat.Edits
open Go.RowKit Go.WideShapes Stamp Go.Proofs.YtgjbnbojjgbmcaaGreat.Place Ops Codes Bags Marks Homes Covers Views
attribute [local go_sem ↓] Go.wp_at_zero Go.wp_at_succ
attribute [local go_sem] yielded_undef
set_option maxRecDepth 100000 in
set_option maxHeartbeats 8000000 in
theorem eDoneI_any {vc : Value} {cs : List Int} {r t B H pB eB : Nat} {w : World} (O : Nat → Opn) (E : Nat → Int) (St : Nat → World → Prop) (s0 : St 0 w) (s1 : ∀ (j : Nat) (W W' : World), St j W → Below W.heap.size W W' → St j W') (s2 : ∀ (j : Nat) (W X : World) (g o : Nat) (cur cs' : List Value), H ≤ g → W.heap[g]? = some (.cells cur.toArray 38 (0, 0)) → Copied W g cur o cs' 38 X → St j W → St j X) (hn0 : 0 < cs.length) (hn1 : cs.length ≤ 64) (ht : t < 4294967296) (hB : B ≤ H) (hH : H ≤ w.heap.size)
    (hc : ∀ W : World, Clocks.Apart B H w W → Ints W vc cs)
    (hf : ∀ (j : Nat) (W : World), j < cs.length → t + cs.length ≤ 1073741824 → Clocks.Apart B H w W → St j W → Calls Tryz.prog 34 #[.int .i64 (cs.getD j 0), .agg #[.int .u32 ((t : Int) + 1 + (j : Int)), .int .u8 (r : Int)], .pointer (some ⟨pB, 0, none⟩), .pointer (some ⟨eB, 0, none⟩)] W fun e w' => ∃ u, e = .returned (.tuple #[opv (O j) u, .int .i64 (E j)]) ∧ w'.ownsRow H 32 3 u (O j).pl.length (runs (O j).pl) ∧ Clocks.Apart B H W w' ∧ (E j = 0 → St (j + 1) w')) :
    Calls Tryz.prog 33 #[vc, .int .u8 (r : Int), .int .u32 (t : Int), .func (.func 34) #[] #[.pointer (some ⟨pB, 0, none⟩), .pointer (some ⟨eB, 0, none⟩)]] w (DoneX t cs.length O E B H w) := by
  have eg := enters_of Tryz.func34 (by kernel_rfl) rfl
  obtain ⟨N0, hN0⟩ : ∃ x, w.heap.size = x := ⟨_, rfl⟩
  unfold DoneX
  obtain ⟨co, cc, rfl⟩ := (hc w ⟨Below.refl _ _, fun _ _ _ => rfl⟩).shape
  have HC : Hid (∀ W : World, Clocks.Apart B H w W → Ints W (.slice co cs.length cc) cs) := hc
  have HF := Lib.hid hf
  obtain ⟨n, hn⟩ : ∃ n, cs.length = n := ⟨_, rfl⟩
  have HN := Lib.hid hn
  rw [hn] at hn0 hn1 ⊢
  simp only [hn] at HF
  clear hn
  have w5 : IntKind.u32.wrap ((n : Nat) : Int) = ((n : Nat) : Int) := IntWalk.u32_in _ (by omega)
  have w6 : IntKind.u32.wrap ((1073741824 : Int) - ((n : Nat) : Int)) = (1073741824 : Int) - ((n : Nat) : Int) := IntWalk.u32_in _ (by omega)
  clear hc hf
  by_cases hl : 1073741824 < t + n
  · have q1 : decide ((1073741824 : Int) - ((n : Nat) : Int) < (t : Int)) = true := decide_eq_true (by omega)
    have R1 : Hid (Clocks.Apart B H w w) := ⟨Below.refl _ _, fun _ _ _ => rfl⟩
    clear HC HF s0 s1 s2
    go_enter Tryz.func33, Tryz.ntmps33
    go_wp2
    exact bodyPost_ret (v := .tuple #[.slice none 0 0, .int .i64 50]) (by simp [results, Tryz.results33, go_sem]) rfl ⟨_, _, _, rfl, OwnL.nil _ _, R1.out, .inl ⟨hl, rfl, rfl⟩⟩
  have q1 : decide ((1073741824 : Int) - ((n : Nat) : Int) < (t : Int)) = false := decide_eq_false (by omega)
  have hl2 : t + n ≤ 1073741824 := by omega
  obtain ⟨Z, hZ, MK⟩ := made_opsN n (by omega)
  have HZ := Lib.hid hZ
  have mk1 := MK w
  rw [hN0] at mk1
  obtain ⟨wm, hwm⟩ : ∃ x, w.alloc (.cells Z.toArray 38) = x := ⟨_, rfl⟩
  have HWM := Lib.hid hwm
  have BM : Below w.heap.size w wm := by rw [← hwm]; exact (Below.refl _ _).alloc (Nat.le_refl _) _
  have L0 : Hid (Laid H N0 Z O 0 wm) := ⟨[], rfl, by rw [← hwm, ← hN0]; exact blk_new rfl⟩
  have A0 : Hid (Clocks.Apart B H w wm) := Clocks.Apart.of BM (Nat.le_trans hB hH)
  have S0 : Hid (St 0 wm) := s1 0 w wm s0 BM
  have S1 := Lib.hid s1
  have S2 := Lib.hid s2
  rw [hN0] at hH
  have HN0 := Lib.hid hN0
  have E0 : Hid (∀ i, i < 0 → E i = 0) := fun i h => absurd h (Nat.not_lt_zero i)
  clear hZ MK BM hwm s0 s1 s2
  go_enter Tryz.func33, Tryz.ntmps33
  go_wp2
  rw [HWM.out]
  go_loopw [8, 23] (fun v8 i wr => ∃ j : Nat, j ≤ n ∧ v8 = .slice (some ⟨N0, 0, none⟩) n n ∧ i = .int .i64 (j : Int) ∧ Hid (Laid H N0 Z O j wr) ∧ Hid (Clocks.Apart B H w wr) ∧ Hid (St j wr) ∧ Hid (∀ i, i < j → E i = 0)) (fun _ i _ => n - (intOf i).toNat)
  case atStart => exact ⟨0, by omega, rfl, rfl, L0, A0, S0, E0⟩
  case round =>
    clear L0 A0 E0 S0
    obtain ⟨j, hj, rfl, rfl, hlaid, hap, hst, hez⟩ := hrel
    by_cases hjn : j < n
    rotate_left
    · have q3 : decide (j < n) = false := by simpa using hjn
      obtain rfl : j = n := by omega
      have R1 : Hid (OwnL wr H (.slice (some ⟨N0, 0, none⟩) j j) ((List.range j).map O)) := by
        obtain ⟨A, h1, h2⟩ := hlaid.out
        exact ownl_row h2 hH h1 (by simp) (by rw [List.length_append, List.length_drop, HZ.out, laid_len h1]; omega) (by unfold maxLen; omega)
      clear hlaid
      go_wp2
      exact bodyPost_ret (v := .tuple #[.slice (some ⟨N0, 0, none⟩) j j, .int .i64 0]) (by simp [results, Tryz.results33, go_sem]) rfl ⟨_, _, _, rfl, R1.out, hap.out, .inr (.inr ⟨hl2, hez.out, rfl, rfl⟩)⟩
    have q3 : decide (j < n) = true := by simpa using hjn
    have q4 : (0 : Int) ≤ (j : Int) := by omega
    have q5 : (j : Int) < (n : Int) := by omega
    have w1 : IntKind.u32.wrap (j : Int) = (j : Int) := IntWalk.u32_in _ (by omega)
    have w2 : IntKind.u32.wrap ((t : Int) + 1) = (t : Int) + 1 := IntWalk.u32_in _ (by omega)
    have w3 : IntKind.u32.wrap ((t : Int) + 1 + (j : Int)) = (t : Int) + 1 + (j : Int) := IntWalk.u32_in _ (by omega)
    have hjl : j < cs.length := by rw [HN.out]; exact hjn
    have hx0 := HC.out wr hap.out
    rw [HN.out] at hx0
    obtain ⟨bb, oo, e, hbb, hx⟩ := ints_at hx0 j hjl
    subst e
    have CH := HF.out j wr hjn hl2 hap.out hst.out
    rw [List.getD_eq_getElem?_getD, List.getElem?_eq_getElem hjl, Option.getD_some] at CH
    obtain ⟨c, hcc⟩ : ∃ c, cs[j]'hjl = c := ⟨_, rfl⟩
    rw [hcc] at CH hx
    have CH := Lib.hid CH
    clear hcc hx0 hjl
    obtain ⟨o, ho⟩ : ∃ o, O j = o := ⟨_, rfl⟩
    obtain ⟨x, hx5⟩ : ∃ x, E j = x := ⟨_, rfl⟩
    rw [ho, hx5] at CH
    have HO : Hid (∀ v : Value, opv o v = .agg #[.int .u8 (o.k : Int), .int .u32 (o.t : Int), .int .u8 (o.r : Int), v, .int .i64 o.p]) := fun v => rfl
    have ST : Hid (∀ (W X : World) (u : Value), Clocks.Apart B H wr W → W.ownsRow H 32 3 u o.pl.length (runs o.pl) → (x = 0 → St (j + 1) W) → X = (((((W.setCell ⟨N0, j * 5, none⟩ (.int .u8 (o.k : Int))).setCell ⟨N0, j * 5 + 1, none⟩ (.int .u32 (o.t : Int))).setCell ⟨N0, j * 5 + 2, none⟩ (.int .u8 (o.r : Int))).setCell ⟨N0, j * 5 + 3, none⟩ u).setCell ⟨N0, j * 5 + 4, none⟩ (.int .i64 o.p)) →
        Laid H N0 Z O (j + 1) X ∧ Clocks.Apart B H w X ∧ (x = 0 → St (j + 1) X)) := fun W X u ha hu hs hX => by
      have hl9 := laid_apart hlaid.out hH ha
      obtain ⟨h1, cur, cs9, h2, h3⟩ := laid_step (B := B) HZ.out hjn ho hl9 (by omega) hu hX
      exact ⟨h1, apart_copied (apart_trans hap.out ha) (by rw [HN0.out]; omega) (by omega) h3, fun h => S2.out _ _ _ _ _ _ _ hH h2 h3 (hs h)⟩
    have FV : Hid (∀ W : World, Clocks.Apart B H wr W → (∃ c0 c1 c2 c3 c4, FiveAt W N0 (j * 5) c0 c1 c2 c3 c4) ∧ ∀ q, W.frozen? ⟨N0, q, none⟩ = false) := fun W ha => by
      have hl9 := laid_apart hlaid.out hH ha
      exact ⟨laid_five HZ.out hjn hl9, fun q => laid_free hl9 q⟩
    have EZ := Lib.hid hx5
    obtain ⟨ok, hk⟩ : ∃ z, o.k = z := ⟨_, rfl⟩
    obtain ⟨ot, hot⟩ : ∃ z, o.t = z := ⟨_, rfl⟩
    obtain ⟨or, hor⟩ : ∃ z, o.r = z := ⟨_, rfl⟩
    obtain ⟨op, hop⟩ : ∃ z, o.p = z := ⟨_, rfl⟩
    rw [hk, hot, hor, hop] at HO ST
    simp only [HO.out] at CH
    clear HO hk hot hor hop hx5 ho
    by_cases hx0 : x = 0
    · subst hx0
      go_wp2_with fail
      refine CH.out.mono ?_
      rintro e w5 ⟨u5, rfl, o5, a5, s5⟩
      obtain ⟨vo, vc5, rfl⟩ : ∃ ao cap, u5 = .slice ao o.pl.length cap := Sees.shape (Sees.own o5)
      have O5 := Lib.hid o5
      have A5 := Lib.hid a5
      have S5 := Lib.hid s5
      obtain ⟨⟨c0, c1, c2, c3, c4, hsz, g0, g1, g2, g3, g4⟩, hfr⟩ := FV.out w5 a5
      obtain ⟨no, hno⟩ : ∃ z, o.pl.length = z := ⟨_, rfl⟩
      rw [hno] at O5 ⊢
      have SX := Lib.hid (fun X h => ST.out w5 X _ A5.out (by rw [hno]; exact O5.out) S5.out h)
      clear o5 a5 CH hno s5 hx
      go_wp2
      obtain ⟨X, hX⟩ : ∃ X, X = (((((w5.setCell ⟨N0, j * 5, none⟩ (.int .u8 (ok : Int))).setCell ⟨N0, j * 5 + 1, none⟩ (.int .u32 (ot : Int))).setCell ⟨N0, j * 5 + 2, none⟩ (.int .u8 (or : Int))).setCell ⟨N0, j * 5 + 3, none⟩ (.slice vo no vc5)).setCell ⟨N0, j * 5 + 4, none⟩ (.int .i64 op)) := ⟨_, rfl⟩
      have SY := SX.out X hX
      try rw [← hX]
      clear hX SX
      have TX := Lib.hid SY.1
      have AX := Lib.hid SY.2.1
      have SXX := Lib.hid (SY.2.2 (by simp))
      have EX : Hid (∀ i, i < j + 1 → E i = 0) := fun i hi => by
        by_cases h : i < j
        · exact hez.out i h
        · obtain rfl : i = j := by omega
          exact EZ.out
      clear SY
      go_roundw
      case rel => exact ⟨j + 1, by omega, rfl, by go_num, TX, AX, SXX, EX⟩
      case measure => simp [intOf]; omega
    · have q6 : (x != 0) = true := by simpa using hx0
      have q7 : decide (x = 0) = false := decide_eq_false hx0
      go_wp2_with fail
      refine CH.out.mono ?_
      rintro e w5 ⟨u5, rfl, o5, a5, s5⟩
      obtain ⟨vo, vc5, rfl⟩ : ∃ ao cap, u5 = .slice ao o.pl.length cap := Sees.shape (Sees.own o5)
      have O5 := Lib.hid o5
      have A5 := Lib.hid a5
      have S5 := Lib.hid s5
      obtain ⟨⟨c0, c1, c2, c3, c4, hsz, g0, g1, g2, g3, g4⟩, hfr⟩ := FV.out w5 a5
      obtain ⟨no, hno⟩ : ∃ z, o.pl.length = z := ⟨_, rfl⟩
      rw [hno] at O5 ⊢
      have SX := Lib.hid (fun X h => ST.out w5 X _ A5.out (by rw [hno]; exact O5.out) S5.out h)
      clear o5 a5 CH hno s5 hx
      go_wp2
      obtain ⟨X, hX⟩ : ∃ X, X = (((((w5.setCell ⟨N0, j * 5, none⟩ (.int .u8 (ok : Int))).setCell ⟨N0, j * 5 + 1, none⟩ (.int .u32 (ot : Int))).setCell ⟨N0, j * 5 + 2, none⟩ (.int .u8 (or : Int))).setCell ⟨N0, j * 5 + 3, none⟩ (.slice vo no vc5)).setCell ⟨N0, j * 5 + 4, none⟩ (.int .i64 op)) := ⟨_, rfl⟩
      have SY := SX.out X hX
      try rw [← hX]
      clear hX SX
      have AX := Lib.hid SY.2.1
      clear SY
      exact bodyPost_ret (v := .tuple #[.slice none 0 0, .int .i64 x]) (by simp [results, Tryz.results33, go_sem]) rfl ⟨_, _, _, rfl, OwnL.nil _ _, AX.out, .inr (.inl ⟨hl2, j, hjn, hez.out, by rw [EZ.out]; exact hx0, EZ.out.symm, rfl⟩)⟩
end Go.Proofs.YtgjbnbojjgbmcaaGreat.Edits

namespace Go.Proofs.YtgjbnbojjgbmcaaGreat.Edits
open Go.RowKit Go.WideShapes Stamp Go.Proofs.YtgjbnbojjgbmcaaGreat.Place Ops Codes Bags Marks Homes Covers Views
attribute [local go_sem ↓] Go.wp_at_zero Go.wp_at_succ
attribute [local go_sem] yielded_undef
theorem pr_pts {T : List UInt8} (h : (Point.pr T).2 = 0) (c : Int) (hc : c ∈ (Point.pr T).1) : Point.IsPt c := by
  unfold Point.pr at h hc
  cases e : Point.pts T with
  | none => rw [e] at h; cases h
  | some L =>
    rw [e] at h hc
    by_cases h2 : L.length ≤ 1024
    · simp only [if_pos h2] at hc
      exact (Point.pts_some e).1 c hc
    · simp only [if_neg h2] at h
      cases h
theorem pr_len (T : List UInt8) (h : (Point.pr T).2 = 0) : ∀ c ∈ (Point.pr T).1, -9223372036854775808 ≤ c ∧ c ≤ 9223372036854775807 := fun c hc => by
  have := pr_pts h c hc
  obtain ⟨h1, h2, _⟩ := this
  omega
end Go.Proofs.YtgjbnbojjgbmcaaGreat.Edits
