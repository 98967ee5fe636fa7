/- octavo/anchor.Make, Find: what each answers. Conditions: the slices' cells are operations, runs. -/
import Derived.Test.YtmiepnnpccpicaaGreatChecked
import Derived.WalkKit
import Derived.WalkSpells
import Derived.WalkLawsBesides
import Derived.Laws.BytesArg
import Derived.Lib.Hide
import Derived.Deep.LoopGhost
import Derived.Laws.AppendOwnNone
import Derived.Laws.OwnMore
import Derived.WideShapes
import Derived.Maps.AppendAt
import Derived.RegionTactic
import Derived.Deep.RegionHeld3
import Derived.Deep.DrawnRows
import Derived.Deep.QuietTactic
import Derived.BigQuiet
import Derived.IntWalk
import Derived.Deep.DeepCutAuto
import Derived.ScopeJumps
import Derived.Test.YtmiepnnpccpicaaGreatProg
import Derived.LoopTactic
import Derived.Laws.EntriesVeiled
import Derived.RowKit
import Derived.Lib.DecodeN
import Derived.Lib.RuneBytes
import Derived.Shelf.Abstract
import Derived.Shelf.SlSortCmp.InsertionK
import Derived.Calls
import Derived.StepT
import Derived.Below
import Derived.Sort.Grow
import Derived.Deep.Draws
import Derived.Shelf.SlLaysF0
import Derived.Shelf.SlSortCmp.NoneTotal
import Derived.Maps.Own
import Derived.Maps.OwnOps
import Derived.Maps.OwnSet
import Derived.Maps.Views
import Derived.DeepKeys4
import Derived.RangeFuncBox
import Derived.RangeFuncLeaves
import Derived.RangeFuncNested
import Derived.RangeFuncBound
import Derived.RangeFuncCalls
import Derived.OwnWalkIn
import Derived.TacticsInMore
import Derived.LoopNIn
import Derived.LoopIn
import Derived.Scope
import Derived.Lib.Tables
import Derived.Laws.Bits64
import Derived.Test.YtmiepnnpccpicaaGreatShelf
import Derived.Lib.OthersKept
import Derived.BigCall
import Derived.Defers
import Derived.Test.YtmiepnnpccpicaaGreatPk05
import Derived.Test.YtmiepnnpccpicaaGreatPk04
import Derived.Test.YtmiepnnpccpicaaGreatPk03
import Derived.Test.YtmiepnnpccpicaaGreatPk02
import Derived.Test.YtmiepnnpccpicaaGreatPk01
import Derived.Test.YtmiepnnpccpicaaGreatPk08
import Derived.Test.YtmiepnnpccpicaaGreatPk06
import Derived.Test.YtmiepnnpccpicaaGreatPk07
import Derived.Test.YtmiepnnpccpicaaGreatPk10
import Derived.Test.YtmiepnnpccpicaaGreatPk09

namespace Go.Proofs.YtmiepnnpccpicaaGreat.Anchors
open Go.RowKit Go.WideShapes Stamp Go.Proofs.YtmiepnnpccpicaaGreat.Place Ops Codes Bags Marks Homes Covers Views
attribute [local go_sem ↓] Go.wp_at_zero Go.wp_at_succ
attribute [local go_sem] yielded_undef
theorem makeD_zero (b c : Nat) {u : FrameMode} {w : World} (he : w.cell? ⟨b, 0, none⟩ = some (.int .i64 0)) :
    CallsD Tryz.prog 18 #[.pointer (some ⟨b, 0, none⟩), .pointer (some ⟨c, 0, none⟩)] u w fun e u' w' => u' = u ∧ (e = .returned (.tuple #[]) ∧ w' = w) := by
  go_enter_d Tryz.func18, Tryz.ntmps18
  go_wp2
  go_end0
  exact ⟨rfl, rfl⟩
theorem makeD_err (b c : Nat) {x : Int} (hx : x ≠ 0) {y : Value} {u : FrameMode} {w : World} (he : w.cell? ⟨b, 0, none⟩ = some (.int .i64 x)) (hc : w.cell? ⟨c, 0, none⟩ = some y) (hf : w.frozen? ⟨c, 0, none⟩ = false) :
    CallsD Tryz.prog 18 #[.pointer (some ⟨b, 0, none⟩), .pointer (some ⟨c, 0, none⟩)] u w fun e u' w' => u' = u ∧ (e = .returned (.tuple #[]) ∧ w' = w.setCell ⟨c, 0, none⟩ (.slice none 0 0)) := by
  have q0 : (x != 0) = true := by simpa using hx
  have q1 : decide (x = 0) = false := decide_eq_false hx
  go_enter_d Tryz.func18, Tryz.ntmps18
  go_wp2
  go_end0
  exact ⟨rfl, rfl⟩
theorem findD_zero (b c d : Nat) {u : FrameMode} {w : World} (he : w.cell? ⟨b, 0, none⟩ = some (.int .i64 0)) :
    CallsD Tryz.prog 22 #[.pointer (some ⟨b, 0, none⟩), .pointer (some ⟨c, 0, none⟩), .pointer (some ⟨d, 0, none⟩)] u w fun e u' w' => u' = u ∧ (e = .returned (.tuple #[]) ∧ w' = w) := by
  go_enter_d Tryz.func22, Tryz.ntmps22
  go_wp2
  go_end0
  exact ⟨rfl, rfl⟩
theorem findD_err (b c d : Nat) (hcd : c ≠ d) {x : Int} (hx : x ≠ 0) {y0 y1 z : Value} {u : FrameMode} {w : World} (he : w.cell? ⟨b, 0, none⟩ = some (.int .i64 x)) (hc : w.cell? ⟨c, 0, none⟩ = some y0) (hc1 : w.cell? ⟨c, 1, none⟩ = some y1) (hf : ∀ o, w.frozen? ⟨c, o, none⟩ = false) (hd : w.cell? ⟨d, 0, none⟩ = some z) (hg : w.frozen? ⟨d, 0, none⟩ = false) :
    CallsD Tryz.prog 22 #[.pointer (some ⟨b, 0, none⟩), .pointer (some ⟨c, 0, none⟩), .pointer (some ⟨d, 0, none⟩)] u w fun e u' w' => u' = u ∧ (e = .returned (.tuple #[]) ∧ w' = (put2 w c (.int .u32 0) (.int .u8 0)).setCell ⟨d, 0, none⟩ (.int .i64 0)) := by
  have q0 : (x != 0) = true := by simpa using hx
  have q1 : decide (x = 0) = false := decide_eq_false hx
  have hd2 : ((w.setCell ⟨c, 0, none⟩ (.int .u32 0)).setCell ⟨c, 1, none⟩ (.int .u8 0)).cell? ⟨d, 0, none⟩ = some z := by
    rw [World.cell?_setCell_other _ ⟨c, 1, none⟩ ⟨d, 0, none⟩ _ (by intro h; cases h), World.cell?_setCell_other _ ⟨c, 0, none⟩ ⟨d, 0, none⟩ _ (by intro h; cases h; exact hcd rfl)]
    exact hd
  unfold put2
  go_enter_d Tryz.func22, Tryz.ntmps22
  go_wp2
  go_end0
  exact ⟨rfl, rfl⟩
set_option maxRecDepth 100000 in
set_option maxHeartbeats 4000000 in
theorem aMake_any {v : Value} {l : List Opn} (s : Id) (k : Int) {w : World} (hv : OpL w v l) : Calls Tryz.prog 7 #[v, .agg #[.int .u32 (s.t : Int), .int .u8 (s.r : Int)], .int .i64 k] w (OneP (makeP l s k) (atE l s k) w) := by
  have hmf : ∀ (fn : Fn) (first cap : Array Value) (w : World), (Instr.makeFunc fn first cap).run Tryz.prog w = .ok (.func fn first cap) w := fun _ _ _ _ => rfl
  obtain ⟨wa, hwa⟩ : ∃ x, x = w.alloc (.cells #[.int .u32 (s.t : Int), .int .u8 (s.r : Int)] 25) := ⟨_, rfl⟩
  obtain ⟨wb, hwb⟩ : ∃ x, x = wa.alloc (.cells #[.slice none 0 0] 26) := ⟨_, rfl⟩
  obtain ⟨wl, hwl⟩ : ∃ x, x = wb.alloc (.cells #[.int .i64 0] 29) := ⟨_, rfl⟩
  have hsa : wa.heap.size = w.heap.size + 1 := by rw [hwa]; exact Array.size_push _
  have hsb : wb.heap.size = w.heap.size + 1 + 1 := by rw [hwb]; exact (Array.size_push _).trans (by rw [hsa])
  have Ba : Below w.heap.size w wa := by rw [hwa]; exact (Below.refl _ _).alloc (Nat.le_refl _) _
  have Bab : Below wa.heap.size wa wb := by rw [hwb]; exact (Below.refl _ _).alloc (Nat.le_refl _) _
  have Bbl : Below wb.heap.size wb wl := by rw [hwl]; exact (Below.refl _ _).alloc (Nat.le_refl _) _
  have B0 : Hid (Below w.heap.size w wl) := bt Ba (bt Bab Bbl)
  have Y0 : Hid (wl.heap[w.heap.size]? = some (.cells #[.int .u32 (s.t : Int), .int .u8 (s.r : Int)] 25)) := by
    refine blk_below Bbl (blk_below Bab ?_)
    rw [hwa]; exact blk_new rfl
  have P0 : Hid (wl.heap[w.heap.size + 1]? = some (.cells #[.slice none 0 0] 26)) := by
    refine blk_below Bbl ?_
    rw [hwb, ← hsa]; exact blk_new rfl
  have E0 : Hid (wl.heap[w.heap.size + 1 + 1]? = some (.cells #[.int .i64 0] 29)) := by
    rw [hwl, ← hsb]; exact blk_new rfl
  have HW : Hid (wl = ((w.alloc (.cells #[.int .u32 (s.t : Int), .int .u8 (s.r : Int)] 25)).alloc (.cells #[.slice none 0 0] 26)).alloc (.cells #[.int .i64 0] 29)) := by rw [hwl, hwb, hwa]; rfl
  have AT : Hid (Calls Tryz.prog 19 #[v, .agg #[.int .u32 (s.t : Int), .int .u8 (s.r : Int)], .int .i64 k] wl (OneE (atL l s k) (atE l s k) wl)) := vAt_any s k (hv.keeps B0.out)
  have HL : Hid (atE l s k ≠ 0 → makeP l s k = []) := fun h => make_no h
  have hMP : makeP l s k = (atL l s k).pl := rfl
  rw [hMP] at HL ⊢
  clear hv hwa hwb hwl hsa hsb Ba Bab Bbl hMP
  obtain ⟨y, hy⟩ : ∃ y, atL l s k = y := ⟨_, rfl⟩
  obtain ⟨x, hx⟩ : ∃ x, atE l s k = x := ⟨_, rfl⟩
  rw [hy, hx] at AT HL ⊢
  clear hy hx
  obtain ⟨ts, rs, hts, hrs⟩ := s
  obtain ⟨yk, t, r, yl, p, hyk, ht, hr, hp⟩ := y
  simp only at Y0 HW AT HL ⊢
  obtain ⟨d0, d1⟩ := cells_blk Y0.out
  unfold OneE elv at AT
  simp only at AT
  go_enter_defers Tryz.func7, Tryz.ntmps7
  go_wp2_with fail
  rw [← HW.out]
  refine AT.out.mono ?_
  rintro e w1 ⟨vt, rfl, o1, b1⟩
  obtain ⟨uo, uc, rfl⟩ := Sees.shape (Sees.own o1)
  have B1 := Lib.hid (bt B0.out b1)
  have P1 := Lib.hid (blk_below b1 P0.out)
  have E1 := Lib.hid (blk_below b1 E0.out)
  have O1 := Lib.hid o1
  have hne : w.heap.size + 1 + 1 < w1.heap.size := (Array.getElem?_eq_some_iff.1 E1.out).1
  have hel : w.heap.size + 1 + 1 < wl.heap.size := (Array.getElem?_eq_some_iff.1 E0.out).1
  clear b1 P0 E0 o1 Y0 B0 HW AT d0 d1
  obtain ⟨n, hn⟩ : ∃ n, yl.length = n := ⟨_, rfl⟩
  have HN := Lib.hid hn
  rw [hn] at O1 ⊢
  clear hn
  have hq1 : ¬ (w.heap.size + 1 + 1 = w1.heap.size) := by omega
  have hq2 : ¬ (w1.heap.size = w.heap.size + 1 + 1) := by omega
  have ce1 := cell_of_row _ _ 0 _ _ _ E1.out
  have fe1 := free4 E1.out
  have E2 := heap_setCell_same _ (w.heap.size + 1 + 1) 0 _ _ (.int .i64 x) E1.out
  simp only [List.setIfInBounds_toArray, List.set_cons_zero] at E2
  have P2 := (heap_setCell_other w1 ⟨w.heap.size + 1 + 1, 0, none⟩ (w.heap.size + 1) (.int .i64 x) (by show w.heap.size + 1 ≠ w.heap.size + 1 + 1; omega)).trans P1.out
  have B2 : Below w.heap.size w (w1.setCell ⟨w.heap.size + 1 + 1, 0, none⟩ (.int .i64 x)) := B1.out.setCell (p := ⟨w.heap.size + 1 + 1, 0, none⟩) (by show _ ≤ w.heap.size + 1 + 1; omega) _
  have O2 : (w1.setCell ⟨w.heap.size + 1 + 1, 0, none⟩ (.int .i64 x)).ownsRow wl.heap.size 40 3 (.slice uo n uc) n (runs yl) := ownsRow_setCell_below O1.out (by show w.heap.size + 1 + 1 < wl.heap.size; exact hel) _
  have hs2 : (w1.setCell ⟨w.heap.size + 1 + 1, 0, none⟩ (.int .i64 x)).heap.size = w1.heap.size := by simp
  obtain ⟨w2, hw2⟩ : ∃ z, w1.setCell ⟨w.heap.size + 1 + 1, 0, none⟩ (.int .i64 x) = z := ⟨_, rfl⟩
  rw [hw2] at E2 P2 B2 O2 hs2
  obtain ⟨WY, hWY⟩ : ∃ z, w2.alloc (.cells #[.int .u32 (t : Int), .int .u8 (r : Int), .slice uo n uc, .int .i64 p] 53) = z := ⟨_, rfl⟩
  have BY : Below w2.heap.size w2 WY := by rw [← hWY]; exact (Below.refl _ _).alloc (Nat.le_refl _) _
  have X5 : Hid (WY.heap[w1.heap.size]? = some (.cells #[.int .u32 (t : Int), .int .u8 (r : Int), .slice uo n uc, .int .i64 p] 53)) := by rw [← hWY, ← hs2]; exact blk_new rfl
  have E5 := Lib.hid (blk_below BY E2)
  have P5 := Lib.hid (blk_below BY P2)
  have B5 := Lib.hid (bt B2 BY)
  have O5 := Lib.hid (own_stays O2 BY)
  rw [← hw2] at hWY
  have HX := Lib.hid hWY
  clear hWY hw2 BY E2 P2 B2 O2 hs2 P1 E1 B1 O1
  go_upto_region 3 with fail
  rw [HX.out]
  clear ce1 fe1 hq1 hq2 HX
  obtain ⟨c0, c1, c2, c3⟩ := cells4 X5.out
  have ep := cell_of_row _ _ 0 _ _ _ P5.out
  have ee := cell_of_row _ _ 0 _ _ _ E5.out
  have fp := free4 P5.out
  have fe := free4 E5.out
  have ee2 : (WY.setCell ⟨w.heap.size + 1, 0, none⟩ (.slice uo n uc)).cell? ⟨w.heap.size + 1 + 1, 0, none⟩ = some (.int .i64 x) := (World.cell?_setCell_other _ _ _ _ (by simp)).trans ee
  go_region
  all_goals go_wp2
  clear c0 c1 c2 c3 ep ee fp fe ee2 X5
  have P6 := heap_setCell_same _ (w.heap.size + 1) 0 _ _ (.slice uo n uc) P5.out
  simp only [List.setIfInBounds_toArray, List.set_cons_zero] at P6
  have P7 := (heap_setCell_other (WY.setCell ⟨w.heap.size + 1, 0, none⟩ (.slice uo n uc)) ⟨w.heap.size + 1 + 1, 0, none⟩ (w.heap.size + 1) (.int .i64 x) (by show w.heap.size + 1 ≠ w.heap.size + 1 + 1; omega)).trans P6
  have E6 := (heap_setCell_other WY ⟨w.heap.size + 1, 0, none⟩ (w.heap.size + 1 + 1) (.slice uo n uc) (by show w.heap.size + 1 + 1 ≠ w.heap.size + 1; omega)).trans E5.out
  have E7 := heap_setCell_same _ (w.heap.size + 1 + 1) 0 _ _ (.int .i64 x) E6
  simp only [List.setIfInBounds_toArray, List.set_cons_zero] at E7
  have B7 : Below w.heap.size w ((WY.setCell ⟨w.heap.size + 1, 0, none⟩ (.slice uo n uc)).setCell ⟨w.heap.size + 1 + 1, 0, none⟩ (.int .i64 x)) := (B5.out.setCell (p := ⟨w.heap.size + 1, 0, none⟩) (by show _ ≤ w.heap.size + 1; omega) _).setCell (p := ⟨w.heap.size + 1 + 1, 0, none⟩) (by show _ ≤ w.heap.size + 1 + 1; omega) _
  have O7 : ((WY.setCell ⟨w.heap.size + 1, 0, none⟩ (.slice uo n uc)).setCell ⟨w.heap.size + 1 + 1, 0, none⟩ (.int .i64 x)).ownsRow wl.heap.size 40 3 (.slice uo n uc) n (runs yl) := ownsRow_setCell_below (ownsRow_setCell_below O5.out (by show w.heap.size + 1 < wl.heap.size; omega) _) (by show w.heap.size + 1 + 1 < wl.heap.size; exact hel) _
  generalize ((WY.setCell ⟨w.heap.size + 1, 0, none⟩ (.slice uo n uc)).setCell ⟨w.heap.size + 1 + 1, 0, none⟩ (.int .i64 x)) = WZ at P7 E7 B7 O7 ⊢
  have BD := drew1 WZ
  have P8 := blk_below BD P7
  have E8 := blk_below BD E7
  have B8 := bt B7 BD
  have O8 := own_stays O7 BD
  generalize WZ.drew = W8 at P8 E8 B8 O8 ⊢
  have ep := cell_of_row _ _ 0 _ _ _ P8
  have ee := cell_of_row _ _ 0 _ _ _ E8
  have fp := free4 P8
  refine leaves_cons (f := 18) (args := #[.pointer (some ⟨w.heap.size + 1 + 1, 0, none⟩), .pointer (some ⟨w.heap.size + 1, 0, none⟩)]) (by simp) (by simp [go_sem]) ?_
  by_cases hx : x = 0
  · subst hx
    refine (makeD_zero _ _ ee).mono ?_
    rintro e u' w'' ⟨rfl, rfl, rfl⟩
    refine ⟨.tuple #[.slice uo n uc, .int .i64 0], by simp [results, Tryz.results7, go_sem, ep, ee], ?_⟩
    exact ⟨_, rfl, by rw [HN.out]; exact op_base O8 (by omega), B8⟩
  · refine (makeD_err _ _ hx ee ep (fp 0)).mono ?_
    rintro e u' w'' ⟨rfl, rfl, rfl⟩
    have ep2 := World.cell?_setCell_same W8 ⟨w.heap.size + 1, 0, none⟩ (.slice none 0 0) ep
    have ee2 : (W8.setCell ⟨w.heap.size + 1, 0, none⟩ (.slice none 0 0)).cell? ⟨w.heap.size + 1 + 1, 0, none⟩ = some (.int .i64 x) := (World.cell?_setCell_other _ _ _ _ (by simp)).trans ee
    refine ⟨.tuple #[.slice none 0 0, .int .i64 x], by simp [results, Tryz.results7, go_sem, ep2, ee2], ?_⟩
    rw [HL.out hx]
    exact ⟨_, rfl, World.ownsRow_nil _ _ _ _, B8.setCell (p := ⟨w.heap.size + 1, 0, none⟩) (by show _ ≤ w.heap.size + 1; omega) _⟩
/-- The named results' variables: a stamp, a number, an error. -/
def Cel (W : World) (b : Nat) (t r k x : Value) : Prop := W.heap[b]? = some (.cells #[t, r] 25) ∧ W.heap[b + 1]? = some (.cells #[k] 3) ∧ W.heap[b + 1 + 1]? = some (.cells #[x] 29)
theorem Cel.keeps {W W' : World} {b : Nat} {t r k x : Value} (h : Cel W b t r k x) (hb : Below W.heap.size W W') : Cel W' b t r k x := ⟨blk_below hb h.1, blk_below hb h.2.1, blk_below hb h.2.2⟩
theorem Cel.s {W : World} {b : Nat} {t r k x : Value} (t' r' : Value) (h : Cel W b t r k x) : Cel ((W.setCell ⟨b, 0, none⟩ t').setCell ⟨b, 1, none⟩ r') b t' r' k x :=
  ⟨put2_same t' r' h.1, put2_other t' r' (by omega) h.2.1, put2_other t' r' (by omega) h.2.2⟩
theorem Cel.k {W : World} {b : Nat} {t r k x : Value} (k' : Value) (h : Cel W b t r k x) : Cel (W.setCell ⟨b + 1, 0, none⟩ k') b t r k' x := by
  have h1 := heap_setCell_same W (b + 1) 0 _ _ k' h.2.1
  simp only [List.setIfInBounds_toArray, List.set_cons_zero] at h1
  exact ⟨(heap_setCell_other W ⟨b + 1, 0, none⟩ b k' (by show b ≠ b + 1; omega)).trans h.1, h1, (heap_setCell_other W ⟨b + 1, 0, none⟩ (b + 1 + 1) k' (by show b + 1 + 1 ≠ b + 1; omega)).trans h.2.2⟩
theorem Cel.e {W : World} {b : Nat} {t r k x : Value} (x' : Value) (h : Cel W b t r k x) : Cel (W.setCell ⟨b + 1 + 1, 0, none⟩ x') b t r k x' := by
  have h1 := heap_setCell_same W (b + 1 + 1) 0 _ _ x' h.2.2
  simp only [List.setIfInBounds_toArray, List.set_cons_zero] at h1
  exact ⟨(heap_setCell_other W ⟨b + 1 + 1, 0, none⟩ b x' (by show b ≠ b + 1 + 1; omega)).trans h.1, (heap_setCell_other W ⟨b + 1 + 1, 0, none⟩ (b + 1) x' (by show b + 1 ≠ b + 1 + 1; omega)).trans h.2.1, h1⟩
theorem find_no {l : List Opn} {p : List Run} (h : ¬ (bagB l = true ∧ mayB p = true)) : findS l p = zid ∧ findN l p = 0 ∧ findE l p = 8 := by
  unfold findS findN findE
  rw [if_neg h, if_neg h, if_neg h]
  exact ⟨rfl, rfl, rfl⟩
theorem find_yes {l : List Opn} {p : List Run} (hb : bagB l = true) (hp : mayB p = true) : findS l p = homeL l p ∧ findN l p = offN l (homeL l p) p ∧ findE l p = 0 ∧ homeE l p = 0 ∧ offE l (homeL l p) p = 0 := by
  have ha : anyB p = true := by unfold anyB; rw [hp, Bool.or_true]
  have hl : homeL l p = homeM (livesM l l) p := by unfold homeL; rw [hb, ha]; rfl
  have hs : spanE l (homeM (livesM l l) p) = 0 := home_where ((bagB_iff l).1 hb) p
  have hs2 : spanE l (homeL l p) = 0 := by rw [hl]; exact hs
  refine ⟨?_, ?_, ?_, ?_, ?_⟩
  · unfold findS; rw [if_pos ⟨hb, hp⟩, hl]
  · unfold findN offN; rw [if_pos ⟨hb, hp⟩, if_pos ⟨hs2, ha⟩, hl]
  · unfold findE; rw [if_pos ⟨hb, hp⟩]
  · unfold homeE; rw [hb, ha]; rfl
  · unfold offE; rw [if_pos hs2, if_pos ha]
set_option maxRecDepth 100000 in
set_option maxHeartbeats 4000000 in
theorem aFind_any {v u : Value} {l : List Opn} {p : List Run} {w : World} (hv : OpL w v l) (hu : Runs w u p) : Calls Tryz.prog 9 #[v, u] w (OneF (findS l p) (findN l p) (findE l p) w) := by
  have hmf : ∀ (fn : Fn) (first cap : Array Value) (w : World), (Instr.makeFunc fn first cap).run Tryz.prog w = .ok (.func fn first cap) w := fun _ _ _ _ => rfl
  obtain ⟨wa, hwa⟩ : ∃ x, x = w.alloc (.cells #[.int .u32 0, .int .u8 0] 25) := ⟨_, rfl⟩
  obtain ⟨wb, hwb⟩ : ∃ x, x = wa.alloc (.cells #[.int .i64 0] 3) := ⟨_, rfl⟩
  obtain ⟨wl, hwl⟩ : ∃ x, x = wb.alloc (.cells #[.int .i64 0] 29) := ⟨_, rfl⟩
  have hsa : wa.heap.size = w.heap.size + 1 := by rw [hwa]; exact Array.size_push _
  have hsb : wb.heap.size = w.heap.size + 1 + 1 := by rw [hwb]; exact (Array.size_push _).trans (by rw [hsa])
  have Ba : Below w.heap.size w wa := by rw [hwa]; exact (Below.refl _ _).alloc (Nat.le_refl _) _
  have Bab : Below wa.heap.size wa wb := by rw [hwb]; exact (Below.refl _ _).alloc (Nat.le_refl _) _
  have Bbl : Below wb.heap.size wb wl := by rw [hwl]; exact (Below.refl _ _).alloc (Nat.le_refl _) _
  have B0 : Hid (Below w.heap.size w wl) := bt Ba (bt Bab Bbl)
  have C0 : Hid (Cel wl w.heap.size (.int .u32 0) (.int .u8 0) (.int .i64 0) (.int .i64 0)) := by
    refine ⟨blk_below Bbl (blk_below Bab ?_), blk_below Bbl ?_, ?_⟩
    · rw [hwa]; exact blk_new rfl
    · rw [hwb, ← hsa]; exact blk_new rfl
    · rw [hwl, ← hsb]; exact blk_new rfl
  have HW : Hid (wl = ((w.alloc (.cells #[.int .u32 0, .int .u8 0] 25)).alloc (.cells #[.int .i64 0] 3)).alloc (.cells #[.int .i64 0] 29)) := by rw [hwl, hwb, hwa]; rfl
  have HO : Hid (Calls Tryz.prog 23 #[v, u] wl (OneI (homeL l p) (homeE l p) wl)) := hOf_any (hv.keeps B0.out) (hu.keeps B0.out)
  have CK : Hid (∀ W : World, Below w.heap.size w W → Calls Tryz.prog 24 #[u] W fun e w' => e = .returned (.int .i64 (Go.Proofs.YtmiepnnpccpicaaGreat.Place.chk p)) ∧ Below W.heap.size W w') := fun W h => Go.Proofs.YtmiepnnpccpicaaGreat.Place.check_any (hu.keeps h)
  have OF : Hid (∀ (W : World) (s : Id), Below w.heap.size w W → Calls Tryz.prog 25 #[v, .agg #[.int .u32 (s.t : Int), .int .u8 (s.r : Int)], u] W fun e w' => e = .returned (.tuple #[.int .i64 ((offN l s p : Nat) : Int), .int .i64 (offE l s p)]) ∧ Below W.heap.size W w') := fun W s h => vOffset_any s (hv.keeps h) (hu.keeps h)
  have HNO : Hid (¬ (bagB l = true ∧ mayB p = true) → findS l p = zid ∧ findN l p = 0 ∧ findE l p = 8) := find_no
  have HYES : Hid (bagB l = true → mayB p = true → findS l p = homeL l p ∧ findN l p = offN l (homeL l p) p ∧ findE l p = 0 ∧ homeE l p = 0 ∧ offE l (homeL l p) p = 0) := find_yes
  have hE8 : homeE l p ≠ 0 → homeE l p = 8 ∧ ¬ (bagB l = true ∧ mayB p = true) := fun h => by
    refine ⟨?_, fun h2 => h (find_yes h2.1 h2.2).2.2.2.1⟩
    unfold homeE at h ⊢
    split
    · rename_i h2; rw [if_pos h2] at h; exact absurd rfl h
    · rfl
  have hC8 : mayB p ≠ true → Go.Proofs.YtmiepnnpccpicaaGreat.Place.chk p = 8 := fun h => by unfold Go.Proofs.YtmiepnnpccpicaaGreat.Place.chk; rw [if_neg h]
  have hC0 : mayB p = true → Go.Proofs.YtmiepnnpccpicaaGreat.Place.chk p = 0 := fun h => by unfold Go.Proofs.YtmiepnnpccpicaaGreat.Place.chk; rw [if_pos h]
  have hB0 : homeE l p = 0 → bagB l = true := fun h => by
    unfold homeE at h
    split at h
    · rename_i h2; exact (Bool.and_eq_true _ _ ▸ h2).1
    · cases h
  clear hv hu hwa hwb hwl hsa hsb Ba Bab Bbl
  obtain ⟨⟨T, r, hT, hr⟩, hH⟩ : ∃ z, homeL l p = z := ⟨_, rfl⟩
  obtain ⟨x, hx⟩ : ∃ z, homeE l p = z := ⟨_, rfl⟩
  unfold OneI at HO
  rw [hH, hx] at HO
  simp only at HO
  by_cases h0 : x = 0
  rotate_left
  · obtain ⟨a1, a2⟩ := hE8 (by rw [hx]; exact h0)
    obtain ⟨e1, e2, e3⟩ := HNO.out a2
    obtain rfl : x = 8 := hx.symm.trans a1
    rw [e1, e2, e3]
    have HX0 : Hid ((8 : Int) ≠ 0) := by unfold Hid; decide
    have HG : Hid (∀ (e : Ending) (w' : World), e = .returned (.tuple #[.agg #[.int .u32 0, .int .u8 0], .int .i64 0, .int .i64 8]) ∧ Below w.heap.size w w' → OneF zid 0 8 w e w') := fun _ _ h => h
    clear CK OF HNO HYES hE8 hC8 hC0 hB0 hH hx a1 a2 e1 e2 e3 h0
    go_enter_defers Tryz.func9, Tryz.ntmps9
    go_wp2_with fail
    rw [← HW.out]
    refine HO.out.mono ?_
    rintro e w1 ⟨rfl, b1⟩
    have C1 := Lib.hid (C0.out.keeps b1)
    have B1 := Lib.hid (bt B0.out b1)
    clear b1 C0 B0 HW HO
    obtain ⟨cs0, cs1, -, -⟩ := cells_blk C1.out.1
    have ck := cell_of_row _ _ 0 _ _ _ C1.out.2.1
    have ce := cell_of_row _ _ 0 _ _ _ C1.out.2.2
    have fs := frz2 C1.out.1
    have fk := frz2 C1.out.2.1
    have fe := frz2 C1.out.2.2
    have ce2 : ((w1.setCell ⟨w.heap.size, 0, none⟩ (.int .u32 (T : Int))).setCell ⟨w.heap.size, 1, none⟩ (.int .u8 (r : Int))).cell? ⟨w.heap.size + 1 + 1, 0, none⟩ = some (.int .i64 0) := (World.cell?_setCell_other _ _ _ _ (by simp)).trans ((World.cell?_setCell_other _ _ _ _ (by simp)).trans ce)
    have C2 := Lib.hid ((C1.out.s (.int .u32 (T : Int)) (.int .u8 (r : Int))).e (.int .i64 8))
    have B2 : Hid (Below w.heap.size w (((w1.setCell ⟨w.heap.size, 0, none⟩ (.int .u32 (T : Int))).setCell ⟨w.heap.size, 1, none⟩ (.int .u8 (r : Int))).setCell ⟨w.heap.size + 1 + 1, 0, none⟩ (.int .i64 8))) := ((B1.out.setCell (p := ⟨w.heap.size, 0, none⟩) (Nat.le_refl _) _).setCell (p := ⟨w.heap.size, 1, none⟩) (Nat.le_refl _) _).setCell (p := ⟨w.heap.size + 1 + 1, 0, none⟩) (by show _ ≤ w.heap.size + 1 + 1; omega) _
    go_upto_region 3 with fail
    generalize ((w1.setCell ⟨w.heap.size, 0, none⟩ (.int .u32 (T : Int))).setCell ⟨w.heap.size, 1, none⟩ (.int .u8 (r : Int))).setCell ⟨w.heap.size + 1 + 1, 0, none⟩ (.int .i64 8) = w2 at C2 B2 ⊢
    clear cs0 cs1 ck ce fs fk fe ce2 C1 B1
    have ce := cell_of_row _ _ 0 _ _ _ C2.out.2.2
    go_upto_region 4 with fail
    clear ce
    obtain ⟨cs0, cs1, -, -⟩ := cells_blk C2.out.1
    have ck := cell_of_row _ _ 0 _ _ _ C2.out.2.1
    have ce := cell_of_row _ _ 0 _ _ _ C2.out.2.2
    have fs := frz2 C2.out.1
    have fk := frz2 C2.out.2.1
    have fe := frz2 C2.out.2.2
    have ck2 : ((w2.setCell ⟨w.heap.size, 0, none⟩ (.int .u32 (T : Int))).setCell ⟨w.heap.size, 1, none⟩ (.int .u8 (r : Int))).cell? ⟨w.heap.size + 1, 0, none⟩ = some (.int .i64 0) := (World.cell?_setCell_other _ _ _ _ (by simp)).trans ((World.cell?_setCell_other _ _ _ _ (by simp)).trans ck)
    have ce2 : (((w2.setCell ⟨w.heap.size, 0, none⟩ (.int .u32 (T : Int))).setCell ⟨w.heap.size, 1, none⟩ (.int .u8 (r : Int))).setCell ⟨w.heap.size + 1, 0, none⟩ (.int .i64 0)).cell? ⟨w.heap.size + 1 + 1, 0, none⟩ = some (.int .i64 8) := (World.cell?_setCell_other _ _ _ _ (by simp)).trans ((World.cell?_setCell_other _ _ _ _ (by simp)).trans ((World.cell?_setCell_other _ _ _ _ (by simp)).trans ce))
    go_region
    all_goals go_wp2
    clear cs0 cs1 ck ce fs fk fe ck2 ce2
    have C9 := ((C2.out.s (.int .u32 (T : Int)) (.int .u8 (r : Int))).k (.int .i64 0)).e (.int .i64 8)
    have B9 : Below w.heap.size w ((((w2.setCell ⟨w.heap.size, 0, none⟩ (.int .u32 (T : Int))).setCell ⟨w.heap.size, 1, none⟩ (.int .u8 (r : Int))).setCell ⟨w.heap.size + 1, 0, none⟩ (.int .i64 0)).setCell ⟨w.heap.size + 1 + 1, 0, none⟩ (.int .i64 8)) := ((((B2.out.setCell (p := ⟨w.heap.size, 0, none⟩) (Nat.le_refl _) _).setCell (p := ⟨w.heap.size, 1, none⟩) (Nat.le_refl _) _).setCell (p := ⟨w.heap.size + 1, 0, none⟩) (by show _ ≤ w.heap.size + 1; omega) _).setCell (p := ⟨w.heap.size + 1 + 1, 0, none⟩) (by show _ ≤ w.heap.size + 1 + 1; omega) _)
    generalize ((((w2.setCell ⟨w.heap.size, 0, none⟩ (.int .u32 (T : Int))).setCell ⟨w.heap.size, 1, none⟩ (.int .u8 (r : Int))).setCell ⟨w.heap.size + 1, 0, none⟩ (.int .i64 0)).setCell ⟨w.heap.size + 1 + 1, 0, none⟩ (.int .i64 8)) = WZ at C9 B9 ⊢
    have C8 := C9.keeps (drew1 WZ)
    have B8 := bt B9 (drew1 WZ)
    generalize WZ.drew = W8 at C8 B8 ⊢
    obtain ⟨cs0, cs1, -, -⟩ := cells_blk C8.1
    have ck := cell_of_row _ _ 0 _ _ _ C8.2.1
    have ce := cell_of_row _ _ 0 _ _ _ C8.2.2
    refine leaves_cons (f := 22) (args := #[.pointer (some ⟨w.heap.size + 1 + 1, 0, none⟩), .pointer (some ⟨w.heap.size, 0, none⟩), .pointer (some ⟨w.heap.size + 1, 0, none⟩)]) (by simp) (by simp [go_sem]) ?_
    refine (findD_err _ _ _ (by omega) (x := 8) HX0.out ce cs0 cs1 (frz2 C8.1) ck (frz2 C8.2.1 0)).mono ?_
    rintro e u' w'' ⟨rfl, rfl, rfl⟩
    have C7 := (C8.s (.int .u32 0) (.int .u8 0)).k (.int .i64 0)
    have B7 : Below w.heap.size w ((put2 W8 w.heap.size (.int .u32 0) (.int .u8 0)).setCell ⟨w.heap.size + 1, 0, none⟩ (.int .i64 0)) := (put2_below _ _ (Nat.le_refl _) B8).setCell (p := ⟨w.heap.size + 1, 0, none⟩) (by show _ ≤ w.heap.size + 1; omega) _
    unfold put2 at B7 ⊢
    generalize ((W8.setCell ⟨w.heap.size, 0, none⟩ (.int .u32 0)).setCell ⟨w.heap.size, 1, none⟩ (.int .u8 0)).setCell ⟨w.heap.size + 1, 0, none⟩ (.int .i64 0) = W7 at C7 B7 ⊢
    obtain ⟨xs0, xs1, -, -⟩ := cells_blk C7.1
    have xk := cell_of_row _ _ 0 _ _ _ C7.2.1
    have xe := cell_of_row _ _ 0 _ _ _ C7.2.2
    refine ⟨.tuple #[.agg #[.int .u32 0, .int .u8 0], .int .i64 0, .int .i64 8], by simp [results, Tryz.results9, go_sem, xs0, xs1, xk, xe], ?_⟩
    exact ⟨rfl, B7⟩
  subst h0
  have hbag := hB0 hx
  by_cases hm : mayB p = true
  rotate_left
  · have hc := hC8 hm
    obtain ⟨e1, e2, e3⟩ := HNO.out (fun h => hm h.2)
    rw [e1, e2, e3]
    rw [hc] at CK
    have HX0 : Hid ((8 : Int) ≠ 0) := by unfold Hid; decide
    have HG : Hid (∀ (e : Ending) (w' : World), e = .returned (.tuple #[.agg #[.int .u32 0, .int .u8 0], .int .i64 0, .int .i64 8]) ∧ Below w.heap.size w w' → OneF zid 0 8 w e w') := fun _ _ h => h
    clear OF HNO HYES hE8 hC8 hC0 hB0 hH hx e1 e2 e3 hc hm hbag
    go_enter_defers Tryz.func9, Tryz.ntmps9
    go_wp2_with fail
    rw [← HW.out]
    refine HO.out.mono ?_
    rintro e w1 ⟨rfl, b1⟩
    have C1 := Lib.hid (C0.out.keeps b1)
    have B1 := Lib.hid (bt B0.out b1)
    clear b1 C0 B0 HW HO
    obtain ⟨cs0, cs1, -, -⟩ := cells_blk C1.out.1
    have ck := cell_of_row _ _ 0 _ _ _ C1.out.2.1
    have ce := cell_of_row _ _ 0 _ _ _ C1.out.2.2
    have fs := frz2 C1.out.1
    have fk := frz2 C1.out.2.1
    have fe := frz2 C1.out.2.2
    have ce2 : ((w1.setCell ⟨w.heap.size, 0, none⟩ (.int .u32 (T : Int))).setCell ⟨w.heap.size, 1, none⟩ (.int .u8 (r : Int))).cell? ⟨w.heap.size + 1 + 1, 0, none⟩ = some (.int .i64 0) := (World.cell?_setCell_other _ _ _ _ (by simp)).trans ((World.cell?_setCell_other _ _ _ _ (by simp)).trans ce)
    have C2 := Lib.hid ((C1.out.s (.int .u32 (T : Int)) (.int .u8 (r : Int))).e (.int .i64 0))
    have B2 : Hid (Below w.heap.size w (((w1.setCell ⟨w.heap.size, 0, none⟩ (.int .u32 (T : Int))).setCell ⟨w.heap.size, 1, none⟩ (.int .u8 (r : Int))).setCell ⟨w.heap.size + 1 + 1, 0, none⟩ (.int .i64 0))) := ((B1.out.setCell (p := ⟨w.heap.size, 0, none⟩) (Nat.le_refl _) _).setCell (p := ⟨w.heap.size, 1, none⟩) (Nat.le_refl _) _).setCell (p := ⟨w.heap.size + 1 + 1, 0, none⟩) (by show _ ≤ w.heap.size + 1 + 1; omega) _
    go_upto_region 3 with fail
    generalize ((w1.setCell ⟨w.heap.size, 0, none⟩ (.int .u32 (T : Int))).setCell ⟨w.heap.size, 1, none⟩ (.int .u8 (r : Int))).setCell ⟨w.heap.size + 1 + 1, 0, none⟩ (.int .i64 0) = w2 at C2 B2 ⊢
    clear cs0 cs1 ck ce fs fk fe ce2 C1 B1
    have ce := cell_of_row _ _ 0 _ _ _ C2.out.2.2
    go_wp2_with fail
    refine (CK.out _ B2.out).mono ?_
    rintro e w3 ⟨rfl, b3⟩
    have C3 := Lib.hid (C2.out.keeps b3)
    have B3 := Lib.hid (bt B2.out b3)
    clear b3 C2 B2 CK ce
    have ce := cell_of_row _ _ 0 _ _ _ C3.out.2.2
    have fe := frz2 C3.out.2.2
    have C4 := Lib.hid (C3.out.e (.int .i64 8))
    have B4 : Hid (Below w.heap.size w (w3.setCell ⟨w.heap.size + 1 + 1, 0, none⟩ (.int .i64 8))) := B3.out.setCell (p := ⟨w.heap.size + 1 + 1, 0, none⟩) (by show _ ≤ w.heap.size + 1 + 1; omega) _
    go_upto_region 6 with fail
    generalize w3.setCell ⟨w.heap.size + 1 + 1, 0, none⟩ (.int .i64 8) = w4 at C4 B4 ⊢
    clear ce fe C3 B3
    have ce := cell_of_row _ _ 0 _ _ _ C4.out.2.2
    go_upto_region 7 with fail
    clear ce
    obtain ⟨cs0, cs1, -, -⟩ := cells_blk C4.out.1
    have ck := cell_of_row _ _ 0 _ _ _ C4.out.2.1
    have ce := cell_of_row _ _ 0 _ _ _ C4.out.2.2
    have fs := frz2 C4.out.1
    have fk := frz2 C4.out.2.1
    have fe := frz2 C4.out.2.2
    have ck2 : ((w4.setCell ⟨w.heap.size, 0, none⟩ (.int .u32 (T : Int))).setCell ⟨w.heap.size, 1, none⟩ (.int .u8 (r : Int))).cell? ⟨w.heap.size + 1, 0, none⟩ = some (.int .i64 0) := (World.cell?_setCell_other _ _ _ _ (by simp)).trans ((World.cell?_setCell_other _ _ _ _ (by simp)).trans ck)
    have ce2 : (((w4.setCell ⟨w.heap.size, 0, none⟩ (.int .u32 (T : Int))).setCell ⟨w.heap.size, 1, none⟩ (.int .u8 (r : Int))).setCell ⟨w.heap.size + 1, 0, none⟩ (.int .i64 0)).cell? ⟨w.heap.size + 1 + 1, 0, none⟩ = some (.int .i64 8) := (World.cell?_setCell_other _ _ _ _ (by simp)).trans ((World.cell?_setCell_other _ _ _ _ (by simp)).trans ((World.cell?_setCell_other _ _ _ _ (by simp)).trans ce))
    go_region
    all_goals go_wp2
    clear cs0 cs1 ck ce fs fk fe ck2 ce2
    have C9 := ((C4.out.s (.int .u32 (T : Int)) (.int .u8 (r : Int))).k (.int .i64 0)).e (.int .i64 8)
    have B9 : Below w.heap.size w ((((w4.setCell ⟨w.heap.size, 0, none⟩ (.int .u32 (T : Int))).setCell ⟨w.heap.size, 1, none⟩ (.int .u8 (r : Int))).setCell ⟨w.heap.size + 1, 0, none⟩ (.int .i64 0)).setCell ⟨w.heap.size + 1 + 1, 0, none⟩ (.int .i64 8)) := ((((B4.out.setCell (p := ⟨w.heap.size, 0, none⟩) (Nat.le_refl _) _).setCell (p := ⟨w.heap.size, 1, none⟩) (Nat.le_refl _) _).setCell (p := ⟨w.heap.size + 1, 0, none⟩) (by show _ ≤ w.heap.size + 1; omega) _).setCell (p := ⟨w.heap.size + 1 + 1, 0, none⟩) (by show _ ≤ w.heap.size + 1 + 1; omega) _)
    generalize ((((w4.setCell ⟨w.heap.size, 0, none⟩ (.int .u32 (T : Int))).setCell ⟨w.heap.size, 1, none⟩ (.int .u8 (r : Int))).setCell ⟨w.heap.size + 1, 0, none⟩ (.int .i64 0)).setCell ⟨w.heap.size + 1 + 1, 0, none⟩ (.int .i64 8)) = WZ at C9 B9 ⊢
    have C8 := C9.keeps (drew1 WZ)
    have B8 := bt B9 (drew1 WZ)
    generalize WZ.drew = W8 at C8 B8 ⊢
    obtain ⟨cs0, cs1, -, -⟩ := cells_blk C8.1
    have ck := cell_of_row _ _ 0 _ _ _ C8.2.1
    have ce := cell_of_row _ _ 0 _ _ _ C8.2.2
    refine leaves_cons (f := 22) (args := #[.pointer (some ⟨w.heap.size + 1 + 1, 0, none⟩), .pointer (some ⟨w.heap.size, 0, none⟩), .pointer (some ⟨w.heap.size + 1, 0, none⟩)]) (by simp) (by simp [go_sem]) ?_
    refine (findD_err _ _ _ (by omega) (x := 8) HX0.out ce cs0 cs1 (frz2 C8.1) ck (frz2 C8.2.1 0)).mono ?_
    rintro e u' w'' ⟨rfl, rfl, rfl⟩
    have C7 := (C8.s (.int .u32 0) (.int .u8 0)).k (.int .i64 0)
    have B7 : Below w.heap.size w ((put2 W8 w.heap.size (.int .u32 0) (.int .u8 0)).setCell ⟨w.heap.size + 1, 0, none⟩ (.int .i64 0)) := (put2_below _ _ (Nat.le_refl _) B8).setCell (p := ⟨w.heap.size + 1, 0, none⟩) (by show _ ≤ w.heap.size + 1; omega) _
    unfold put2 at B7 ⊢
    generalize ((W8.setCell ⟨w.heap.size, 0, none⟩ (.int .u32 0)).setCell ⟨w.heap.size, 1, none⟩ (.int .u8 0)).setCell ⟨w.heap.size + 1, 0, none⟩ (.int .i64 0) = W7 at C7 B7 ⊢
    obtain ⟨xs0, xs1, -, -⟩ := cells_blk C7.1
    have xk := cell_of_row _ _ 0 _ _ _ C7.2.1
    have xe := cell_of_row _ _ 0 _ _ _ C7.2.2
    refine ⟨.tuple #[.agg #[.int .u32 0, .int .u8 0], .int .i64 0, .int .i64 8], by simp [results, Tryz.results9, go_sem, xs0, xs1, xk, xe], ?_⟩
    exact ⟨rfl, B7⟩
  have hc := hC0 hm
  rw [hc] at CK
  obtain ⟨e1, e2, e3, _, e5⟩ := HYES.out hbag hm
  have OF2 := Lib.hid (fun W h => OF.out W (homeL l p) h)
  rw [e5] at OF2
  rw [e1, e2, e3]
  rw [hH] at OF2 ⊢
  obtain ⟨n, hn⟩ : ∃ z, offN l ⟨T, r, hT, hr⟩ p = z := ⟨_, rfl⟩
  rw [hn] at OF2 ⊢
  simp only at OF2
  clear OF HNO HYES hE8 hC8 hC0 hB0 hH hx e1 e2 e3 e5 hc hm hbag hn
  go_enter_defers Tryz.func9, Tryz.ntmps9
  go_wp2_with fail
  rw [← HW.out]
  refine HO.out.mono ?_
  rintro e w1 ⟨rfl, b1⟩
  have C1 := Lib.hid (C0.out.keeps b1)
  have B1 := Lib.hid (bt B0.out b1)
  clear b1 C0 B0 HW HO
  obtain ⟨cs0, cs1, -, -⟩ := cells_blk C1.out.1
  have ck := cell_of_row _ _ 0 _ _ _ C1.out.2.1
  have ce := cell_of_row _ _ 0 _ _ _ C1.out.2.2
  have fs := frz2 C1.out.1
  have fk := frz2 C1.out.2.1
  have fe := frz2 C1.out.2.2
  have ce2 : ((w1.setCell ⟨w.heap.size, 0, none⟩ (.int .u32 (T : Int))).setCell ⟨w.heap.size, 1, none⟩ (.int .u8 (r : Int))).cell? ⟨w.heap.size + 1 + 1, 0, none⟩ = some (.int .i64 0) := (World.cell?_setCell_other _ _ _ _ (by simp)).trans ((World.cell?_setCell_other _ _ _ _ (by simp)).trans ce)
  have C2 := Lib.hid ((C1.out.s (.int .u32 (T : Int)) (.int .u8 (r : Int))).e (.int .i64 0))
  have B2 : Hid (Below w.heap.size w (((w1.setCell ⟨w.heap.size, 0, none⟩ (.int .u32 (T : Int))).setCell ⟨w.heap.size, 1, none⟩ (.int .u8 (r : Int))).setCell ⟨w.heap.size + 1 + 1, 0, none⟩ (.int .i64 0))) := ((B1.out.setCell (p := ⟨w.heap.size, 0, none⟩) (Nat.le_refl _) _).setCell (p := ⟨w.heap.size, 1, none⟩) (Nat.le_refl _) _).setCell (p := ⟨w.heap.size + 1 + 1, 0, none⟩) (by show _ ≤ w.heap.size + 1 + 1; omega) _
  go_upto_region 3 with fail
  generalize ((w1.setCell ⟨w.heap.size, 0, none⟩ (.int .u32 (T : Int))).setCell ⟨w.heap.size, 1, none⟩ (.int .u8 (r : Int))).setCell ⟨w.heap.size + 1 + 1, 0, none⟩ (.int .i64 0) = w2 at C2 B2 ⊢
  clear cs0 cs1 ck ce fs fk fe ce2 C1 B1
  have ce := cell_of_row _ _ 0 _ _ _ C2.out.2.2
  go_wp2_with fail
  refine (CK.out _ B2.out).mono ?_
  rintro e w3 ⟨rfl, b3⟩
  have C3 := Lib.hid (C2.out.keeps b3)
  have B3 := Lib.hid (bt B2.out b3)
  clear b3 C2 B2 CK ce
  have ce := cell_of_row _ _ 0 _ _ _ C3.out.2.2
  have fe := frz2 C3.out.2.2
  have C4 := Lib.hid (C3.out.e (.int .i64 0))
  have B4 : Hid (Below w.heap.size w (w3.setCell ⟨w.heap.size + 1 + 1, 0, none⟩ (.int .i64 0))) := B3.out.setCell (p := ⟨w.heap.size + 1 + 1, 0, none⟩) (by show _ ≤ w.heap.size + 1 + 1; omega) _
  go_upto_region 6 with fail
  generalize w3.setCell ⟨w.heap.size + 1 + 1, 0, none⟩ (.int .i64 0) = w4 at C4 B4 ⊢
  clear ce fe C3 B3
  have ce := cell_of_row _ _ 0 _ _ _ C4.out.2.2
  obtain ⟨cs0, cs1, -, -⟩ := cells_blk C4.out.1
  go_wp2_with fail
  refine (OF2.out _ B4.out).mono ?_
  rintro e w5 ⟨rfl, b5⟩
  have C5 := Lib.hid (C4.out.keeps b5)
  have B5 := Lib.hid (bt B4.out b5)
  clear b5 C4 B4 OF2 ce cs0 cs1
  obtain ⟨cs0, cs1, -, -⟩ := cells_blk C5.out.1
  have ck := cell_of_row _ _ 0 _ _ _ C5.out.2.1
  have ce := cell_of_row _ _ 0 _ _ _ C5.out.2.2
  have fs := frz2 C5.out.1
  have fk := frz2 C5.out.2.1
  have fe := frz2 C5.out.2.2
  have ce2 : (w5.setCell ⟨w.heap.size + 1, 0, none⟩ (.int .i64 (n : Int))).cell? ⟨w.heap.size + 1 + 1, 0, none⟩ = some (.int .i64 0) := (World.cell?_setCell_other _ _ _ _ (by simp)).trans ce
  have C6 := Lib.hid ((C5.out.k (.int .i64 (n : Int))).e (.int .i64 0))
  have B6 : Hid (Below w.heap.size w ((w5.setCell ⟨w.heap.size + 1, 0, none⟩ (.int .i64 (n : Int))).setCell ⟨w.heap.size + 1 + 1, 0, none⟩ (.int .i64 0))) := (B5.out.setCell (p := ⟨w.heap.size + 1, 0, none⟩) (by show _ ≤ w.heap.size + 1; omega) _).setCell (p := ⟨w.heap.size + 1 + 1, 0, none⟩) (by show _ ≤ w.heap.size + 1 + 1; omega) _
  go_upto_region 9 with fail
  generalize (w5.setCell ⟨w.heap.size + 1, 0, none⟩ (.int .i64 (n : Int))).setCell ⟨w.heap.size + 1 + 1, 0, none⟩ (.int .i64 0) = w6 at C6 B6 ⊢
  clear cs0 cs1 ck ce fs fk fe ce2 C5 B5
  obtain ⟨cs0, cs1, -, -⟩ := cells_blk C6.out.1
  have ck := cell_of_row _ _ 0 _ _ _ C6.out.2.1
  have ce := cell_of_row _ _ 0 _ _ _ C6.out.2.2
  have fs := frz2 C6.out.1
  have fk := frz2 C6.out.2.1
  have fe := frz2 C6.out.2.2
  have ck2 : ((w6.setCell ⟨w.heap.size, 0, none⟩ (.int .u32 (T : Int))).setCell ⟨w.heap.size, 1, none⟩ (.int .u8 (r : Int))).cell? ⟨w.heap.size + 1, 0, none⟩ = some (.int .i64 (n : Int)) := (World.cell?_setCell_other _ _ _ _ (by simp)).trans ((World.cell?_setCell_other _ _ _ _ (by simp)).trans ck)
  have ce2 : (((w6.setCell ⟨w.heap.size, 0, none⟩ (.int .u32 (T : Int))).setCell ⟨w.heap.size, 1, none⟩ (.int .u8 (r : Int))).setCell ⟨w.heap.size + 1, 0, none⟩ (.int .i64 (n : Int))).cell? ⟨w.heap.size + 1 + 1, 0, none⟩ = some (.int .i64 0) := (World.cell?_setCell_other _ _ _ _ (by simp)).trans ((World.cell?_setCell_other _ _ _ _ (by simp)).trans ((World.cell?_setCell_other _ _ _ _ (by simp)).trans ce))
  go_region
  all_goals go_wp2
  clear cs0 cs1 ck ce fs fk fe ck2 ce2
  have C9 := ((C6.out.s (.int .u32 (T : Int)) (.int .u8 (r : Int))).k (.int .i64 (n : Int))).e (.int .i64 0)
  have B9 : Below w.heap.size w ((((w6.setCell ⟨w.heap.size, 0, none⟩ (.int .u32 (T : Int))).setCell ⟨w.heap.size, 1, none⟩ (.int .u8 (r : Int))).setCell ⟨w.heap.size + 1, 0, none⟩ (.int .i64 (n : Int))).setCell ⟨w.heap.size + 1 + 1, 0, none⟩ (.int .i64 0)) := ((((B6.out.setCell (p := ⟨w.heap.size, 0, none⟩) (Nat.le_refl _) _).setCell (p := ⟨w.heap.size, 1, none⟩) (Nat.le_refl _) _).setCell (p := ⟨w.heap.size + 1, 0, none⟩) (by show _ ≤ w.heap.size + 1; omega) _).setCell (p := ⟨w.heap.size + 1 + 1, 0, none⟩) (by show _ ≤ w.heap.size + 1 + 1; omega) _)
  generalize ((((w6.setCell ⟨w.heap.size, 0, none⟩ (.int .u32 (T : Int))).setCell ⟨w.heap.size, 1, none⟩ (.int .u8 (r : Int))).setCell ⟨w.heap.size + 1, 0, none⟩ (.int .i64 (n : Int))).setCell ⟨w.heap.size + 1 + 1, 0, none⟩ (.int .i64 0)) = WZ at C9 B9 ⊢
  have C8 := C9.keeps (drew1 WZ)
  have B8 := bt B9 (drew1 WZ)
  generalize WZ.drew = W8 at C8 B8 ⊢
  obtain ⟨cs0, cs1, -, -⟩ := cells_blk C8.1
  have ck := cell_of_row _ _ 0 _ _ _ C8.2.1
  have ce := cell_of_row _ _ 0 _ _ _ C8.2.2
  refine leaves_cons (f := 22) (args := #[.pointer (some ⟨w.heap.size + 1 + 1, 0, none⟩), .pointer (some ⟨w.heap.size, 0, none⟩), .pointer (some ⟨w.heap.size + 1, 0, none⟩)]) (by simp) (by simp [go_sem]) ?_
  refine (findD_zero _ _ _ ce).mono ?_
  rintro e u' w'' ⟨rfl, rfl, rfl⟩
  refine ⟨.tuple #[.agg #[.int .u32 (T : Int), .int .u8 (r : Int)], .int .i64 (n : Int), .int .i64 0], by simp [results, Tryz.results9, go_sem, cs0, cs1, ck, ce], ?_⟩
  exact ⟨rfl, B8⟩
end Go.Proofs.YtmiepnnpccpicaaGreat.Anchors
