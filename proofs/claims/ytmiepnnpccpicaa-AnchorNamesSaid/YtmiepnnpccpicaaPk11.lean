/- octavo/anchor.Make, Find: what each answers. Conditions: the slices' cells are operations, runs. octavolaw17.two, gone, found, alive: what each answers. Conditions: none. AnchorNames answers true. Conditions: none. -/
import Derived.Test.YtmiepnnpccpicaaChecked
import Derived.WalkKit
import Derived.WalkSpells
import Derived.WalkLawsBesides
import Derived.Laws.BytesArg
import Derived.Lib.Hide
import Derived.Deep.LoopGhost
import Derived.Laws.AppendOwnNone
import Derived.Laws.OwnMore
import Derived.WideShapes
import Derived.Maps.AppendAt
import Derived.RegionTactic
import Derived.Deep.RegionHeld3
import Derived.Deep.DrawnRows
import Derived.Deep.QuietTactic
import Derived.BigQuiet
import Derived.IntWalk
import Derived.Deep.DeepCutAuto
import Derived.ScopeJumps
import Derived.Test.YtmiepnnpccpicaaProg
import Derived.LoopTactic
import Derived.Laws.EntriesVeiled
import Derived.RowKit
import Derived.Lib.DecodeN
import Derived.Lib.RuneBytes
import Derived.Shelf.Abstract
import Derived.Shelf.SlSortCmp.InsertionK
import Derived.Calls
import Derived.StepT
import Derived.Below
import Derived.Sort.Grow
import Derived.Deep.Draws
import Derived.Shelf.SlLaysF0
import Derived.Shelf.SlSortCmp.NoneTotal
import Derived.Maps.Own
import Derived.Maps.OwnOps
import Derived.Maps.OwnSet
import Derived.Maps.Views
import Derived.DeepKeys4
import Derived.RangeFuncBox
import Derived.RangeFuncLeaves
import Derived.RangeFuncNested
import Derived.RangeFuncBound
import Derived.RangeFuncCalls
import Derived.OwnWalkIn
import Derived.TacticsInMore
import Derived.LoopNIn
import Derived.LoopIn
import Derived.Scope
import Derived.Lib.Tables
import Derived.Laws.Bits64
import Derived.Test.YtmiepnnpccpicaaShelf
import Derived.Lib.OthersKept
import Derived.BigCall
import Derived.Defers
import Derived.Test.YtmiepnnpccpicaaRw
import Derived.Test.YtmiepnnpccpicaaPk05
import Derived.Test.YtmiepnnpccpicaaPk04
import Derived.Test.YtmiepnnpccpicaaPk03
import Derived.Test.YtmiepnnpccpicaaPk02
import Derived.Test.YtmiepnnpccpicaaPk01
import Derived.Test.YtmiepnnpccpicaaPk07
import Derived.Test.YtmiepnnpccpicaaPk06
import Derived.Test.YtmiepnnpccpicaaPk10
import Derived.Test.YtmiepnnpccpicaaPk09
import Derived.Test.YtmiepnnpccpicaaPk08

namespace Go.Proofs.Ytmiepnnpccpicaa.Anchors
open Go.RowKit Go.WideShapes Stamp Go.Proofs.Ytmiepnnpccpicaa.Place Ops Codes Bags Marks Homes Covers Views
attribute [local go_sem ↓] Go.wp_at_zero Go.wp_at_succ
attribute [local go_sem] yielded_undef
theorem makeD_zero (b c : Nat) {u : FrameMode} {w : World} (he : w.cell? ⟨b, 0, none⟩ = some (.int .i64 0)) :
    CallsD Try.prog 9 #[.pointer (some ⟨b, 0, none⟩), .pointer (some ⟨c, 0, none⟩)] u w fun e u' w' => u' = u ∧ (e = .returned (.tuple #[]) ∧ w' = w) := by
  go_enter_d Try.func9, Try.ntmps9
  go_wp2
  go_end0
  exact ⟨rfl, rfl⟩
theorem makeD_err (b c : Nat) {x : Int} (hx : x ≠ 0) {y : Value} {u : FrameMode} {w : World} (he : w.cell? ⟨b, 0, none⟩ = some (.int .i64 x)) (hc : w.cell? ⟨c, 0, none⟩ = some y) (hf : w.frozen? ⟨c, 0, none⟩ = false) :
    CallsD Try.prog 9 #[.pointer (some ⟨b, 0, none⟩), .pointer (some ⟨c, 0, none⟩)] u w fun e u' w' => u' = u ∧ (e = .returned (.tuple #[]) ∧ w' = w.setCell ⟨c, 0, none⟩ (.slice none 0 0)) := by
  have q0 : (x != 0) = true := by simpa using hx
  have q1 : decide (x = 0) = false := decide_eq_false hx
  go_enter_d Try.func9, Try.ntmps9
  go_wp2
  go_end0
  exact ⟨rfl, rfl⟩
theorem findD_zero (b c d : Nat) {u : FrameMode} {w : World} (he : w.cell? ⟨b, 0, none⟩ = some (.int .i64 0)) :
    CallsD Try.prog 11 #[.pointer (some ⟨b, 0, none⟩), .pointer (some ⟨c, 0, none⟩), .pointer (some ⟨d, 0, none⟩)] u w fun e u' w' => u' = u ∧ (e = .returned (.tuple #[]) ∧ w' = w) := by
  go_enter_d Try.func11, Try.ntmps11
  go_wp2
  go_end0
  exact ⟨rfl, rfl⟩
theorem findD_err (b c d : Nat) (hcd : c ≠ d) {x : Int} (hx : x ≠ 0) {y0 y1 z : Value} {u : FrameMode} {w : World} (he : w.cell? ⟨b, 0, none⟩ = some (.int .i64 x)) (hc : w.cell? ⟨c, 0, none⟩ = some y0) (hc1 : w.cell? ⟨c, 1, none⟩ = some y1) (hf : ∀ o, w.frozen? ⟨c, o, none⟩ = false) (hd : w.cell? ⟨d, 0, none⟩ = some z) (hg : w.frozen? ⟨d, 0, none⟩ = false) :
    CallsD Try.prog 11 #[.pointer (some ⟨b, 0, none⟩), .pointer (some ⟨c, 0, none⟩), .pointer (some ⟨d, 0, none⟩)] u w fun e u' w' => u' = u ∧ (e = .returned (.tuple #[]) ∧ w' = (put2 w c (.int .u32 0) (.int .u8 0)).setCell ⟨d, 0, none⟩ (.int .i64 0)) := by
  have q0 : (x != 0) = true := by simpa using hx
  have q1 : decide (x = 0) = false := decide_eq_false hx
  have hd2 : ((w.setCell ⟨c, 0, none⟩ (.int .u32 0)).setCell ⟨c, 1, none⟩ (.int .u8 0)).cell? ⟨d, 0, none⟩ = some z := by
    rw [World.cell?_setCell_other _ ⟨c, 1, none⟩ ⟨d, 0, none⟩ _ (by intro h; cases h), World.cell?_setCell_other _ ⟨c, 0, none⟩ ⟨d, 0, none⟩ _ (by intro h; cases h; exact hcd rfl)]
    exact hd
  unfold put2
  go_enter_d Try.func11, Try.ntmps11
  go_wp2
  go_end0
  exact ⟨rfl, rfl⟩
set_option maxRecDepth 100000 in
set_option maxHeartbeats 4000000 in
theorem aMake_any {v : Value} {l : List Opn} (s : Id) (k : Int) {w : World} (hv : OpL w v l) : Calls Try.prog 4 #[v, .agg #[.int .u32 (s.t : Int), .int .u8 (s.r : Int)], .int .i64 k] w (OneP (makeP l s k) (atE l s k) w) := by
  have hmf : ∀ (fn : Fn) (first cap : Array Value) (w : World), (Instr.makeFunc fn first cap).run Try.prog w = .ok (.func fn first cap) w := fun _ _ _ _ => rfl
  obtain ⟨wa, hwa⟩ : ∃ x, x = w.alloc (.cells #[.int .u32 (s.t : Int), .int .u8 (s.r : Int)] 30) := ⟨_, rfl⟩
  obtain ⟨wb, hwb⟩ : ∃ x, x = wa.alloc (.cells #[.slice none 0 0] 22) := ⟨_, rfl⟩
  obtain ⟨wl, hwl⟩ : ∃ x, x = wb.alloc (.cells #[.int .i64 0] 23) := ⟨_, rfl⟩
  have hsa : wa.heap.size = w.heap.size + 1 := by rw [hwa]; exact Array.size_push _
  have hsb : wb.heap.size = w.heap.size + 1 + 1 := by rw [hwb]; exact (Array.size_push _).trans (by rw [hsa])
  have Ba : Below w.heap.size w wa := by rw [hwa]; exact (Below.refl _ _).alloc (Nat.le_refl _) _
  have Bab : Below wa.heap.size wa wb := by rw [hwb]; exact (Below.refl _ _).alloc (Nat.le_refl _) _
  have Bbl : Below wb.heap.size wb wl := by rw [hwl]; exact (Below.refl _ _).alloc (Nat.le_refl _) _
  have B0 : Hid (Below w.heap.size w wl) := bt Ba (bt Bab Bbl)
  have Y0 : Hid (wl.heap[w.heap.size]? = some (.cells #[.int .u32 (s.t : Int), .int .u8 (s.r : Int)] 30)) := by
    refine blk_below Bbl (blk_below Bab ?_)
    rw [hwa]; exact blk_new rfl
  have P0 : Hid (wl.heap[w.heap.size + 1]? = some (.cells #[.slice none 0 0] 22)) := by
    refine blk_below Bbl ?_
    rw [hwb, ← hsa]; exact blk_new rfl
  have E0 : Hid (wl.heap[w.heap.size + 1 + 1]? = some (.cells #[.int .i64 0] 23)) := by
    rw [hwl, ← hsb]; exact blk_new rfl
  have HW : Hid (wl = ((w.alloc (.cells #[.int .u32 (s.t : Int), .int .u8 (s.r : Int)] 30)).alloc (.cells #[.slice none 0 0] 22)).alloc (.cells #[.int .i64 0] 23)) := by rw [hwl, hwb, hwa]; rfl
  have AT : Hid (Calls Try.prog 10 #[v, .agg #[.int .u32 (s.t : Int), .int .u8 (s.r : Int)], .int .i64 k] wl (OneE (atL l s k) (atE l s k) wl)) := vAt_any s k (hv.keeps B0.out)
  have HL : Hid (atE l s k ≠ 0 → makeP l s k = []) := fun h => make_no h
  have hMP : makeP l s k = (atL l s k).pl := rfl
  rw [hMP] at HL ⊢
  clear hv hwa hwb hwl hsa hsb Ba Bab Bbl hMP
  obtain ⟨y, hy⟩ : ∃ y, atL l s k = y := ⟨_, rfl⟩
  obtain ⟨x, hx⟩ : ∃ x, atE l s k = x := ⟨_, rfl⟩
  rw [hy, hx] at AT HL ⊢
  clear hy hx
  obtain ⟨ts, rs, hts, hrs⟩ := s
  obtain ⟨yk, t, r, yl, p, hyk, ht, hr, hp⟩ := y
  simp only at Y0 HW AT HL ⊢
  obtain ⟨d0, d1⟩ := cells_blk Y0.out
  unfold OneE elv at AT
  simp only at AT
  go_enter_defers Try.func4, Try.ntmps4
  go_wp2_with fail
  rw [← HW.out]
  refine AT.out.mono ?_
  rintro e w1 ⟨vt, rfl, o1, b1⟩
  obtain ⟨uo, uc, rfl⟩ := Sees.shape (Sees.own o1)
  have B1 := Lib.hid (bt B0.out b1)
  have P1 := Lib.hid (blk_below b1 P0.out)
  have E1 := Lib.hid (blk_below b1 E0.out)
  have O1 := Lib.hid o1
  have hne : w.heap.size + 1 + 1 < w1.heap.size := (Array.getElem?_eq_some_iff.1 E1.out).1
  have hel : w.heap.size + 1 + 1 < wl.heap.size := (Array.getElem?_eq_some_iff.1 E0.out).1
  clear b1 P0 E0 o1 Y0 B0 HW AT d0 d1
  obtain ⟨n, hn⟩ : ∃ n, yl.length = n := ⟨_, rfl⟩
  have HN := Lib.hid hn
  rw [hn] at O1 ⊢
  clear hn
  have hq1 : ¬ (w.heap.size + 1 + 1 = w1.heap.size) := by omega
  have hq2 : ¬ (w1.heap.size = w.heap.size + 1 + 1) := by omega
  have ce1 := cell_of_row _ _ 0 _ _ _ E1.out
  have fe1 := free4 E1.out
  have E2 := heap_setCell_same _ (w.heap.size + 1 + 1) 0 _ _ (.int .i64 x) E1.out
  simp only [List.setIfInBounds_toArray, List.set_cons_zero] at E2
  have P2 := (heap_setCell_other w1 ⟨w.heap.size + 1 + 1, 0, none⟩ (w.heap.size + 1) (.int .i64 x) (by show w.heap.size + 1 ≠ w.heap.size + 1 + 1; omega)).trans P1.out
  have B2 : Below w.heap.size w (w1.setCell ⟨w.heap.size + 1 + 1, 0, none⟩ (.int .i64 x)) := B1.out.setCell (p := ⟨w.heap.size + 1 + 1, 0, none⟩) (by show _ ≤ w.heap.size + 1 + 1; omega) _
  have O2 : (w1.setCell ⟨w.heap.size + 1 + 1, 0, none⟩ (.int .i64 x)).ownsRow wl.heap.size 42 3 (.slice uo n uc) n (runs yl) := ownsRow_setCell_below O1.out (by show w.heap.size + 1 + 1 < wl.heap.size; exact hel) _
  have hs2 : (w1.setCell ⟨w.heap.size + 1 + 1, 0, none⟩ (.int .i64 x)).heap.size = w1.heap.size := by simp
  obtain ⟨w2, hw2⟩ : ∃ z, w1.setCell ⟨w.heap.size + 1 + 1, 0, none⟩ (.int .i64 x) = z := ⟨_, rfl⟩
  rw [hw2] at E2 P2 B2 O2 hs2
  obtain ⟨WY, hWY⟩ : ∃ z, w2.alloc (.cells #[.int .u32 (t : Int), .int .u8 (r : Int), .slice uo n uc, .int .i64 p] 38) = z := ⟨_, rfl⟩
  have BY : Below w2.heap.size w2 WY := by rw [← hWY]; exact (Below.refl _ _).alloc (Nat.le_refl _) _
  have X5 : Hid (WY.heap[w1.heap.size]? = some (.cells #[.int .u32 (t : Int), .int .u8 (r : Int), .slice uo n uc, .int .i64 p] 38)) := by rw [← hWY, ← hs2]; exact blk_new rfl
  have E5 := Lib.hid (blk_below BY E2)
  have P5 := Lib.hid (blk_below BY P2)
  have B5 := Lib.hid (bt B2 BY)
  have O5 := Lib.hid (own_stays O2 BY)
  rw [← hw2] at hWY
  have HX := Lib.hid hWY
  clear hWY hw2 BY E2 P2 B2 O2 hs2 P1 E1 B1 O1
  go_upto_region 3 with fail
  rw [HX.out]
  clear ce1 fe1 hq1 hq2 HX
  obtain ⟨c0, c1, c2, c3⟩ := cells4 X5.out
  have ep := cell_of_row _ _ 0 _ _ _ P5.out
  have ee := cell_of_row _ _ 0 _ _ _ E5.out
  have fp := free4 P5.out
  have fe := free4 E5.out
  have ee2 : (WY.setCell ⟨w.heap.size + 1, 0, none⟩ (.slice uo n uc)).cell? ⟨w.heap.size + 1 + 1, 0, none⟩ = some (.int .i64 x) := (World.cell?_setCell_other _ _ _ _ (by simp)).trans ee
  go_region
  all_goals go_wp2
  clear c0 c1 c2 c3 ep ee fp fe ee2 X5
  have P6 := heap_setCell_same _ (w.heap.size + 1) 0 _ _ (.slice uo n uc) P5.out
  simp only [List.setIfInBounds_toArray, List.set_cons_zero] at P6
  have P7 := (heap_setCell_other (WY.setCell ⟨w.heap.size + 1, 0, none⟩ (.slice uo n uc)) ⟨w.heap.size + 1 + 1, 0, none⟩ (w.heap.size + 1) (.int .i64 x) (by show w.heap.size + 1 ≠ w.heap.size + 1 + 1; omega)).trans P6
  have E6 := (heap_setCell_other WY ⟨w.heap.size + 1, 0, none⟩ (w.heap.size + 1 + 1) (.slice uo n uc) (by show w.heap.size + 1 + 1 ≠ w.heap.size + 1; omega)).trans E5.out
  have E7 := heap_setCell_same _ (w.heap.size + 1 + 1) 0 _ _ (.int .i64 x) E6
  simp only [List.setIfInBounds_toArray, List.set_cons_zero] at E7
  have B7 : Below w.heap.size w ((WY.setCell ⟨w.heap.size + 1, 0, none⟩ (.slice uo n uc)).setCell ⟨w.heap.size + 1 + 1, 0, none⟩ (.int .i64 x)) := (B5.out.setCell (p := ⟨w.heap.size + 1, 0, none⟩) (by show _ ≤ w.heap.size + 1; omega) _).setCell (p := ⟨w.heap.size + 1 + 1, 0, none⟩) (by show _ ≤ w.heap.size + 1 + 1; omega) _
  have O7 : ((WY.setCell ⟨w.heap.size + 1, 0, none⟩ (.slice uo n uc)).setCell ⟨w.heap.size + 1 + 1, 0, none⟩ (.int .i64 x)).ownsRow wl.heap.size 42 3 (.slice uo n uc) n (runs yl) := ownsRow_setCell_below (ownsRow_setCell_below O5.out (by show w.heap.size + 1 < wl.heap.size; omega) _) (by show w.heap.size + 1 + 1 < wl.heap.size; exact hel) _
  generalize ((WY.setCell ⟨w.heap.size + 1, 0, none⟩ (.slice uo n uc)).setCell ⟨w.heap.size + 1 + 1, 0, none⟩ (.int .i64 x)) = WZ at P7 E7 B7 O7 ⊢
  have BD := drew1 WZ
  have P8 := blk_below BD P7
  have E8 := blk_below BD E7
  have B8 := bt B7 BD
  have O8 := own_stays O7 BD
  generalize WZ.drew = W8 at P8 E8 B8 O8 ⊢
  have ep := cell_of_row _ _ 0 _ _ _ P8
  have ee := cell_of_row _ _ 0 _ _ _ E8
  have fp := free4 P8
  refine leaves_cons (f := 9) (args := #[.pointer (some ⟨w.heap.size + 1 + 1, 0, none⟩), .pointer (some ⟨w.heap.size + 1, 0, none⟩)]) (by simp) (by simp [go_sem]) ?_
  by_cases hx : x = 0
  · subst hx
    refine (makeD_zero _ _ ee).mono ?_
    rintro e u' w'' ⟨rfl, rfl, rfl⟩
    refine ⟨.tuple #[.slice uo n uc, .int .i64 0], by simp [results, Try.results4, go_sem, ep, ee], ?_⟩
    exact ⟨_, rfl, by rw [HN.out]; exact op_base O8 (by omega), B8⟩
  · refine (makeD_err _ _ hx ee ep (fp 0)).mono ?_
    rintro e u' w'' ⟨rfl, rfl, rfl⟩
    have ep2 := World.cell?_setCell_same W8 ⟨w.heap.size + 1, 0, none⟩ (.slice none 0 0) ep
    have ee2 : (W8.setCell ⟨w.heap.size + 1, 0, none⟩ (.slice none 0 0)).cell? ⟨w.heap.size + 1 + 1, 0, none⟩ = some (.int .i64 x) := (World.cell?_setCell_other _ _ _ _ (by simp)).trans ee
    refine ⟨.tuple #[.slice none 0 0, .int .i64 x], by simp [results, Try.results4, go_sem, ep2, ee2], ?_⟩
    rw [HL.out hx]
    exact ⟨_, rfl, World.ownsRow_nil _ _ _ _, B8.setCell (p := ⟨w.heap.size + 1, 0, none⟩) (by show _ ≤ w.heap.size + 1; omega) _⟩
/-- The named results' variables: a stamp, a number, an error. -/
def Cel (W : World) (b : Nat) (t r k x : Value) : Prop := W.heap[b]? = some (.cells #[t, r] 30) ∧ W.heap[b + 1]? = some (.cells #[k] 3) ∧ W.heap[b + 1 + 1]? = some (.cells #[x] 23)
theorem Cel.keeps {W W' : World} {b : Nat} {t r k x : Value} (h : Cel W b t r k x) (hb : Below W.heap.size W W') : Cel W' b t r k x := ⟨blk_below hb h.1, blk_below hb h.2.1, blk_below hb h.2.2⟩
theorem Cel.s {W : World} {b : Nat} {t r k x : Value} (t' r' : Value) (h : Cel W b t r k x) : Cel ((W.setCell ⟨b, 0, none⟩ t').setCell ⟨b, 1, none⟩ r') b t' r' k x :=
  ⟨put2_same t' r' h.1, put2_other t' r' (by omega) h.2.1, put2_other t' r' (by omega) h.2.2⟩
theorem Cel.k {W : World} {b : Nat} {t r k x : Value} (k' : Value) (h : Cel W b t r k x) : Cel (W.setCell ⟨b + 1, 0, none⟩ k') b t r k' x := by
  have h1 := heap_setCell_same W (b + 1) 0 _ _ k' h.2.1
  simp only [List.setIfInBounds_toArray, List.set_cons_zero] at h1
  exact ⟨(heap_setCell_other W ⟨b + 1, 0, none⟩ b k' (by show b ≠ b + 1; omega)).trans h.1, h1, (heap_setCell_other W ⟨b + 1, 0, none⟩ (b + 1 + 1) k' (by show b + 1 + 1 ≠ b + 1; omega)).trans h.2.2⟩
theorem Cel.e {W : World} {b : Nat} {t r k x : Value} (x' : Value) (h : Cel W b t r k x) : Cel (W.setCell ⟨b + 1 + 1, 0, none⟩ x') b t r k x' := by
  have h1 := heap_setCell_same W (b + 1 + 1) 0 _ _ x' h.2.2
  simp only [List.setIfInBounds_toArray, List.set_cons_zero] at h1
  exact ⟨(heap_setCell_other W ⟨b + 1 + 1, 0, none⟩ b x' (by show b ≠ b + 1 + 1; omega)).trans h.1, (heap_setCell_other W ⟨b + 1 + 1, 0, none⟩ (b + 1) x' (by show b + 1 ≠ b + 1 + 1; omega)).trans h.2.1, h1⟩
theorem find_no {l : List Opn} {p : List Run} (h : ¬ (bagB l = true ∧ mayB p = true)) : findS l p = zid ∧ findN l p = 0 ∧ findE l p = 8 := by
  unfold findS findN findE
  rw [if_neg h, if_neg h, if_neg h]
  exact ⟨rfl, rfl, rfl⟩
theorem find_yes {l : List Opn} {p : List Run} (hb : bagB l = true) (hp : mayB p = true) : findS l p = homeL l p ∧ findN l p = offN l (homeL l p) p ∧ findE l p = 0 ∧ homeE l p = 0 ∧ offE l (homeL l p) p = 0 := by
  have ha : anyB p = true := by unfold anyB; rw [hp, Bool.or_true]
  have hl : homeL l p = homeM (livesM l l) p := by unfold homeL; rw [hb, ha]; rfl
  have hs : spanE l (homeM (livesM l l) p) = 0 := home_where ((bagB_iff l).1 hb) p
  have hs2 : spanE l (homeL l p) = 0 := by rw [hl]; exact hs
  refine ⟨?_, ?_, ?_, ?_, ?_⟩
  · unfold findS; rw [if_pos ⟨hb, hp⟩, hl]
  · unfold findN offN; rw [if_pos ⟨hb, hp⟩, if_pos ⟨hs2, ha⟩, hl]
  · unfold findE; rw [if_pos ⟨hb, hp⟩]
  · unfold homeE; rw [hb, ha]; rfl
  · unfold offE; rw [if_pos hs2, if_pos ha]
set_option maxRecDepth 100000 in
set_option maxHeartbeats 4000000 in
theorem aFind_any {v u : Value} {l : List Opn} {p : List Run} {w : World} (hv : OpL w v l) (hu : Runs w u p) : Calls Try.prog 6 #[v, u] w (OneF (findS l p) (findN l p) (findE l p) w) := by
  have hmf : ∀ (fn : Fn) (first cap : Array Value) (w : World), (Instr.makeFunc fn first cap).run Try.prog w = .ok (.func fn first cap) w := fun _ _ _ _ => rfl
  obtain ⟨wa, hwa⟩ : ∃ x, x = w.alloc (.cells #[.int .u32 0, .int .u8 0] 30) := ⟨_, rfl⟩
  obtain ⟨wb, hwb⟩ : ∃ x, x = wa.alloc (.cells #[.int .i64 0] 3) := ⟨_, rfl⟩
  obtain ⟨wl, hwl⟩ : ∃ x, x = wb.alloc (.cells #[.int .i64 0] 23) := ⟨_, rfl⟩
  have hsa : wa.heap.size = w.heap.size + 1 := by rw [hwa]; exact Array.size_push _
  have hsb : wb.heap.size = w.heap.size + 1 + 1 := by rw [hwb]; exact (Array.size_push _).trans (by rw [hsa])
  have Ba : Below w.heap.size w wa := by rw [hwa]; exact (Below.refl _ _).alloc (Nat.le_refl _) _
  have Bab : Below wa.heap.size wa wb := by rw [hwb]; exact (Below.refl _ _).alloc (Nat.le_refl _) _
  have Bbl : Below wb.heap.size wb wl := by rw [hwl]; exact (Below.refl _ _).alloc (Nat.le_refl _) _
  have B0 : Hid (Below w.heap.size w wl) := bt Ba (bt Bab Bbl)
  have C0 : Hid (Cel wl w.heap.size (.int .u32 0) (.int .u8 0) (.int .i64 0) (.int .i64 0)) := by
    refine ⟨blk_below Bbl (blk_below Bab ?_), blk_below Bbl ?_, ?_⟩
    · rw [hwa]; exact blk_new rfl
    · rw [hwb, ← hsa]; exact blk_new rfl
    · rw [hwl, ← hsb]; exact blk_new rfl
  have HW : Hid (wl = ((w.alloc (.cells #[.int .u32 0, .int .u8 0] 30)).alloc (.cells #[.int .i64 0] 3)).alloc (.cells #[.int .i64 0] 23)) := by rw [hwl, hwb, hwa]; rfl
  have HO : Hid (Calls Try.prog 12 #[v, u] wl (OneI (homeL l p) (homeE l p) wl)) := hOf_any (hv.keeps B0.out) (hu.keeps B0.out)
  have CK : Hid (∀ W : World, Below w.heap.size w W → Calls Try.prog 13 #[u] W fun e w' => e = .returned (.int .i64 (Go.Proofs.Ytmiepnnpccpicaa.Place.chk p)) ∧ Below W.heap.size W w') := fun W h => Go.Proofs.Ytmiepnnpccpicaa.Place.check_any (hu.keeps h)
  have OF : Hid (∀ (W : World) (s : Id), Below w.heap.size w W → Calls Try.prog 14 #[v, .agg #[.int .u32 (s.t : Int), .int .u8 (s.r : Int)], u] W fun e w' => e = .returned (.tuple #[.int .i64 ((offN l s p : Nat) : Int), .int .i64 (offE l s p)]) ∧ Below W.heap.size W w') := fun W s h => vOffset_any s (hv.keeps h) (hu.keeps h)
  have HNO : Hid (¬ (bagB l = true ∧ mayB p = true) → findS l p = zid ∧ findN l p = 0 ∧ findE l p = 8) := find_no
  have HYES : Hid (bagB l = true → mayB p = true → findS l p = homeL l p ∧ findN l p = offN l (homeL l p) p ∧ findE l p = 0 ∧ homeE l p = 0 ∧ offE l (homeL l p) p = 0) := find_yes
  have hE8 : homeE l p ≠ 0 → homeE l p = 8 ∧ ¬ (bagB l = true ∧ mayB p = true) := fun h => by
    refine ⟨?_, fun h2 => h (find_yes h2.1 h2.2).2.2.2.1⟩
    unfold homeE at h ⊢
    split
    · rename_i h2; rw [if_pos h2] at h; exact absurd rfl h
    · rfl
  have hC8 : mayB p ≠ true → Go.Proofs.Ytmiepnnpccpicaa.Place.chk p = 8 := fun h => by unfold Go.Proofs.Ytmiepnnpccpicaa.Place.chk; rw [if_neg h]
  have hC0 : mayB p = true → Go.Proofs.Ytmiepnnpccpicaa.Place.chk p = 0 := fun h => by unfold Go.Proofs.Ytmiepnnpccpicaa.Place.chk; rw [if_pos h]
  have hB0 : homeE l p = 0 → bagB l = true := fun h => by
    unfold homeE at h
    split at h
    · rename_i h2; exact (Bool.and_eq_true _ _ ▸ h2).1
    · cases h
  clear hv hu hwa hwb hwl hsa hsb Ba Bab Bbl
  obtain ⟨⟨T, r, hT, hr⟩, hH⟩ : ∃ z, homeL l p = z := ⟨_, rfl⟩
  obtain ⟨x, hx⟩ : ∃ z, homeE l p = z := ⟨_, rfl⟩
  unfold OneI at HO
  rw [hH, hx] at HO
  simp only at HO
  by_cases h0 : x = 0
  rotate_left
  · obtain ⟨a1, a2⟩ := hE8 (by rw [hx]; exact h0)
    obtain ⟨e1, e2, e3⟩ := HNO.out a2
    obtain rfl : x = 8 := hx.symm.trans a1
    rw [e1, e2, e3]
    have HX0 : Hid ((8 : Int) ≠ 0) := by unfold Hid; decide
    have HG : Hid (∀ (e : Ending) (w' : World), e = .returned (.tuple #[.agg #[.int .u32 0, .int .u8 0], .int .i64 0, .int .i64 8]) ∧ Below w.heap.size w w' → OneF zid 0 8 w e w') := fun _ _ h => h
    clear CK OF HNO HYES hE8 hC8 hC0 hB0 hH hx a1 a2 e1 e2 e3 h0
    go_enter_defers Try.func6, Try.ntmps6
    go_wp2_with fail
    rw [← HW.out]
    refine HO.out.mono ?_
    rintro e w1 ⟨rfl, b1⟩
    have C1 := Lib.hid (C0.out.keeps b1)
    have B1 := Lib.hid (bt B0.out b1)
    clear b1 C0 B0 HW HO
    obtain ⟨cs0, cs1, -, -⟩ := cells_blk C1.out.1
    have ck := cell_of_row _ _ 0 _ _ _ C1.out.2.1
    have ce := cell_of_row _ _ 0 _ _ _ C1.out.2.2
    have fs := frz2 C1.out.1
    have fk := frz2 C1.out.2.1
    have fe := frz2 C1.out.2.2
    have ce2 : ((w1.setCell ⟨w.heap.size, 0, none⟩ (.int .u32 (T : Int))).setCell ⟨w.heap.size, 1, none⟩ (.int .u8 (r : Int))).cell? ⟨w.heap.size + 1 + 1, 0, none⟩ = some (.int .i64 0) := (World.cell?_setCell_other _ _ _ _ (by simp)).trans ((World.cell?_setCell_other _ _ _ _ (by simp)).trans ce)
    have C2 := Lib.hid ((C1.out.s (.int .u32 (T : Int)) (.int .u8 (r : Int))).e (.int .i64 8))
    have B2 : Hid (Below w.heap.size w (((w1.setCell ⟨w.heap.size, 0, none⟩ (.int .u32 (T : Int))).setCell ⟨w.heap.size, 1, none⟩ (.int .u8 (r : Int))).setCell ⟨w.heap.size + 1 + 1, 0, none⟩ (.int .i64 8))) := ((B1.out.setCell (p := ⟨w.heap.size, 0, none⟩) (Nat.le_refl _) _).setCell (p := ⟨w.heap.size, 1, none⟩) (Nat.le_refl _) _).setCell (p := ⟨w.heap.size + 1 + 1, 0, none⟩) (by show _ ≤ w.heap.size + 1 + 1; omega) _
    go_upto_region 3 with fail
    generalize ((w1.setCell ⟨w.heap.size, 0, none⟩ (.int .u32 (T : Int))).setCell ⟨w.heap.size, 1, none⟩ (.int .u8 (r : Int))).setCell ⟨w.heap.size + 1 + 1, 0, none⟩ (.int .i64 8) = w2 at C2 B2 ⊢
    clear cs0 cs1 ck ce fs fk fe ce2 C1 B1
    have ce := cell_of_row _ _ 0 _ _ _ C2.out.2.2
    go_upto_region 4 with fail
    clear ce
    obtain ⟨cs0, cs1, -, -⟩ := cells_blk C2.out.1
    have ck := cell_of_row _ _ 0 _ _ _ C2.out.2.1
    have ce := cell_of_row _ _ 0 _ _ _ C2.out.2.2
    have fs := frz2 C2.out.1
    have fk := frz2 C2.out.2.1
    have fe := frz2 C2.out.2.2
    have ck2 : ((w2.setCell ⟨w.heap.size, 0, none⟩ (.int .u32 (T : Int))).setCell ⟨w.heap.size, 1, none⟩ (.int .u8 (r : Int))).cell? ⟨w.heap.size + 1, 0, none⟩ = some (.int .i64 0) := (World.cell?_setCell_other _ _ _ _ (by simp)).trans ((World.cell?_setCell_other _ _ _ _ (by simp)).trans ck)
    have ce2 : (((w2.setCell ⟨w.heap.size, 0, none⟩ (.int .u32 (T : Int))).setCell ⟨w.heap.size, 1, none⟩ (.int .u8 (r : Int))).setCell ⟨w.heap.size + 1, 0, none⟩ (.int .i64 0)).cell? ⟨w.heap.size + 1 + 1, 0, none⟩ = some (.int .i64 8) := (World.cell?_setCell_other _ _ _ _ (by simp)).trans ((World.cell?_setCell_other _ _ _ _ (by simp)).trans ((World.cell?_setCell_other _ _ _ _ (by simp)).trans ce))
    go_region
    all_goals go_wp2
    clear cs0 cs1 ck ce fs fk fe ck2 ce2
    have C9 := ((C2.out.s (.int .u32 (T : Int)) (.int .u8 (r : Int))).k (.int .i64 0)).e (.int .i64 8)
    have B9 : Below w.heap.size w ((((w2.setCell ⟨w.heap.size, 0, none⟩ (.int .u32 (T : Int))).setCell ⟨w.heap.size, 1, none⟩ (.int .u8 (r : Int))).setCell ⟨w.heap.size + 1, 0, none⟩ (.int .i64 0)).setCell ⟨w.heap.size + 1 + 1, 0, none⟩ (.int .i64 8)) := ((((B2.out.setCell (p := ⟨w.heap.size, 0, none⟩) (Nat.le_refl _) _).setCell (p := ⟨w.heap.size, 1, none⟩) (Nat.le_refl _) _).setCell (p := ⟨w.heap.size + 1, 0, none⟩) (by show _ ≤ w.heap.size + 1; omega) _).setCell (p := ⟨w.heap.size + 1 + 1, 0, none⟩) (by show _ ≤ w.heap.size + 1 + 1; omega) _)
    generalize ((((w2.setCell ⟨w.heap.size, 0, none⟩ (.int .u32 (T : Int))).setCell ⟨w.heap.size, 1, none⟩ (.int .u8 (r : Int))).setCell ⟨w.heap.size + 1, 0, none⟩ (.int .i64 0)).setCell ⟨w.heap.size + 1 + 1, 0, none⟩ (.int .i64 8)) = WZ at C9 B9 ⊢
    have C8 := C9.keeps (drew1 WZ)
    have B8 := bt B9 (drew1 WZ)
    generalize WZ.drew = W8 at C8 B8 ⊢
    obtain ⟨cs0, cs1, -, -⟩ := cells_blk C8.1
    have ck := cell_of_row _ _ 0 _ _ _ C8.2.1
    have ce := cell_of_row _ _ 0 _ _ _ C8.2.2
    refine leaves_cons (f := 11) (args := #[.pointer (some ⟨w.heap.size + 1 + 1, 0, none⟩), .pointer (some ⟨w.heap.size, 0, none⟩), .pointer (some ⟨w.heap.size + 1, 0, none⟩)]) (by simp) (by simp [go_sem]) ?_
    refine (findD_err _ _ _ (by omega) (x := 8) HX0.out ce cs0 cs1 (frz2 C8.1) ck (frz2 C8.2.1 0)).mono ?_
    rintro e u' w'' ⟨rfl, rfl, rfl⟩
    have C7 := (C8.s (.int .u32 0) (.int .u8 0)).k (.int .i64 0)
    have B7 : Below w.heap.size w ((put2 W8 w.heap.size (.int .u32 0) (.int .u8 0)).setCell ⟨w.heap.size + 1, 0, none⟩ (.int .i64 0)) := (put2_below _ _ (Nat.le_refl _) B8).setCell (p := ⟨w.heap.size + 1, 0, none⟩) (by show _ ≤ w.heap.size + 1; omega) _
    unfold put2 at B7 ⊢
    generalize ((W8.setCell ⟨w.heap.size, 0, none⟩ (.int .u32 0)).setCell ⟨w.heap.size, 1, none⟩ (.int .u8 0)).setCell ⟨w.heap.size + 1, 0, none⟩ (.int .i64 0) = W7 at C7 B7 ⊢
    obtain ⟨xs0, xs1, -, -⟩ := cells_blk C7.1
    have xk := cell_of_row _ _ 0 _ _ _ C7.2.1
    have xe := cell_of_row _ _ 0 _ _ _ C7.2.2
    refine ⟨.tuple #[.agg #[.int .u32 0, .int .u8 0], .int .i64 0, .int .i64 8], by simp [results, Try.results6, go_sem, xs0, xs1, xk, xe], ?_⟩
    exact ⟨rfl, B7⟩
  subst h0
  have hbag := hB0 hx
  by_cases hm : mayB p = true
  rotate_left
  · have hc := hC8 hm
    obtain ⟨e1, e2, e3⟩ := HNO.out (fun h => hm h.2)
    rw [e1, e2, e3]
    rw [hc] at CK
    have HX0 : Hid ((8 : Int) ≠ 0) := by unfold Hid; decide
    have HG : Hid (∀ (e : Ending) (w' : World), e = .returned (.tuple #[.agg #[.int .u32 0, .int .u8 0], .int .i64 0, .int .i64 8]) ∧ Below w.heap.size w w' → OneF zid 0 8 w e w') := fun _ _ h => h
    clear OF HNO HYES hE8 hC8 hC0 hB0 hH hx e1 e2 e3 hc hm hbag
    go_enter_defers Try.func6, Try.ntmps6
    go_wp2_with fail
    rw [← HW.out]
    refine HO.out.mono ?_
    rintro e w1 ⟨rfl, b1⟩
    have C1 := Lib.hid (C0.out.keeps b1)
    have B1 := Lib.hid (bt B0.out b1)
    clear b1 C0 B0 HW HO
    obtain ⟨cs0, cs1, -, -⟩ := cells_blk C1.out.1
    have ck := cell_of_row _ _ 0 _ _ _ C1.out.2.1
    have ce := cell_of_row _ _ 0 _ _ _ C1.out.2.2
    have fs := frz2 C1.out.1
    have fk := frz2 C1.out.2.1
    have fe := frz2 C1.out.2.2
    have ce2 : ((w1.setCell ⟨w.heap.size, 0, none⟩ (.int .u32 (T : Int))).setCell ⟨w.heap.size, 1, none⟩ (.int .u8 (r : Int))).cell? ⟨w.heap.size + 1 + 1, 0, none⟩ = some (.int .i64 0) := (World.cell?_setCell_other _ _ _ _ (by simp)).trans ((World.cell?_setCell_other _ _ _ _ (by simp)).trans ce)
    have C2 := Lib.hid ((C1.out.s (.int .u32 (T : Int)) (.int .u8 (r : Int))).e (.int .i64 0))
    have B2 : Hid (Below w.heap.size w (((w1.setCell ⟨w.heap.size, 0, none⟩ (.int .u32 (T : Int))).setCell ⟨w.heap.size, 1, none⟩ (.int .u8 (r : Int))).setCell ⟨w.heap.size + 1 + 1, 0, none⟩ (.int .i64 0))) := ((B1.out.setCell (p := ⟨w.heap.size, 0, none⟩) (Nat.le_refl _) _).setCell (p := ⟨w.heap.size, 1, none⟩) (Nat.le_refl _) _).setCell (p := ⟨w.heap.size + 1 + 1, 0, none⟩) (by show _ ≤ w.heap.size + 1 + 1; omega) _
    go_upto_region 3 with fail
    generalize ((w1.setCell ⟨w.heap.size, 0, none⟩ (.int .u32 (T : Int))).setCell ⟨w.heap.size, 1, none⟩ (.int .u8 (r : Int))).setCell ⟨w.heap.size + 1 + 1, 0, none⟩ (.int .i64 0) = w2 at C2 B2 ⊢
    clear cs0 cs1 ck ce fs fk fe ce2 C1 B1
    have ce := cell_of_row _ _ 0 _ _ _ C2.out.2.2
    go_wp2_with fail
    refine (CK.out _ B2.out).mono ?_
    rintro e w3 ⟨rfl, b3⟩
    have C3 := Lib.hid (C2.out.keeps b3)
    have B3 := Lib.hid (bt B2.out b3)
    clear b3 C2 B2 CK ce
    have ce := cell_of_row _ _ 0 _ _ _ C3.out.2.2
    have fe := frz2 C3.out.2.2
    have C4 := Lib.hid (C3.out.e (.int .i64 8))
    have B4 : Hid (Below w.heap.size w (w3.setCell ⟨w.heap.size + 1 + 1, 0, none⟩ (.int .i64 8))) := B3.out.setCell (p := ⟨w.heap.size + 1 + 1, 0, none⟩) (by show _ ≤ w.heap.size + 1 + 1; omega) _
    go_upto_region 6 with fail
    generalize w3.setCell ⟨w.heap.size + 1 + 1, 0, none⟩ (.int .i64 8) = w4 at C4 B4 ⊢
    clear ce fe C3 B3
    have ce := cell_of_row _ _ 0 _ _ _ C4.out.2.2
    go_upto_region 7 with fail
    clear ce
    obtain ⟨cs0, cs1, -, -⟩ := cells_blk C4.out.1
    have ck := cell_of_row _ _ 0 _ _ _ C4.out.2.1
    have ce := cell_of_row _ _ 0 _ _ _ C4.out.2.2
    have fs := frz2 C4.out.1
    have fk := frz2 C4.out.2.1
    have fe := frz2 C4.out.2.2
    have ck2 : ((w4.setCell ⟨w.heap.size, 0, none⟩ (.int .u32 (T : Int))).setCell ⟨w.heap.size, 1, none⟩ (.int .u8 (r : Int))).cell? ⟨w.heap.size + 1, 0, none⟩ = some (.int .i64 0) := (World.cell?_setCell_other _ _ _ _ (by simp)).trans ((World.cell?_setCell_other _ _ _ _ (by simp)).trans ck)
    have ce2 : (((w4.setCell ⟨w.heap.size, 0, none⟩ (.int .u32 (T : Int))).setCell ⟨w.heap.size, 1, none⟩ (.int .u8 (r : Int))).setCell ⟨w.heap.size + 1, 0, none⟩ (.int .i64 0)).cell? ⟨w.heap.size + 1 + 1, 0, none⟩ = some (.int .i64 8) := (World.cell?_setCell_other _ _ _ _ (by simp)).trans ((World.cell?_setCell_other _ _ _ _ (by simp)).trans ((World.cell?_setCell_other _ _ _ _ (by simp)).trans ce))
    go_region
    all_goals go_wp2
    clear cs0 cs1 ck ce fs fk fe ck2 ce2
    have C9 := ((C4.out.s (.int .u32 (T : Int)) (.int .u8 (r : Int))).k (.int .i64 0)).e (.int .i64 8)
    have B9 : Below w.heap.size w ((((w4.setCell ⟨w.heap.size, 0, none⟩ (.int .u32 (T : Int))).setCell ⟨w.heap.size, 1, none⟩ (.int .u8 (r : Int))).setCell ⟨w.heap.size + 1, 0, none⟩ (.int .i64 0)).setCell ⟨w.heap.size + 1 + 1, 0, none⟩ (.int .i64 8)) := ((((B4.out.setCell (p := ⟨w.heap.size, 0, none⟩) (Nat.le_refl _) _).setCell (p := ⟨w.heap.size, 1, none⟩) (Nat.le_refl _) _).setCell (p := ⟨w.heap.size + 1, 0, none⟩) (by show _ ≤ w.heap.size + 1; omega) _).setCell (p := ⟨w.heap.size + 1 + 1, 0, none⟩) (by show _ ≤ w.heap.size + 1 + 1; omega) _)
    generalize ((((w4.setCell ⟨w.heap.size, 0, none⟩ (.int .u32 (T : Int))).setCell ⟨w.heap.size, 1, none⟩ (.int .u8 (r : Int))).setCell ⟨w.heap.size + 1, 0, none⟩ (.int .i64 0)).setCell ⟨w.heap.size + 1 + 1, 0, none⟩ (.int .i64 8)) = WZ at C9 B9 ⊢
    have C8 := C9.keeps (drew1 WZ)
    have B8 := bt B9 (drew1 WZ)
    generalize WZ.drew = W8 at C8 B8 ⊢
    obtain ⟨cs0, cs1, -, -⟩ := cells_blk C8.1
    have ck := cell_of_row _ _ 0 _ _ _ C8.2.1
    have ce := cell_of_row _ _ 0 _ _ _ C8.2.2
    refine leaves_cons (f := 11) (args := #[.pointer (some ⟨w.heap.size + 1 + 1, 0, none⟩), .pointer (some ⟨w.heap.size, 0, none⟩), .pointer (some ⟨w.heap.size + 1, 0, none⟩)]) (by simp) (by simp [go_sem]) ?_
    refine (findD_err _ _ _ (by omega) (x := 8) HX0.out ce cs0 cs1 (frz2 C8.1) ck (frz2 C8.2.1 0)).mono ?_
    rintro e u' w'' ⟨rfl, rfl, rfl⟩
    have C7 := (C8.s (.int .u32 0) (.int .u8 0)).k (.int .i64 0)
    have B7 : Below w.heap.size w ((put2 W8 w.heap.size (.int .u32 0) (.int .u8 0)).setCell ⟨w.heap.size + 1, 0, none⟩ (.int .i64 0)) := (put2_below _ _ (Nat.le_refl _) B8).setCell (p := ⟨w.heap.size + 1, 0, none⟩) (by show _ ≤ w.heap.size + 1; omega) _
    unfold put2 at B7 ⊢
    generalize ((W8.setCell ⟨w.heap.size, 0, none⟩ (.int .u32 0)).setCell ⟨w.heap.size, 1, none⟩ (.int .u8 0)).setCell ⟨w.heap.size + 1, 0, none⟩ (.int .i64 0) = W7 at C7 B7 ⊢
    obtain ⟨xs0, xs1, -, -⟩ := cells_blk C7.1
    have xk := cell_of_row _ _ 0 _ _ _ C7.2.1
    have xe := cell_of_row _ _ 0 _ _ _ C7.2.2
    refine ⟨.tuple #[.agg #[.int .u32 0, .int .u8 0], .int .i64 0, .int .i64 8], by simp [results, Try.results6, go_sem, xs0, xs1, xk, xe], ?_⟩
    exact ⟨rfl, B7⟩
  have hc := hC0 hm
  rw [hc] at CK
  obtain ⟨e1, e2, e3, _, e5⟩ := HYES.out hbag hm
  have OF2 := Lib.hid (fun W h => OF.out W (homeL l p) h)
  rw [e5] at OF2
  rw [e1, e2, e3]
  rw [hH] at OF2 ⊢
  obtain ⟨n, hn⟩ : ∃ z, offN l ⟨T, r, hT, hr⟩ p = z := ⟨_, rfl⟩
  rw [hn] at OF2 ⊢
  simp only at OF2
  clear OF HNO HYES hE8 hC8 hC0 hB0 hH hx e1 e2 e3 e5 hc hm hbag hn
  go_enter_defers Try.func6, Try.ntmps6
  go_wp2_with fail
  rw [← HW.out]
  refine HO.out.mono ?_
  rintro e w1 ⟨rfl, b1⟩
  have C1 := Lib.hid (C0.out.keeps b1)
  have B1 := Lib.hid (bt B0.out b1)
  clear b1 C0 B0 HW HO
  obtain ⟨cs0, cs1, -, -⟩ := cells_blk C1.out.1
  have ck := cell_of_row _ _ 0 _ _ _ C1.out.2.1
  have ce := cell_of_row _ _ 0 _ _ _ C1.out.2.2
  have fs := frz2 C1.out.1
  have fk := frz2 C1.out.2.1
  have fe := frz2 C1.out.2.2
  have ce2 : ((w1.setCell ⟨w.heap.size, 0, none⟩ (.int .u32 (T : Int))).setCell ⟨w.heap.size, 1, none⟩ (.int .u8 (r : Int))).cell? ⟨w.heap.size + 1 + 1, 0, none⟩ = some (.int .i64 0) := (World.cell?_setCell_other _ _ _ _ (by simp)).trans ((World.cell?_setCell_other _ _ _ _ (by simp)).trans ce)
  have C2 := Lib.hid ((C1.out.s (.int .u32 (T : Int)) (.int .u8 (r : Int))).e (.int .i64 0))
  have B2 : Hid (Below w.heap.size w (((w1.setCell ⟨w.heap.size, 0, none⟩ (.int .u32 (T : Int))).setCell ⟨w.heap.size, 1, none⟩ (.int .u8 (r : Int))).setCell ⟨w.heap.size + 1 + 1, 0, none⟩ (.int .i64 0))) := ((B1.out.setCell (p := ⟨w.heap.size, 0, none⟩) (Nat.le_refl _) _).setCell (p := ⟨w.heap.size, 1, none⟩) (Nat.le_refl _) _).setCell (p := ⟨w.heap.size + 1 + 1, 0, none⟩) (by show _ ≤ w.heap.size + 1 + 1; omega) _
  go_upto_region 3 with fail
  generalize ((w1.setCell ⟨w.heap.size, 0, none⟩ (.int .u32 (T : Int))).setCell ⟨w.heap.size, 1, none⟩ (.int .u8 (r : Int))).setCell ⟨w.heap.size + 1 + 1, 0, none⟩ (.int .i64 0) = w2 at C2 B2 ⊢
  clear cs0 cs1 ck ce fs fk fe ce2 C1 B1
  have ce := cell_of_row _ _ 0 _ _ _ C2.out.2.2
  go_wp2_with fail
  refine (CK.out _ B2.out).mono ?_
  rintro e w3 ⟨rfl, b3⟩
  have C3 := Lib.hid (C2.out.keeps b3)
  have B3 := Lib.hid (bt B2.out b3)
  clear b3 C2 B2 CK ce
  have ce := cell_of_row _ _ 0 _ _ _ C3.out.2.2
  have fe := frz2 C3.out.2.2
  have C4 := Lib.hid (C3.out.e (.int .i64 0))
  have B4 : Hid (Below w.heap.size w (w3.setCell ⟨w.heap.size + 1 + 1, 0, none⟩ (.int .i64 0))) := B3.out.setCell (p := ⟨w.heap.size + 1 + 1, 0, none⟩) (by show _ ≤ w.heap.size + 1 + 1; omega) _
  go_upto_region 6 with fail
  generalize w3.setCell ⟨w.heap.size + 1 + 1, 0, none⟩ (.int .i64 0) = w4 at C4 B4 ⊢
  clear ce fe C3 B3
  have ce := cell_of_row _ _ 0 _ _ _ C4.out.2.2
  obtain ⟨cs0, cs1, -, -⟩ := cells_blk C4.out.1
  go_wp2_with fail
  refine (OF2.out _ B4.out).mono ?_
  rintro e w5 ⟨rfl, b5⟩
  have C5 := Lib.hid (C4.out.keeps b5)
  have B5 := Lib.hid (bt B4.out b5)
  clear b5 C4 B4 OF2 ce cs0 cs1
  obtain ⟨cs0, cs1, -, -⟩ := cells_blk C5.out.1
  have ck := cell_of_row _ _ 0 _ _ _ C5.out.2.1
  have ce := cell_of_row _ _ 0 _ _ _ C5.out.2.2
  have fs := frz2 C5.out.1
  have fk := frz2 C5.out.2.1
  have fe := frz2 C5.out.2.2
  have ce2 : (w5.setCell ⟨w.heap.size + 1, 0, none⟩ (.int .i64 (n : Int))).cell? ⟨w.heap.size + 1 + 1, 0, none⟩ = some (.int .i64 0) := (World.cell?_setCell_other _ _ _ _ (by simp)).trans ce
  have C6 := Lib.hid ((C5.out.k (.int .i64 (n : Int))).e (.int .i64 0))
  have B6 : Hid (Below w.heap.size w ((w5.setCell ⟨w.heap.size + 1, 0, none⟩ (.int .i64 (n : Int))).setCell ⟨w.heap.size + 1 + 1, 0, none⟩ (.int .i64 0))) := (B5.out.setCell (p := ⟨w.heap.size + 1, 0, none⟩) (by show _ ≤ w.heap.size + 1; omega) _).setCell (p := ⟨w.heap.size + 1 + 1, 0, none⟩) (by show _ ≤ w.heap.size + 1 + 1; omega) _
  go_upto_region 9 with fail
  generalize (w5.setCell ⟨w.heap.size + 1, 0, none⟩ (.int .i64 (n : Int))).setCell ⟨w.heap.size + 1 + 1, 0, none⟩ (.int .i64 0) = w6 at C6 B6 ⊢
  clear cs0 cs1 ck ce fs fk fe ce2 C5 B5
  obtain ⟨cs0, cs1, -, -⟩ := cells_blk C6.out.1
  have ck := cell_of_row _ _ 0 _ _ _ C6.out.2.1
  have ce := cell_of_row _ _ 0 _ _ _ C6.out.2.2
  have fs := frz2 C6.out.1
  have fk := frz2 C6.out.2.1
  have fe := frz2 C6.out.2.2
  have ck2 : ((w6.setCell ⟨w.heap.size, 0, none⟩ (.int .u32 (T : Int))).setCell ⟨w.heap.size, 1, none⟩ (.int .u8 (r : Int))).cell? ⟨w.heap.size + 1, 0, none⟩ = some (.int .i64 (n : Int)) := (World.cell?_setCell_other _ _ _ _ (by simp)).trans ((World.cell?_setCell_other _ _ _ _ (by simp)).trans ck)
  have ce2 : (((w6.setCell ⟨w.heap.size, 0, none⟩ (.int .u32 (T : Int))).setCell ⟨w.heap.size, 1, none⟩ (.int .u8 (r : Int))).setCell ⟨w.heap.size + 1, 0, none⟩ (.int .i64 (n : Int))).cell? ⟨w.heap.size + 1 + 1, 0, none⟩ = some (.int .i64 0) := (World.cell?_setCell_other _ _ _ _ (by simp)).trans ((World.cell?_setCell_other _ _ _ _ (by simp)).trans ((World.cell?_setCell_other _ _ _ _ (by simp)).trans ce))
  go_region
  all_goals go_wp2
  clear cs0 cs1 ck ce fs fk fe ck2 ce2
  have C9 := ((C6.out.s (.int .u32 (T : Int)) (.int .u8 (r : Int))).k (.int .i64 (n : Int))).e (.int .i64 0)
  have B9 : Below w.heap.size w ((((w6.setCell ⟨w.heap.size, 0, none⟩ (.int .u32 (T : Int))).setCell ⟨w.heap.size, 1, none⟩ (.int .u8 (r : Int))).setCell ⟨w.heap.size + 1, 0, none⟩ (.int .i64 (n : Int))).setCell ⟨w.heap.size + 1 + 1, 0, none⟩ (.int .i64 0)) := ((((B6.out.setCell (p := ⟨w.heap.size, 0, none⟩) (Nat.le_refl _) _).setCell (p := ⟨w.heap.size, 1, none⟩) (Nat.le_refl _) _).setCell (p := ⟨w.heap.size + 1, 0, none⟩) (by show _ ≤ w.heap.size + 1; omega) _).setCell (p := ⟨w.heap.size + 1 + 1, 0, none⟩) (by show _ ≤ w.heap.size + 1 + 1; omega) _)
  generalize ((((w6.setCell ⟨w.heap.size, 0, none⟩ (.int .u32 (T : Int))).setCell ⟨w.heap.size, 1, none⟩ (.int .u8 (r : Int))).setCell ⟨w.heap.size + 1, 0, none⟩ (.int .i64 (n : Int))).setCell ⟨w.heap.size + 1 + 1, 0, none⟩ (.int .i64 0)) = WZ at C9 B9 ⊢
  have C8 := C9.keeps (drew1 WZ)
  have B8 := bt B9 (drew1 WZ)
  generalize WZ.drew = W8 at C8 B8 ⊢
  obtain ⟨cs0, cs1, -, -⟩ := cells_blk C8.1
  have ck := cell_of_row _ _ 0 _ _ _ C8.2.1
  have ce := cell_of_row _ _ 0 _ _ _ C8.2.2
  refine leaves_cons (f := 11) (args := #[.pointer (some ⟨w.heap.size + 1 + 1, 0, none⟩), .pointer (some ⟨w.heap.size, 0, none⟩), .pointer (some ⟨w.heap.size + 1, 0, none⟩)]) (by simp) (by simp [go_sem]) ?_
  refine (findD_zero _ _ _ ce).mono ?_
  rintro e u' w'' ⟨rfl, rfl, rfl⟩
  refine ⟨.tuple #[.agg #[.int .u32 (T : Int), .int .u8 (r : Int)], .int .i64 (n : Int), .int .i64 0], by simp [results, Try.results6, go_sem, cs0, cs1, ck, ce], ?_⟩
  exact ⟨rfl, B8⟩
end Go.Proofs.Ytmiepnnpccpicaa.Anchors

namespace Go.Proofs.Ytmiepnnpccpicaa.Anchors
open Go.RowKit Go.WideShapes Stamp Go.Proofs.Ytmiepnnpccpicaa.Place Ops Codes Bags Marks Homes Covers Views
attribute [local go_sem ↓] Go.wp_at_zero Go.wp_at_succ
attribute [local go_sem] yielded_undef
def pa : List Run := [⟨1, 0, 1, by decide, by decide, by decide⟩]
def pb : List Run := [⟨1, 0, 2, by decide, by decide, by decide⟩]
def oa : Opn := ⟨1, 1, 0, pa, 65, by decide, by decide, by decide, by decide⟩
def ob : Opn := ⟨1, 2, 0, pb, 66, by decide, by decide, by decide, by decide⟩
def og : Opn := ⟨3, 10, 1, pa, 0, by decide, by decide, by decide, by decide⟩
/-- The chapter's two inserts. -/
def TwoA (w : World) (e : Ending) (w' : World) : Prop := ∃ g h1 h2, e = .returned (.slice (some ⟨g, 0, none⟩) 2 2) ∧ w'.heap[g]? = some (.cells #[.int .u8 1, .int .u32 1, .int .u8 0, .slice (some ⟨h1, 0, none⟩) 1 1, .int .i64 65, .int .u8 1, .int .u32 2, .int .u8 0, .slice (some ⟨h2, 0, none⟩) 1 1, .int .i64 66] 36) ∧ w'.ownsRow w.heap.size 42 3 (.slice (some ⟨h1, 0, none⟩) 1 1) 1 (runs pa) ∧ w'.ownsRow w.heap.size 42 3 (.slice (some ⟨h2, 0, none⟩) 1 1) 1 (runs pb) ∧ w'.ownsRow w.heap.size 36 5 (.slice (some ⟨g, 0, none⟩) 2 2) 2 [.int .u8 1, .int .u32 1, .int .u8 0, .slice (some ⟨h1, 0, none⟩) 1 1, .int .i64 65, .int .u8 1, .int .u32 2, .int .u8 0, .slice (some ⟨h2, 0, none⟩) 1 1, .int .i64 66] ∧ Below w.heap.size w w'
theorem two_hold {w : World} {b h1 h2 : Nat} (r1 : w.ownsRow b 42 3 (.slice (some ⟨h1, 0, none⟩) 1 1) 1 (runs pa)) (r2 : w.ownsRow b 42 3 (.slice (some ⟨h2, 0, none⟩) 1 1) 1 (runs pb)) : HoldP w b [.int .u8 1, .int .u32 1, .int .u8 0, .slice (some ⟨h1, 0, none⟩) 1 1, .int .i64 65, .int .u8 1, .int .u32 2, .int .u8 0, .slice (some ⟨h2, 0, none⟩) 1 1, .int .i64 66] [oa, ob] := ⟨_, _, rfl, r1, _, _, rfl, r2, rfl⟩
theorem two_opl {w : World} {b g h1 h2 : Nat} (r1 : w.ownsRow b 42 3 (.slice (some ⟨h1, 0, none⟩) 1 1) 1 (runs pa)) (r2 : w.ownsRow b 42 3 (.slice (some ⟨h2, 0, none⟩) 1 1) 1 (runs pb)) (r3 : w.ownsRow b 36 5 (.slice (some ⟨g, 0, none⟩) 2 2) 2 [.int .u8 1, .int .u32 1, .int .u8 0, .slice (some ⟨h1, 0, none⟩) 1 1, .int .i64 65, .int .u8 1, .int .u32 2, .int .u8 0, .slice (some ⟨h2, 0, none⟩) 1 1, .int .i64 66]) : OpL w (.slice (some ⟨g, 0, none⟩) 2 2) [oa, ob] := OwnL.opl ⟨_, r3, two_hold r1 r2⟩
set_option maxRecDepth 100000 in
set_option maxHeartbeats 4000000 in
theorem two17_any (w : World) : Calls Try.prog 5 #[] w (TwoA w) := by
  obtain ⟨W1, e1⟩ : ∃ W, W = w.alloc (.cells #[.int .u32 1, .int .u8 0, .int .i64 1] 42) := ⟨_, rfl⟩
  obtain ⟨W2, e2⟩ : ∃ W, W = W1.alloc (.cells #[.int .u32 1, .int .u8 0, .int .i64 2] 42) := ⟨_, rfl⟩
  have s1 : W1.heap.size = w.heap.size + 1 := by rw [e1]; exact Array.size_push _
  have s2 : W2.heap.size = w.heap.size + 1 + 1 := by rw [← s1, e2]; exact Array.size_push _
  have b1 : Below w.heap.size w W1 := by rw [e1]; exact (Below.refl _ _).alloc (Nat.le_refl _) _
  have b2 : Below W1.heap.size W1 W2 := by rw [e2]; exact (Below.refl _ _).alloc (Nat.le_refl _) _
  obtain ⟨C, hC⟩ : ∃ C : Array Value, C = #[.int .u8 1, .int .u32 1, .int .u8 0, .slice (some ⟨w.heap.size, 0, none⟩) 1 1, .int .i64 65, .int .u8 1, .int .u32 2, .int .u8 0, .slice (some ⟨w.heap.size + 1, 0, none⟩) 1 1, .int .i64 66] := ⟨_, rfl⟩
  have b3 : Below W2.heap.size W2 (W2.alloc (.cells C 36)) := (Below.refl _ _).alloc (Nat.le_refl _) _
  have r1 : W1.ownsRow w.heap.size 42 3 (.slice (some ⟨w.heap.size, 0, none⟩) 1 1) 1 (runs pa) := by
    rw [e1]
    exact World.ownsRow_lit (base := w.heap.size) (e := 42) (size := 3) w #[.int .u32 1, .int .u8 0, .int .i64 1] 1 (Nat.le_refl _) (by have : maxLen = 9223372036854775807 := rfl; omega) rfl
  have r2 : W2.ownsRow w.heap.size 42 3 (.slice (some ⟨w.heap.size + 1, 0, none⟩) 1 1) 1 (runs pb) := by
    rw [e2, ← s1]
    exact World.ownsRow_lit (base := w.heap.size) (e := 42) (size := 3) W1 #[.int .u32 1, .int .u8 0, .int .i64 2] 1 (by omega) (by have : maxLen = 9223372036854775807 := rfl; omega) rfl
  have r3 : (W2.alloc (.cells C 36)).ownsRow w.heap.size 36 5 (.slice (some ⟨w.heap.size + 1 + 1, 0, none⟩) 2 2) 2 C.toList := by
    rw [← s2]
    exact World.ownsRow_lit (base := w.heap.size) (e := 36) (size := 5) W2 C 2 (by omega) (by have : maxLen = 9223372036854775807 := rfl; omega) (by rw [hC]; rfl)
  have X : (W2.alloc (.cells C 36)).heap[w.heap.size + 1 + 1]? = some (.cells C 36) := by rw [← s2]; exact blk_new rfl
  have RE : Hid (TwoA w (.returned (.slice (some ⟨w.heap.size + 1 + 1, 0, none⟩) 2 2)) (W2.alloc (.cells C 36))) := by
    rw [hC] at r3 X b3 ⊢
    exact ⟨_, _, _, rfl, X, own_stays (own_stays r1 b2) b3, own_stays r2 b3, r3, bt (bt b1 b2) b3⟩
  clear r1 r2 r3 X b1 b2 b3 s1 s2
  subst hC e2 e1
  go_enter Try.func5, Try.ntmps5
  go_wp2
  exact bodyPost_ret (v := .slice (some ⟨w.heap.size + 1 + 1, 0, none⟩) 2 2) (by simp [results, Try.results5, go_sem]) rfl RE.out
set_option maxRecDepth 100000 in
set_option maxHeartbeats 8000000 in
theorem gone17_any (w : World) : Calls Try.prog 16 #[] w fun e w' => ∃ v, e = .returned v ∧ OpL w' v [oa, ob, og] ∧ Below w.heap.size w w' := by
  go_enter Try.func16, Try.ntmps16
  go_wp2_with fail
  refine (two17_any _).mono ?_
  rintro e w1 ⟨g, h1, h2, rfl, -, r1, r2, r3, b1⟩
  have B1 := Lib.hid b1
  have HR := Lib.hid (And.intro r3 (two_hold r1 r2))
  clear r1 r2 r3 b1
  go_wp2_with fail
  refine (two17_any _).mono ?_
  rintro e w2 ⟨g9, h19, h29, rfl, x9, r1, -, -, b2⟩
  have U := Lib.hid (op_base r1 B1.out.size)
  have c3 := cell_of_row _ _ 3 _ _ _ x9
  have BX : Hid (Below w2.heap.size w2 (w2.alloc (.cells #[.int .u8 3, .int .u32 10, .int .u8 1, .slice (some ⟨h19, 0, none⟩) 1 1, .int .i64 0] 36))) := (Below.refl _ _).alloc (Nat.le_refl _) _
  have OA := Lib.hid (own_stays (own_stays HR.out.1 b2) BX.out)
  have SE : Hid (Sees (w2.alloc (.cells #[.int .u8 3, .int .u32 10, .int .u8 1, .slice (some ⟨h19, 0, none⟩) 1 1, .int .i64 0] 36)) (.slice (some ⟨w2.heap.size, 0, none⟩) 1 1) 5 1 [.int .u8 3, .int .u32 10, .int .u8 1, .slice (some ⟨h19, 0, none⟩) 1 1, .int .i64 0]) := sees_new w2 [.int .u8 3, .int .u32 10, .int .u8 1, .slice (some ⟨h19, 0, none⟩) 1 1, .int .i64 0] 5 1 rfl (by omega) 36 (0, 0)
  have FO : Hid (∀ z ∈ ([.int .u8 3, .int .u32 10, .int .u8 1, .slice (some ⟨h19, 0, none⟩) 1 1, .int .i64 0] : List Value), z.oneCell' = true) := fun z hz => by
    simp only [List.mem_cons, List.not_mem_nil, or_false] at hz
    rcases hz with rfl | rfl | rfl | rfl | rfl <;> rfl
  have B2 := Lib.hid (bt B1.out b2)
  have BW := Lib.hid (bt B2.out BX.out)
  have BZ := Lib.hid (bt b2 BX.out)
  clear x9 r1 b2 B1
  go_wp2_with (at_builtin; refine wpList_append_sees rfl (.tmp 1) (.tmp 8) 26 36 rfl Try.underlying26 op_info rfl (by decide) w.heap.size _ 2 [.int .u8 1, .int .u32 1, .int .u8 0, .slice (some ⟨h1, 0, none⟩) 1 1, .int .i64 65, .int .u8 1, .int .u32 2, .int .u8 0, .slice (some ⟨h2, 0, none⟩) 1 1, .int .i64 66] rfl OA.out _ 1 [.int .u8 3, .int .u32 10, .int .u8 1, .slice (some ⟨h19, 0, none⟩) 1 1, .int .i64 0] rfl SE.out FO.out ?k1 ?k2 ?k3 ?_)
  case k1 => omega
  case k2 => omega
  case k3 => exact BW.out.size
  rintro v5 w5 o5 g5 b5
  have OL := Lib.hid (OwnL.opl (OwnL.snoc (o := og) (l := [oa, ob]) HR.out.1 HR.out.2 BZ.out (own_stays U.out BX.out) g5 o5 rfl))
  have B5 := Lib.hid (BW.out.trans b5)
  clear o5 g5 b5 OA SE FO BW BZ BX U HR B2
  go_wp2
  go_ret
  exact ⟨_, rfl, OL.out, B5.out⟩
set_option maxRecDepth 100000 in
set_option maxHeartbeats 4000000 in
theorem found17_any {v u : Value} {l : List Opn} {p : List Run} {K : Nat} {w : World} (hv : OpL w v l) (hu : Runs w u p) (hs : findS l p = zid) (hn : findN l p = K) (he : findE l p = 0) :
    Calls Try.prog 8 #[v, u, .int .i64 (K : Int)] w fun e w' => e = .returned (.bool true) ∧ Below w.heap.size w w' := by
  have CF : Hid (Calls Try.prog 6 #[v, u] w fun e w' => e = .returned (.tuple #[.agg #[.int .u32 0, .int .u8 0], .int .i64 (K : Int), .int .i64 0]) ∧ Below w.heap.size w w') := by
    have := aFind_any hv hu
    rw [hs, hn, he] at this
    exact this
  have e6 : ((K : Int) == (K : Int)) = true := by simp
  clear hs hn he hv hu
  go_enter Try.func8, Try.ntmps8
  go_wp2_with fail
  refine CF.out.mono ?_
  rintro e w1 ⟨rfl, b1⟩
  have bo := (Below.refl w1.heap.size w1).alloc (Nat.le_refl _) (.cells #[.int .u32 0, .int .u8 0] 30)
  have B1 := Lib.hid (bt b1 bo)
  obtain ⟨lt, fa, fb⟩ := pair_new w1 (.int .u32 0) (.int .u8 0) 30
  clear CF b1 bo
  go_wp2
  go_ret
  exact ⟨rfl, B1.out⟩
theorem mk_1 : makeP [oa, ob] zid 1 = pb ∧ atE [oa, ob] zid 1 = 0 := by decide +kernel
theorem fd_2b : findS [oa, ob] pb = zid ∧ findN [oa, ob] pb = 1 ∧ findE [oa, ob] pb = 0 := by decide +kernel
theorem fd_3b : findS [oa, ob, og] pb = zid ∧ findN [oa, ob, og] pb = 0 ∧ findE [oa, ob, og] pb = 0 := by decide +kernel
theorem fd_3a : findS [oa, ob, og] pa = zid ∧ findN [oa, ob, og] pa = 0 ∧ findE [oa, ob, og] pa = 0 := by decide +kernel
set_option maxRecDepth 100000 in
set_option maxHeartbeats 8000000 in
theorem alive17_any (w : World) : Calls Try.prog 7 #[] w fun e w' => e = .returned (.bool true) ∧ Below w.heap.size w w' := by
  have MK : Hid (∀ (W : World) (v : Value), OpL W v [oa, ob] → Calls Try.prog 4 #[v, .agg #[.int .u32 0, .int .u8 0], .int .i64 1] W (OneP pb 0 W)) := fun W v h => by
    have := aMake_any zid 1 h
    rw [mk_1.1, mk_1.2] at this
    exact this
  have PS : Hid (∀ (W : World) (u v : Value), Runs W u pb → Runs W v pb → Calls Try.prog 15 #[u, v] W fun e w' => e = .returned (.bool true) ∧ Below W.heap.size W w') := fun W u v h h2 => by
    have := Go.Proofs.Ytmiepnnpccpicaa.Place.psame_any h h2
    rwa [decide_eq_true rfl] at this
  have F2 : Hid (∀ (W : World) (v u : Value), OpL W v [oa, ob] → Runs W u pb → Calls Try.prog 8 #[v, u, .int .i64 1] W fun e w' => e = .returned (.bool true) ∧ Below W.heap.size W w') := fun W v u h h2 => found17_any (K := 1) h h2 fd_2b.1 fd_2b.2.1 fd_2b.2.2
  have F3 : Hid (∀ (W : World) (v u : Value), OpL W v [oa, ob, og] → Runs W u pb → Calls Try.prog 8 #[v, u, .int .i64 0] W fun e w' => e = .returned (.bool true) ∧ Below W.heap.size W w') := fun W v u h h2 => found17_any (K := 0) h h2 fd_3b.1 fd_3b.2.1 fd_3b.2.2
  have F4 : Hid (∀ (W : World) (v u : Value), OpL W v [oa, ob, og] → Runs W u pa → Calls Try.prog 8 #[v, u, .int .i64 0] W fun e w' => e = .returned (.bool true) ∧ Below W.heap.size W w') := fun W v u h h2 => found17_any (K := 0) h h2 fd_3a.1 fd_3a.2.1 fd_3a.2.2
  have B_0 : Hid (Below w.heap.size w w) := Below.refl _ _
  go_enter Try.func7, Try.ntmps7
  go_wp2_with fail
  refine (two17_any _).mono ?_
  rintro e w1 ⟨g1, ha1, hb1, rfl, x1, ra1, rb1, ro1, b1⟩
  have B_1 := Lib.hid (bt B_0.out b1)
  clear B_0
  have V_2 := Lib.hid (two_opl ra1 rb1 ro1)
  clear b1 ra1 rb1 ro1 x1
  go_wp2_with fail
  refine (MK.out _ _ V_2.out).mono ?_
  rintro e w2 ⟨v2, rfl, o2, b2⟩
  have B_3 := Lib.hid (bt B_1.out b2)
  clear B_1
  have V_4 := Lib.hid (V_2.out.keeps b2)
  clear V_2
  have P_5 := Lib.hid (Runs.own o2)
  clear b2 o2
  clear V_4
  clear MK
  go_wp2_with fail
  refine (two17_any _).mono ?_
  rintro e w3 ⟨g3, ha3, hb3, rfl, x3, ra3, rb3, ro3, b3⟩
  have B_6 := Lib.hid (bt B_3.out b3)
  clear B_3
  have P_7 := Lib.hid (P_5.out.keeps b3)
  clear P_5
  have R_8 := Lib.hid (Runs.own rb3)
  clear b3 ra3 rb3 ro3
  have c8 := cell_of_row _ _ 8 _ _ _ x3
  clear x3
  go_wp2_with fail
  refine (PS.out _ _ _ P_7.out R_8.out).mono ?_
  rintro e w4 ⟨rfl, b4⟩
  have B_9 := Lib.hid (bt B_6.out b4)
  clear B_6
  have P_10 := Lib.hid (P_7.out.keeps b4)
  clear P_7
  have R_11 := Lib.hid (R_8.out.keeps b4)
  clear R_8
  clear b4
  clear R_11
  clear c8 PS
  go_wp2_with fail
  refine (two17_any _).mono ?_
  rintro e w5 ⟨g5, ha5, hb5, rfl, x5, ra5, rb5, ro5, b5⟩
  have B_12 := Lib.hid (bt B_9.out b5)
  clear B_9
  have P_13 := Lib.hid (P_10.out.keeps b5)
  clear P_10
  have V_14 := Lib.hid (two_opl ra5 rb5 ro5)
  clear b5 ra5 rb5 ro5 x5
  go_wp2_with fail
  refine (F2.out _ _ _ V_14.out P_13.out).mono ?_
  rintro e w6 ⟨rfl, b6⟩
  have B_15 := Lib.hid (bt B_12.out b6)
  clear B_12
  have P_16 := Lib.hid (P_13.out.keeps b6)
  clear P_13
  have V_17 := Lib.hid (V_14.out.keeps b6)
  clear V_14
  clear b6
  clear V_17
  clear F2
  go_wp2_with fail
  refine (gone17_any _).mono ?_
  rintro e w7 ⟨v7, rfl, o7, b7⟩
  have B_18 := Lib.hid (bt B_15.out b7)
  clear B_15
  have P_19 := Lib.hid (P_16.out.keeps b7)
  clear P_16
  have V_20 := Lib.hid (o7)
  clear b7 o7
  go_wp2_with fail
  refine (F3.out _ _ _ V_20.out P_19.out).mono ?_
  rintro e w8 ⟨rfl, b8⟩
  have B_21 := Lib.hid (bt B_18.out b8)
  clear B_18
  have P_22 := Lib.hid (P_19.out.keeps b8)
  clear P_19
  have V_23 := Lib.hid (V_20.out.keeps b8)
  clear V_20
  clear b8
  clear V_23 P_22
  clear F3
  go_wp2_with fail
  refine (gone17_any _).mono ?_
  rintro e w9 ⟨v9, rfl, o9, b9⟩
  have B_24 := Lib.hid (bt B_21.out b9)
  clear B_21
  have V_25 := Lib.hid (o9)
  clear b9 o9
  go_wp2_with fail
  refine (two17_any _).mono ?_
  rintro e w10 ⟨g10, ha10, hb10, rfl, x10, ra10, rb10, ro10, b10⟩
  have B_26 := Lib.hid (bt B_24.out b10)
  clear B_24
  have V_27 := Lib.hid (V_25.out.keeps b10)
  clear V_25
  have R_28 := Lib.hid (Runs.own ra10)
  clear b10 ra10 rb10 ro10
  have c3 := cell_of_row _ _ 3 _ _ _ x10
  clear x10
  go_wp2_with fail
  refine (F4.out _ _ _ V_27.out R_28.out).mono ?_
  rintro e w11 ⟨rfl, b11⟩
  have B_29 := Lib.hid (bt B_26.out b11)
  clear B_26
  have V_30 := Lib.hid (V_27.out.keeps b11)
  clear V_27
  have R_31 := Lib.hid (R_28.out.keeps b11)
  clear R_28
  clear b11
  clear V_30 R_31
  clear F4 c3
  go_wp2
  go_ret
  exact ⟨rfl, B_29.out⟩
end Go.Proofs.Ytmiepnnpccpicaa.Anchors

namespace Go.Proofs.Ytmiepnnpccpicaa.Anchors
open Go.RowKit Go.WideShapes Stamp Go.Proofs.Ytmiepnnpccpicaa.Place Ops Codes Bags Marks Homes Covers Views
attribute [local go_sem ↓] Go.wp_at_zero Go.wp_at_succ
attribute [local go_sem] yielded_undef
def n20 : Id := ⟨2, 0, by decide, by decide⟩
theorem nm_2 : makeP [oa, ob] zid 2 = [] ∧ atE [oa, ob] zid 2 = 2 := by decide +kernel
theorem nm_n : makeP [oa, ob] n20 0 = [] ∧ atE [oa, ob] n20 0 = 130 := by decide +kernel
theorem nf_n : findS [oa, ob] [] = zid ∧ findN [oa, ob] [] = 0 ∧ findE [oa, ob] [] = 8 := by decide +kernel
theorem nf_1 : findS [oa] pb = zid ∧ findN [oa] pb = 1 ∧ findE [oa] pb = 0 := by decide +kernel
set_option maxRecDepth 100000 in
set_option maxHeartbeats 8000000 in
theorem names_any (w : World) : Calls Try.prog 3 #[] w fun e w' => e = .returned (.bool true) ∧ Below w.heap.size w w' := by
  have M2 : Hid (∀ (W : World) (v : Value), OpL W v [oa, ob] → Calls Try.prog 4 #[v, .agg #[.int .u32 0, .int .u8 0], .int .i64 2] W (OneP [] 2 W)) := fun W v h => by
    have := aMake_any zid 2 h
    rw [nm_2.1, nm_2.2] at this
    exact this
  have MN : Hid (∀ (W : World) (v : Value), OpL W v [oa, ob] → Calls Try.prog 4 #[v, .agg #[.int .u32 2, .int .u8 0], .int .i64 0] W (OneP [] 130 W)) := fun W v h => by
    have := aMake_any n20 0 h
    rw [nm_n.1, nm_n.2] at this
    exact this
  have FN : Hid (∀ (W : World) (v : Value), OpL W v [oa, ob] → Calls Try.prog 6 #[v, .slice none 0 0] W fun e w' => e = .returned (.tuple #[.agg #[.int .u32 0, .int .u8 0], .int .i64 0, .int .i64 8]) ∧ Below W.heap.size W w') := fun W v h => by
    have := aFind_any (p := []) h (Sees.nil W 3)
    rw [nf_n.1, nf_n.2.1, nf_n.2.2] at this
    exact this
  have F1 : Hid (∀ (W : World) (v u : Value), OpL W v [oa] → Runs W u pb → Calls Try.prog 8 #[v, u, .int .i64 1] W fun e w' => e = .returned (.bool true) ∧ Below W.heap.size W w') := fun W v u h h2 => found17_any (K := 1) h h2 nf_1.1 nf_1.2.1 nf_1.2.2
  have AV := Lib.hid alive17_any
  have TW := Lib.hid two17_any
  have B_0 : Hid (Below w.heap.size w w) := Below.refl _ _
  go_enter Try.func3, Try.ntmps3
  go_wp2_with fail
  refine (two17_any _).mono ?_
  rintro e w1 ⟨g1, ha1, hb1, rfl, x1, ra1, rb1, ro1, b1⟩
  have B_1 := Lib.hid (bt B_0.out b1)
  clear B_0
  have V_2 := Lib.hid (two_opl ra1 rb1 ro1)
  clear b1 ra1 rb1 ro1 x1
  go_wp2_with fail
  refine (M2.out _ _ V_2.out).mono ?_
  rintro e w2 ⟨v2, rfl, -, b2⟩
  have B_3 := Lib.hid (bt B_1.out b2)
  clear B_1
  have V_4 := Lib.hid (V_2.out.keeps b2)
  clear V_2
  clear b2
  clear V_4
  clear M2
  go_wp2_with fail
  refine (two17_any _).mono ?_
  rintro e w3 ⟨g3, ha3, hb3, rfl, x3, ra3, rb3, ro3, b3⟩
  have B_5 := Lib.hid (bt B_3.out b3)
  clear B_3
  have V_6 := Lib.hid (two_opl ra3 rb3 ro3)
  clear b3 ra3 rb3 ro3 x3
  go_wp2_with fail
  refine (FN.out _ _ V_6.out).mono ?_
  rintro e w4 ⟨rfl, b4⟩
  have B_7 := Lib.hid (bt B_5.out b4)
  clear B_5
  have V_8 := Lib.hid (V_6.out.keeps b4)
  clear V_6
  clear b4
  clear V_8
  clear FN
  have bo := (Below.refl w4.heap.size w4).alloc (Nat.le_refl _) (.cells #[.int .u32 0, .int .u8 0] 30)
  have B_9 := Lib.hid (bt B_7.out bo)
  clear B_7
  clear bo
  go_wp2_with fail
  refine (two17_any _).mono ?_
  rintro e w5 ⟨g5, ha5, hb5, rfl, x5, ra5, rb5, ro5, b5⟩
  have B_10 := Lib.hid (bt B_9.out b5)
  clear B_9
  have V_11 := Lib.hid (two_opl ra5 rb5 ro5)
  clear b5 ra5 rb5 ro5 x5
  go_wp2_with fail
  refine (MN.out _ _ V_11.out).mono ?_
  rintro e w6 ⟨v6, rfl, -, b6⟩
  have B_12 := Lib.hid (bt B_10.out b6)
  clear B_10
  have V_13 := Lib.hid (V_11.out.keeps b6)
  clear V_11
  clear b6
  clear V_13
  clear MN
  go_upto_region 4 with fail
  refine wp_region_held_drew (S := fun w' => Below w6.heap.size w6 w') (by kernel_rfl) (drew1 _) (fun hHeld => ?_)
  generalize w6.drew = wd at hHeld ⊢
  refine wpAnyH_ready (rs := [0]) (by kernel_rfl) (by simp) ?_
  refine AllReadyH.cons rfl (fun K hK => ?_) AllReadyH.nil
  go_simp
  refine (AV.out _).mono ?_
  rintro e wa ⟨rfl, ba⟩
  refine hK.out _ _ (bt hHeld ba) (fun hNew => ?_)
  clear hHeld
  have hHeld := hNew
  clear hNew hK K
  clear ba
  refine rX ?_
  refine rN 1 ?_
  refine wpAnyH_ready (rs := [2]) (by kernel_rfl) (by simp) ?_
  refine AllReadyH.cons rfl (fun K hK => ?_) AllReadyH.nil
  go_simp
  refine (TW.out _).mono ?_
  rintro e wb ⟨g9, ha9, hb9, rfl, -, ra, rb, ro, bb⟩
  have V9 := Lib.hid (two_opl ra rb ro)
  refine hK.out _ _ (bt hHeld bb) (fun hNew => ?_)
  clear hHeld
  have hHeld := hNew
  clear hNew hK K
  clear ra rb ro bb
  refine rX ?_
  refine rN 3 ?_
  refine wpAnyH_ready (rs := [4]) (by kernel_rfl) (by simp) ?_
  refine AllReadyH.cons rfl (fun K hK => ?_) AllReadyH.nil
  go_simp
  refine (TW.out _).mono ?_
  rintro e wc ⟨g8, ha8, hb8, rfl, x8, ra, rb, ro, bc⟩
  have V8 := Lib.hid (Seq.take (V9.out.keeps bc) (m := 1) (by decide))
  have R8 := Lib.hid (Runs.own rb)
  refine hK.out _ _ (bt hHeld bc) (fun hNew => ?_)
  clear hHeld
  have hHeld := hNew
  clear hNew hK K
  have c8 := cell_of_row _ _ 8 _ _ _ x8
  clear ra rb ro bc V9 x8
  refine rX ?_
  refine rN 5 ?_
  refine rN 6 ?_
  refine wpAnyH_ready (rs := [7]) (by kernel_rfl) (by simp) ?_
  refine AllReadyH.cons rfl (fun K hK => ?_) AllReadyH.nil
  go_simp
  refine hK.out _ _ (hHeld) (fun hNew => ?_)
  clear hHeld
  have hHeld := hNew
  clear hNew hK K
  clear c8
  refine rX ?_
  refine wpAnyH_ready (rs := [8]) (by kernel_rfl) (by simp) ?_
  refine AllReadyH.cons rfl (fun K hK => ?_) AllReadyH.nil
  go_simp
  refine (F1.out _ _ _ V8.out R8.out).mono ?_
  rintro e wf ⟨rfl, bf⟩
  refine hK.out _ _ (bt hHeld bf) (fun hNew => ?_)
  clear hHeld
  have hHeld := hNew
  clear hNew hK K
  clear bf
  refine rX ?_
  refine rN 9 ?_
  refine rN 10 ?_
  refine rN 11 ?_
  refine rN 12 ?_
  refine rN 13 ?_
  refine rN 14 ?_
  refine rN 15 ?_
  refine rN 16 ?_
  refine rN 17 ?_
  refine rN 18 ?_
  refine rN 19 ?_
  refine rN 20 ?_
  refine rN 21 ?_
  refine rN 22 ?_
  refine rN 23 ?_
  refine rN 24 ?_
  refine rN 25 ?_
  refine rK 26 ?_
  try simp only [List.getElem_toArray, List.getElem_cons_succ, List.getElem_cons_zero, Act.put, List.setIfInBounds_toArray, List.set_cons_zero]
  refine wpAnyH_done (by kernel_rfl) ?_ _
  have BF := Lib.hid (bt B_12.out hHeld)
  clear hHeld
  go_wp2
  go_ret
  exact ⟨rfl, BF.out⟩
end Go.Proofs.Ytmiepnnpccpicaa.Anchors
