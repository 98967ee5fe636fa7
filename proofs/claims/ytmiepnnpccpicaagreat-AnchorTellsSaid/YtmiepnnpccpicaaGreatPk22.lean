/- octavoref17.Make, Find: what each answers. Conditions: the slice's cells are operations. AnchorTells answers true, and changes nothing that was there. Conditions: the places are not longer than memory holds. -/
import Derived.Test.YtmiepnnpccpicaaGreatChecked
import Derived.WalkKit
import Derived.WalkSpells
import Derived.WalkLawsBesides
import Derived.Laws.BytesArg
import Derived.Lib.Hide
import Derived.Deep.LoopGhost
import Derived.Laws.AppendOwnNone
import Derived.Laws.OwnMore
import Derived.WideShapes
import Derived.Maps.AppendAt
import Derived.RegionTactic
import Derived.Deep.RegionHeld3
import Derived.Deep.DrawnRows
import Derived.Deep.QuietTactic
import Derived.BigQuiet
import Derived.IntWalk
import Derived.Deep.DeepCutAuto
import Derived.ScopeJumps
import Derived.Test.YtmiepnnpccpicaaGreatProg
import Derived.LoopTactic
import Derived.Laws.EntriesVeiled
import Derived.RowKit
import Derived.Lib.DecodeN
import Derived.Lib.RuneBytes
import Derived.Shelf.Abstract
import Derived.Shelf.SlSortCmp.InsertionK
import Derived.Calls
import Derived.StepT
import Derived.Below
import Derived.Sort.Grow
import Derived.Deep.Draws
import Derived.Shelf.SlLaysF0
import Derived.Shelf.SlSortCmp.NoneTotal
import Derived.Maps.Own
import Derived.Maps.OwnOps
import Derived.Maps.OwnSet
import Derived.Maps.Views
import Derived.DeepKeys4
import Derived.RangeFuncBox
import Derived.RangeFuncLeaves
import Derived.RangeFuncNested
import Derived.RangeFuncBound
import Derived.RangeFuncCalls
import Derived.OwnWalkIn
import Derived.TacticsInMore
import Derived.LoopNIn
import Derived.LoopIn
import Derived.Scope
import Derived.Lib.Tables
import Derived.Laws.Bits64
import Derived.Test.YtmiepnnpccpicaaGreatShelf
import Derived.Lib.OthersKept
import Derived.BigCall
import Derived.Defers
import Derived.Test.YtmiepnnpccpicaaGreatRw
import Derived.Test.YtmiepnnpccpicaaGreatPk05
import Derived.Test.YtmiepnnpccpicaaGreatPk21
import Derived.Test.YtmiepnnpccpicaaGreatPk17
import Derived.Test.YtmiepnnpccpicaaGreatPk04
import Derived.Test.YtmiepnnpccpicaaGreatPk16
import Derived.Test.YtmiepnnpccpicaaGreatPk03
import Derived.Test.YtmiepnnpccpicaaGreatPk02
import Derived.Test.YtmiepnnpccpicaaGreatPk15
import Derived.Test.YtmiepnnpccpicaaGreatPk01
import Derived.Test.YtmiepnnpccpicaaGreatPk19
import Derived.Test.YtmiepnnpccpicaaGreatPk18
import Derived.Test.YtmiepnnpccpicaaGreatPk20
import Derived.Test.YtmiepnnpccpicaaGreatPk10
import Derived.Test.YtmiepnnpccpicaaGreatPk11
import Derived.Test.YtmiepnnpccpicaaGreatPk08
import Derived.Test.YtmiepnnpccpicaaGreatPk06
import Derived.Test.YtmiepnnpccpicaaGreatPk07
import Derived.Test.YtmiepnnpccpicaaGreatPk09

namespace Go.Proofs.YtmiepnnpccpicaaGreat.Anchors
open Go.RowKit Go.WideShapes Stamp Go.Proofs.YtmiepnnpccpicaaGreat.Place Ops Codes Bags Marks Homes Covers Views
attribute [local go_sem ↓] Go.wp_at_zero Go.wp_at_succ
attribute [local go_sem] yielded_undef
set_option maxRecDepth 100000 in
set_option maxHeartbeats 8000000 in
theorem refMake17_any {v : Value} {l : List Opn} (s : Id) (k : Int) {w : World} (hv : OpL w v l) : Calls Tryz.prog 8 #[v, .agg #[.int .u32 (s.t : Int), .int .u8 (s.r : Int)], .int .i64 k] w (OneP (makeP l s k) (atE l s k) w) := by
  obtain ⟨wl, hwl⟩ : ∃ x, x = w.alloc (.cells #[.int .u32 (s.t : Int), .int .u8 (s.r : Int)] 25) := ⟨_, rfl⟩
  have B0 : Hid (Below w.heap.size w wl) := by rw [hwl]; exact (Below.refl _ _).alloc (Nat.le_refl _) _
  have Y0 : Hid (wl.heap[w.heap.size]? = some (.cells #[.int .u32 (s.t : Int), .int .u8 (s.r : Int)] 25)) := by rw [hwl]; exact blk_new rfl
  have HW := Lib.hid hwl
  have AT : Hid (Calls Tryz.prog 20 #[v, .agg #[.int .u32 (s.t : Int), .int .u8 (s.r : Int)], .int .i64 k] wl fun e w' => ∃ vt, e = .returned (.tuple #[elv (atL l s k) vt, .int .i64 (atE l s k)]) ∧ Runs w' vt (makeP l s k) ∧ Below wl.heap.size wl w') := refAt15_any s k (hv.keeps B0.out)
  have TW : Hid (∀ (W : World) (u : Value), Runs W u (makeP l s k) → Calls Tryz.prog 21 #[u] W fun e w' => ∃ v', e = .returned v' ∧ w'.ownsRow W.heap.size 40 3 v' (makeP l s k).length (runs (makeP l s k)) ∧ Below W.heap.size W w') := fun W u h => by
    have hf := makeP_fits l s k
    have C9 := Go.Proofs.YtmiepnnpccpicaaGreat.Place.twin_any h (by omega)
    refine C9.mono ?_
    rintro e w' ⟨v', rfl, ho, hb'⟩
    exact ⟨v', rfl, ho, hb'⟩
  have HO : Hid (∀ vt : Value, elv (atL l s k) vt = .agg #[.int .u32 ((atL l s k).t : Int), .int .u8 ((atL l s k).r : Int), vt, .int .i64 (atL l s k).p]) := fun vt => rfl
  obtain ⟨ts, hts⟩ : ∃ z, s.t = z := ⟨_, rfl⟩
  obtain ⟨rs, hrs⟩ : ∃ z, s.r = z := ⟨_, rfl⟩
  obtain ⟨P, hP⟩ : ∃ z, makeP l s k = z := ⟨_, rfl⟩
  obtain ⟨E, hE⟩ : ∃ z, atE l s k = z := ⟨_, rfl⟩
  obtain ⟨t, ht⟩ : ∃ z, (atL l s k).t = z := ⟨_, rfl⟩
  obtain ⟨r, hr⟩ : ∃ z, (atL l s k).r = z := ⟨_, rfl⟩
  obtain ⟨p, hp⟩ : ∃ z, (atL l s k).p = z := ⟨_, rfl⟩
  rw [ht, hr, hp] at HO
  simp only [HO.out] at AT
  rw [hts, hrs] at AT Y0 HW ⊢
  rw [hP, hE] at AT ⊢
  rw [hP] at TW
  clear hv hwl hts hrs hP hE ht hr hp HO
  have d0 := cell_of_row _ _ 0 _ _ _ Y0.out
  have d1 := cell_of_row _ _ 1 _ _ _ Y0.out
  go_enter Tryz.func8, Tryz.ntmps8
  go_wp2_with fail
  rw [← HW.out]
  refine AT.out.mono ?_
  rintro e w1 ⟨vt, rfl, r1, b1⟩
  obtain ⟨ao, cap, rfl⟩ := r1.shape
  have B1 := Lib.hid (bt B0.out b1)
  have BL := (Below.refl w1.heap.size w1).alloc (Nat.le_refl _) (.cells #[.int .u32 (t : Int), .int .u8 (r : Int), .slice ao P.length cap, .int .i64 p] 53)
  have R2 := Lib.hid (r1.keeps BL)
  have B2 := Lib.hid (bt B1.out BL)
  obtain ⟨nP, hnP⟩ : ∃ z, P.length = z := ⟨_, rfl⟩
  rw [hnP] at R2 B2 ⊢
  have HNP := Lib.hid hnP
  clear b1 r1 BL Y0 B0 HW AT d0 d1 B1 hnP
  go_wp2_with fail
  refine (TW.out _ _ R2.out).mono ?_
  rintro e w2 ⟨v', rfl, o2, b2⟩
  have O2 := Lib.hid (op_base o2 B2.out.size)
  have B3 := Lib.hid (bt B2.out b2)
  clear o2 b2 R2 B2 TW
  go_wp2
  exact bodyPost_ret (v := .tuple #[v', .int .i64 E]) (by simp [results, Tryz.results8, go_sem]) rfl ⟨_, rfl, O2.out, B3.out⟩
set_option maxRecDepth 100000 in
set_option maxHeartbeats 8000000 in
theorem refFind17_any {v u : Value} {l : List Opn} {p : List Run} {w : World} (hv : OpL w v l) (hu : Runs w u p) : Calls Tryz.prog 10 #[v, u] w (OneF (findS l p) (findN l p) (findE l p) w) := by
  obtain ⟨wl, hwl⟩ : ∃ x, x = w.alloc (.cells #[.int .u32 0, .int .u8 0] 25) := ⟨_, rfl⟩
  have X0 : Hid (wl.heap[w.heap.size]? = some (.cells #[.int .u32 0, .int .u8 0] 25)) := by rw [hwl]; exact blk_new rfl
  have B0 : Hid (Below w.heap.size w wl) := by rw [hwl]; exact (Below.refl _ _).alloc (Nat.le_refl _) _
  have ML : Hid (Calls Tryz.prog 26 #[v] wl fun e w' => e = .returned (.bool (bagB l)) ∧ Below wl.heap.size wl w') := refMayL_any (hv.keeps B0.out)
  have AN : Hid (∀ W : World, Below w.heap.size w W → Calls Tryz.prog 27 #[u] W fun e w' => e = .returned (.bool (Go.Proofs.YtmiepnnpccpicaaGreat.Place.mayB p)) ∧ Below W.heap.size W w') := fun W h => refMay_any (hu.keeps h)
  have LV : Hid (Bag l → ∀ W : World, Below w.heap.size w W → Calls Tryz.prog 28 #[v] W fun e w' => ∃ v', e = .returned v' ∧ OpL w' v' (livesM l l) ∧ Below W.heap.size W w') := fun hb W h => refLives_any (hv.keeps h) hb.2.1 hb.1
  have HO : Hid (Bag l → Go.Proofs.YtmiepnnpccpicaaGreat.Place.mayB p = true → ∀ (W : World) (y : Value), OpL W y (livesM l l) → Below w.heap.size w W → Calls Tryz.prog 29 #[y, u] W fun e w' => e = .returned (.agg #[.int .u32 ((homeM (livesM l l) p).t : Int), .int .u8 ((homeM (livesM l l) p).r : Int)]) ∧ Below W.heap.size W w') := fun hb hp W y h h2 => refHome_any h (hu.keeps h2) (lives_fits hb).2 (anyB_may hp)
  have OF : Hid (Bag l → ∀ (W : World) (y : Value), Below w.heap.size w W → OpL W y (livesM l l) → Calls Tryz.prog 31 #[v, y, .agg #[.int .u32 ((homeM (livesM l l) p).t : Int), .int .u8 ((homeM (livesM l l) p).r : Int)]] W fun e w' => ∃ v', e = .returned v' ∧ ElL w' v' (elmL l (homeM (livesM l l) p)) ∧ Below W.heap.size W w') := fun hb W y h hy => by
    rw [elm_yes (home_where hb p)]
    exact refOf15_any _ (hv.keeps h) hy (by have := hb.1; omega) hb.2.1 (lives_fits hb).2
  have BF : Hid (Go.Proofs.YtmiepnnpccpicaaGreat.Place.mayB p = true → ∀ (W : World) (y : Value) (s : Id), Below w.heap.size w W → ElL W y (elmL l s) → Calls Tryz.prog 30 #[y, u] W fun e w' => e = .returned (.int .i64 ((befM (elmL l s) p : Nat) : Int)) ∧ Below W.heap.size W w') := fun hp W y s h hy => refBefore_any hy (hu.keeps h) (elm_fits l s).2 (anyB_may hp) (by have := (elm_fits l s).1; omega)
  have HW := Lib.hid hwl
  obtain ⟨uo, uc, rfl⟩ := hu.shape
  clear hv hu hwl
  have BAD : Hid (¬ (bagB l = true ∧ Go.Proofs.YtmiepnnpccpicaaGreat.Place.mayB p = true) → findS l p = zid ∧ findN l p = 0 ∧ findE l p = 8) := fun h => by unfold findS findN findE; rw [if_neg h, if_neg h, if_neg h]; exact ⟨rfl, rfl, rfl⟩
  have GOOD : Hid ((bagB l = true ∧ Go.Proofs.YtmiepnnpccpicaaGreat.Place.mayB p = true) → findS l p = homeM (livesM l l) p ∧ findN l p = befM (elmL l (homeM (livesM l l) p)) p ∧ findE l p = 0) := fun h => by unfold findS findN findE; rw [if_pos h, if_pos h, if_pos h]; exact ⟨rfl, rfl, rfl⟩
  by_cases hb : Bag l
  rotate_left
  · obtain ⟨e1, e2, e3⟩ := BAD.out (by rw [bagB_no hb]; intro h; cases h.1)
    rw [bagB_no hb] at ML
    rw [e1, e2, e3]
    generalize p.length = np at *
    clear BAD GOOD LV HO AN hb e1 e2 e3 OF BF
    go_enter Tryz.func10, Tryz.ntmps10
    go_wp2_with fail
    rw [← HW.out]
    refine ML.out.mono ?_
    rintro e w1 ⟨rfl, b1⟩
    have B1 := Lib.hid (bt B0.out b1)
    have X1 := Lib.hid (blk_below b1 X0.out)
    clear b1 X0 B0 HW ML
    have c0 := cell_of_row _ _ 0 _ _ _ X1.out
    have c1 := cell_of_row _ _ 1 _ _ _ X1.out
    have f0 : ∀ o, w1.frozen? ⟨w.heap.size, o, none⟩ = false := fun o => frz2 X1.out o
    have HF := Lib.hid (put2_same (.int .u32 0) (.int .u8 0) X1.out)
    have BF := Lib.hid (put2_below (.int .u32 0) (.int .u8 0) (Nat.le_refl w.heap.size) B1.out)
    obtain ⟨WF, hWF⟩ : ∃ WF, put2 w1 w.heap.size (.int .u32 0) (.int .u8 0) = WF := ⟨_, rfl⟩
    rw [hWF] at HF BF
    unfold put2 at hWF
    have HX := Lib.hid hWF
    clear hWF X1 B1
    go_wp2
    rw [HX.out]
    have e0 := cell_of_row _ _ 0 _ _ _ HF.out
    have e1 := cell_of_row _ _ 1 _ _ _ HF.out
    exact bodyPost_ret (v := .tuple #[.agg #[.int .u32 0, .int .u8 0], .int .i64 0, .int .i64 8]) (by simp [results, Tryz.results10, go_sem, e0, e1]) rfl ⟨rfl, BF.out⟩
  rw [(bagB_iff l).2 hb] at ML BAD GOOD
  by_cases hp : Go.Proofs.YtmiepnnpccpicaaGreat.Place.mayB p = true
  rotate_left
  · have hp' : Go.Proofs.YtmiepnnpccpicaaGreat.Place.mayB p = false := by simpa using hp
    obtain ⟨e1, e2, e3⟩ := BAD.out (fun h => hp h.2)
    rw [hp'] at AN
    rw [e1, e2, e3]
    generalize p.length = np at *
    clear BAD GOOD LV HO hb hp hp' e1 e2 e3 OF BF
    go_enter Tryz.func10, Tryz.ntmps10
    go_wp2_with fail
    rw [← HW.out]
    refine ML.out.mono ?_
    rintro e w1 ⟨rfl, b1⟩
    have B1 := Lib.hid (bt B0.out b1)
    have X1 := Lib.hid (blk_below b1 X0.out)
    clear b1 X0 B0 HW ML
    go_wp2_with fail
    refine (AN.out _ B1.out).mono ?_
    rintro e w2 ⟨rfl, b2⟩
    replace B1 := Lib.hid (bt B1.out b2)
    replace X1 := Lib.hid (blk_below b2 X1.out)
    clear b2 AN
    have c0 := cell_of_row _ _ 0 _ _ _ X1.out
    have c1 := cell_of_row _ _ 1 _ _ _ X1.out
    have f0 : ∀ o, w2.frozen? ⟨w.heap.size, o, none⟩ = false := fun o => frz2 X1.out o
    have HF := Lib.hid (put2_same (.int .u32 0) (.int .u8 0) X1.out)
    have BF := Lib.hid (put2_below (.int .u32 0) (.int .u8 0) (Nat.le_refl w.heap.size) B1.out)
    obtain ⟨WF, hWF⟩ : ∃ WF, put2 w2 w.heap.size (.int .u32 0) (.int .u8 0) = WF := ⟨_, rfl⟩
    rw [hWF] at HF BF
    unfold put2 at hWF
    have HX := Lib.hid hWF
    clear hWF X1 B1
    go_wp2
    rw [HX.out]
    have e0 := cell_of_row _ _ 0 _ _ _ HF.out
    have e1 := cell_of_row _ _ 1 _ _ _ HF.out
    exact bodyPost_ret (v := .tuple #[.agg #[.int .u32 0, .int .u8 0], .int .i64 0, .int .i64 8]) (by simp [results, Tryz.results10, go_sem, e0, e1]) rfl ⟨rfl, BF.out⟩
  obtain ⟨e1, e2, e3⟩ := GOOD.out ⟨rfl, hp⟩
  have LV2 := Lib.hid (LV.out hb)
  have HO2 := Lib.hid (HO.out hb hp)
  have OF2 := Lib.hid (OF.out hb)
  have BF2 := Lib.hid (BF.out hp)
  rw [hp] at AN
  rw [e1, e2, e3]
  obtain ⟨s, hs⟩ : ∃ z, homeM (livesM l l) p = z := ⟨_, rfl⟩
  rw [hs] at HO2 OF2 ⊢
  have BG : Hid (∀ (W : World) (y : Value), Below w.heap.size w W → ElL W y (elmL l s) → Calls Tryz.prog 30 #[y, .slice uo p.length uc] W fun e w' => e = .returned (.int .i64 ((befM (elmL l s) p : Nat) : Int)) ∧ Below W.heap.size W w') := fun W y h hy => BF2.out W y s h hy
  obtain ⟨V, hV⟩ : ∃ z, livesM l l = z := ⟨_, rfl⟩
  rw [hV] at LV2 HO2 OF2
  obtain ⟨EL, hEL⟩ : ∃ z, elmL l s = z := ⟨_, rfl⟩
  rw [hEL] at OF2 BG ⊢
  obtain ⟨K, hK⟩ : ∃ z, befM EL p = z := ⟨_, rfl⟩
  rw [hK] at BG ⊢
  generalize p.length = np at *
  clear BAD GOOD LV HO OF BF BF2 hb hp e1 e2 e3 hs hV hEL hK
  obtain ⟨ts, rs, hts, hrs⟩ := s
  simp only at HO2 OF2 ⊢
  go_enter Tryz.func10, Tryz.ntmps10
  go_wp2_with fail
  rw [← HW.out]
  refine ML.out.mono ?_
  rintro e w1 ⟨rfl, b1⟩
  have B1 := Lib.hid (bt B0.out b1)
  have X1 := Lib.hid (blk_below b1 X0.out)
  clear b1 X0 B0 HW ML
  go_wp2_with fail
  refine (AN.out _ B1.out).mono ?_
  rintro e w2 ⟨rfl, b2⟩
  have B2 := Lib.hid (bt B1.out b2)
  have X2 := Lib.hid (blk_below b2 X1.out)
  clear b2 X1 B1 AN
  go_wp2_with fail
  refine (LV2.out _ B2.out).mono ?_
  rintro e w3 ⟨vl, rfl, o3, b3⟩
  have B3 := Lib.hid (bt B2.out b3)
  have X3 := Lib.hid (blk_below b3 X2.out)
  have O3 := Lib.hid o3
  clear b3 o3 X2 B2 LV2
  go_wp2_with fail
  refine (HO2.out _ _ O3.out B3.out).mono ?_
  rintro e w4 ⟨rfl, b4⟩
  have B4 := Lib.hid (bt B3.out b4)
  have X4 := Lib.hid (blk_below b4 X3.out)
  have O4 := Lib.hid (O3.out.keeps b4)
  clear b4 X3 O3 B3 HO2
  obtain ⟨wm, hwm⟩ : ∃ z, w4.alloc (.cells #[.int .u32 (ts : Int), .int .u8 (rs : Int)] 25) = z := ⟨_, rfl⟩
  have BA : Below w4.heap.size w4 wm := by rw [← hwm]; exact (Below.refl _ _).alloc (Nat.le_refl _) _
  have Q5 : Hid (wm.heap[w4.heap.size]? = some (.cells #[.int .u32 (ts : Int), .int .u8 (rs : Int)] 25)) := by rw [← hwm]; exact blk_new rfl
  have B5 := Lib.hid (bt B4.out BA)
  have X5 := Lib.hid (blk_below BA X4.out)
  have O5 := Lib.hid (O4.out.keeps BA)
  have HNE : Hid (w4.heap.size ≠ w.heap.size) := by have := (Array.getElem?_eq_some_iff.1 X4.out).1; unfold Hid; omega
  have HWM := Lib.hid hwm
  clear BA B4 X4 O4 hwm
  have SK : Hid (∀ W : World, Below wm.heap.size wm W → Below w.heap.size w W ∧ W.cell? ⟨w4.heap.size, 0, none⟩ = some (.int .u32 (ts : Int)) ∧ W.cell? ⟨w4.heap.size, 1, none⟩ = some (.int .u8 (rs : Int))) := fun W h => by
    have g2 := cells_blk (blk_below h Q5.out)
    exact ⟨bt B5.out h, g2.1, g2.2.1⟩
  go_upto_region 5 with fail
  rw [HWM.out]
  refine wp_region_held_drew (S := fun w' => Below w.heap.size w w' ∧ w'.cell? ⟨w4.heap.size, 0, none⟩ = some (.int .u32 (ts : Int)) ∧ w'.cell? ⟨w4.heap.size, 1, none⟩ = some (.int .u8 (rs : Int))) (by kernel_rfl) (SK.out _ (drew1 _)) (fun hHeld => ?_)
  have BD := Lib.hid (drew1 wm)
  generalize wm.drew = wd at hHeld BD ⊢
  refine rN 0 ?_
  refine rN 1 ?_
  refine rN 2 ?_
  refine rN 3 ?_
  refine rN 5 ?_
  refine wpAnyH_ready (rs := [4]) (by kernel_rfl) (by simp) ?_
  refine AllReadyH.cons rfl (fun K hK => ?_) AllReadyH.nil
  go_simp
  refine (OF2.out _ _ hHeld.1 (O5.out.keeps BD.out)).mono ?_
  rintro e w6 ⟨ve, rfl, oe, b6⟩
  have B6 := Lib.hid (bt BD.out b6)
  have OE := Lib.hid oe
  refine hK.out _ _ (SK.out _ B6.out) (fun hNew => ?_)
  clear hHeld
  have hHeld := hNew
  clear hNew hK K b6 oe BD
  refine rX ?_
  refine wpAnyH_ready (rs := [6]) (by kernel_rfl) (by simp) ?_
  refine AllReadyH.cons rfl (fun K hK => ?_) AllReadyH.nil
  go_simp
  refine (BG.out _ _ hHeld.1 OE.out).mono ?_
  rintro e w7 ⟨rfl, b7⟩
  have B7 := Lib.hid (bt B6.out b7)
  refine hK.out _ _ (SK.out _ B7.out) (fun hNew => ?_)
  clear hHeld
  have hHeld := hNew
  clear hNew hK K b7 B6 OE
  refine rX ?_
  have X7 := Lib.hid (blk_below B7.out X5.out)
  have c0 := cell_of_row _ _ 0 _ _ _ X7.out
  have c1 := cell_of_row _ _ 1 _ _ _ X7.out
  have f0 : ∀ o, w7.frozen? ⟨w.heap.size, o, none⟩ = false := fun o => frz2 X7.out o
  have HF := Lib.hid (put2_same (.int .u32 (ts : Int)) (.int .u8 (rs : Int)) X7.out)
  have BF := Lib.hid (put2_below (.int .u32 (ts : Int)) (.int .u8 (rs : Int)) (Nat.le_refl w.heap.size) hHeld.1)
  have QF : Hid ((put2 w7 w.heap.size (.int .u32 (ts : Int)) (.int .u8 (rs : Int))).heap[w4.heap.size]? = some (.cells #[.int .u32 (ts : Int), .int .u8 (rs : Int)] 25)) := by
    unfold Hid put2
    rw [heap_setCell_other _ _ _ _ HNE.out, heap_setCell_other _ _ _ _ HNE.out]
    exact blk_below B7.out Q5.out
  obtain ⟨WF, hWF⟩ : ∃ WF, put2 w7 w.heap.size (.int .u32 (ts : Int)) (.int .u8 (rs : Int)) = WF := ⟨_, rfl⟩
  rw [hWF] at HF BF QF
  unfold put2 at hWF
  refine wpAnyH_ready (rs := [7]) (by kernel_rfl) (by simp) ?_
  refine AllReadyH.cons rfl (fun K hK => ?_) AllReadyH.nil
  go_simp
  have g2 := cells_blk QF.out
  refine hK.out _ _ ⟨BF.out, g2.1, g2.2.1⟩ (fun hNew => ?_)
  clear hHeld
  have hHeld := hNew
  clear hNew hK K c0 c1 f0 g2
  refine rX ?_
  refine rN 8 ?_
  refine rN 9 ?_
  refine wpAnyH_done (by kernel_rfl) ?_ _
  clear hHeld
  have e0 := cell_of_row _ _ 0 _ _ _ HF.out
  have e1 := cell_of_row _ _ 1 _ _ _ HF.out
  go_wp2
  exact bodyPost_ret (v := .tuple #[.agg #[.int .u32 (ts : Int), .int .u8 (rs : Int)], .int .i64 (K : Int), .int .i64 0]) (by simp [results, Tryz.results10, go_sem, e0, e1]) rfl ⟨rfl, BF.out⟩
end Go.Proofs.YtmiepnnpccpicaaGreat.Anchors

namespace Go.Proofs.YtmiepnnpccpicaaGreat.Anchors
open Go.RowKit Go.WideShapes Stamp Go.Proofs.YtmiepnnpccpicaaGreat.Place Ops Codes Bags Marks Homes Covers Views
attribute [local go_sem ↓] Go.wp_at_zero Go.wp_at_succ
attribute [local go_sem] yielded_undef
theorem row_shape {w : World} {base n : Nat} {e : TypeId} {v : Value} {cs : List Value} (h : w.ownsRow base e 3 v n cs) : ∃ ao cap, v = .slice ao n cap := by
  rcases h.2 with ⟨hv, h0⟩ | ⟨g, c2, cur, hv, hb, _⟩
  · rw [h0]; exact ⟨_, _, hv⟩
  · exact ⟨_, _, hv⟩
set_option maxRecDepth 100000 in
set_option maxHeartbeats 16000000 in
theorem tells_walk {l : List Opn} {p : List Run} {ao0 ao1 : Option Addr} {cap0 cap1 : Nat} (a : Id) (k : Int) {w : World} (hr0 : OpL w (.slice ao0 l.length cap0) l) (hz0 : ∀ o ∈ l, o.pl.length ≤ 8796093022208) (hr1 : Runs w (.slice ao1 p.length cap1) p) :
    Calls Tryz.prog 3 #[.slice ao0 l.length cap0, .agg #[.int .u32 (a.t : Int), .int .u8 (a.r : Int)], .int .i64 k, .slice ao1 p.length cap1] w fun e w' => e = .returned (.bool true) ∧ Below w.heap.size w w' := by
  have HV : Hid (∀ W : World, Below w.heap.size w W → OpL W (.slice ao0 l.length cap0) l) := fun W h => hr0.keeps h
  have HP : Hid (∀ W : World, Below w.heap.size w W → Runs W (.slice ao1 p.length cap1) p) := fun W h => hr1.keeps h
  have GR : Hid (∀ W : World, Below w.heap.size w W → Calls Tryz.prog 5 #[.slice ao0 l.length cap0, .int .i64 60] W fun e w' => GrtO l 60 e ∧ W = w') := fun W h => greatO_any (HV.out W h)
  have hgr : ∀ {e : Ending}, GrtO l 60 e → ∃ g, e = .returned (.bool g) ∧ Hid (g = false → l.length ≤ 60) := fun ⟨g, h1, h2⟩ => ⟨g, h1, fun h => by have := (h2 h).1; omega⟩
  have TW : Hid (l.length ≤ 60 → ∀ W : World, Below w.heap.size w W → Calls Tryz.prog 6 #[.slice ao0 l.length cap0] W fun e w' => ∃ v', e = .returned v' ∧ OwnL w' W.heap.size v' l ∧ Below W.heap.size W w') := fun hl W h => refTwinL_any (HV.out W h) (by omega) hz0
  have CM : Hid (∀ (W : World) (v : Value), OpL W v l → Calls Tryz.prog 7 #[v, .agg #[.int .u32 (a.t : Int), .int .u8 (a.r : Int)], .int .i64 k] W (OneP (makeP l a k) (atE l a k) W)) := fun W v h => aMake_any a k h
  have RM : Hid (∀ W : World, Below w.heap.size w W → Calls Tryz.prog 8 #[.slice ao0 l.length cap0, .agg #[.int .u32 (a.t : Int), .int .u8 (a.r : Int)], .int .i64 k] W (OneP (makeP l a k) (atE l a k) W)) := fun W h => refMake17_any a k (HV.out W h)
  have CF : Hid (∀ (W : World) (v : Value), OpL W v l → Below w.heap.size w W → Calls Tryz.prog 9 #[v, .slice ao1 p.length cap1] W (OneF (findS l p) (findN l p) (findE l p) W)) := fun W v h h2 => aFind_any h (HP.out W h2)
  have RF : Hid (∀ W : World, Below w.heap.size w W → Calls Tryz.prog 10 #[.slice ao0 l.length cap0, .slice ao1 p.length cap1] W (OneF (findS l p) (findN l p) (findE l p) W)) := fun W h => refFind17_any (HV.out W h) (HP.out W h)
  have SR : Hid (∀ (W : World) (u v : Value) (m : List Run), Runs W u m → Runs W v m → Calls Tryz.prog 11 #[u, v] W fun e w' => e = .returned (.bool true) ∧ Below W.heap.size W w') := fun W u v m h h2 => by
    have := refSame_any h h2
    rwa [decide_eq_true rfl] at this
  have SB : Hid (∀ (W : World) (u : Value), OpL W u l → Below w.heap.size w W → Calls Tryz.prog 12 #[u, .slice ao0 l.length cap0] W fun e w' => e = .returned (.bool true) ∧ Below W.heap.size W w') := fun W u h h2 => by
    have := refSameL_any h (HV.out W h2)
    rwa [decide_eq_true rfl] at this
  obtain ⟨n0, hn0⟩ : ∃ n, n = l.length := ⟨_, rfl⟩
  rw [← hn0] at GR TW RM RF SB hgr ⊢
  obtain ⟨n1, hn1⟩ : ∃ n, n = p.length := ⟨_, rfl⟩
  have hn1m : n1 ≤ 9223372036854775807 := by rw [hn1]; exact hr1.max
  rw [← hn1] at CF RF ⊢
  obtain ⟨s, hs⟩ : ∃ z, a.t = z := ⟨_, rfl⟩
  obtain ⟨b, hb⟩ : ∃ z, a.r = z := ⟨_, rfl⟩
  rw [hs, hb] at CM RM ⊢
  have hf1 := makeP_fits l a k
  obtain ⟨MP, hMP⟩ : ∃ z, makeP l a k = z := ⟨_, rfl⟩
  obtain ⟨E1, hE1⟩ : ∃ z, atE l a k = z := ⟨_, rfl⟩
  obtain ⟨FS, hFS⟩ : ∃ z, findS l p = z := ⟨_, rfl⟩
  obtain ⟨FN, hFN⟩ : ∃ z, findN l p = z := ⟨_, rfl⟩
  obtain ⟨E2, hE2⟩ : ∃ z, findE l p = z := ⟨_, rfl⟩
  rw [hMP, hE1] at CM RM
  rw [hMP] at hf1
  rw [hFS, hFN, hE2] at CF RF
  obtain ⟨T1, r1, hT1, hr1'⟩ := FS
  have B_0 : Hid (Below w.heap.size w (w.alloc (.cells #[.int .u32 (s : Int), .int .u8 (b : Int)] 25))) := (Below.refl _ _).alloc (Nat.le_refl _) _
  have CE : Hid (∀ W : World, Below (w.alloc (.cells #[.int .u32 (s : Int), .int .u8 (b : Int)] 25)).heap.size (w.alloc (.cells #[.int .u32 (s : Int), .int .u8 (b : Int)] 25)) W → W.cell? ⟨w.heap.size, 0, none⟩ = some (.int .u32 (s : Int)) ∧ W.cell? ⟨w.heap.size, 1, none⟩ = some (.int .u8 (b : Int))) := fun W h => by
    have g2 := cells_blk (blk_below h (blk_new rfl))
    exact ⟨g2.1, g2.2.1⟩
  have BK_0 : Hid (Below (w.alloc (.cells #[.int .u32 (s : Int), .int .u8 (b : Int)] 25)).heap.size (w.alloc (.cells #[.int .u32 (s : Int), .int .u8 (b : Int)] 25)) (w.alloc (.cells #[.int .u32 (s : Int), .int .u8 (b : Int)] 25))) := Below.refl _ _
  have e1 : (E1 == E1) = true := by simp
  have e2 : (E2 == E2) = true := by simp
  have e3 : ((FN : Int) == (FN : Int)) = true := by simp
  clear hr0 hz0 hr1 hn0 hn1 hs hb hMP hE1 hFS hFN hE2 HV HP
  go_enter Tryz.func3, Tryz.ntmps3
  go_wp2_with fail
  refine (GR.out _ B_0.out).mono ?_
  rintro e w1 ⟨hg, rfl⟩
  obtain ⟨g, rfl, hg2⟩ := hgr hg
  clear hg hgr GR
  cases g
  rotate_left
  · go_wp2
    go_ret
    exact ⟨rfl, B_0.out⟩
  by_cases hm : 300 < n1
  · have t1 : decide ((300 : Int) < (n1 : Int)) = true := decide_eq_true (by omega)
    have u1 : decide (300 < n1) = true := decide_eq_true hm
    go_wp2
    go_ret
    exact ⟨rfl, B_0.out⟩
  have t1 : decide ((300 : Int) < (n1 : Int)) = false := decide_eq_false (by omega)
  have u1 : decide (300 < n1) = false := decide_eq_false hm
  have TW2 := Lib.hid (TW.out (hg2.out rfl))
  clear TW hg2
  go_wp2_with fail
  refine (TW2.out _ B_0.out).mono ?_
  rintro e w2 ⟨vo, rfl, o2, b2⟩
  have B_1 := Lib.hid (bt B_0.out b2)
  clear B_0
  have BK_2 := Lib.hid (bt BK_0.out b2)
  clear BK_0
  have V_3 := Lib.hid (o2.opl)
  clear b2 o2
  clear TW2
  have BZ_0 : Hid (Below w2.heap.size w2 w2) := Below.refl _ _
  have B2 := Lib.hid B_1.out
  have V2 := Lib.hid V_3.out
  obtain ⟨d0, d1⟩ := CE.out _ BK_2.out
  have U0 := Lib.hid BZ_0.out
  go_wp2_with fail
  refine (CM.out _ _ V_3.out).mono ?_
  rintro e w3 ⟨va, rfl, oa, b3⟩
  obtain ⟨aoA, capA, rfl⟩ := row_shape oa
  have B_4 := Lib.hid (bt B_1.out b3)
  clear B_1
  have BK_5 := Lib.hid (bt BK_2.out b3)
  clear BK_2
  have V_6 := Lib.hid (V_3.out.keeps b3)
  clear V_3
  have BZ_7 := Lib.hid (bt BZ_0.out b3)
  clear BZ_0
  have F_8 := Lib.hid (Runs.own oa)
  clear b3
  have szu := U0.out.size
  have OA := Lib.hid (Wk.of (op_base oa szu))
  clear oa szu U0 d0 d1 CM
  have B9_0 : Hid (Below w3.heap.size w3 w3) := Below.refl _ _
  obtain ⟨d0, d1⟩ := CE.out _ BK_5.out
  go_wp2_with fail
  refine (RM.out _ B_4.out).mono ?_
  rintro e w4 ⟨vb, rfl, oa, b4⟩
  have B_9 := Lib.hid (bt B_4.out b4)
  clear B_4
  have BK_10 := Lib.hid (bt BK_5.out b4)
  clear BK_5
  have V_11 := Lib.hid (V_6.out.keeps b4)
  clear V_6
  have BZ_12 := Lib.hid (bt BZ_7.out b4)
  clear BZ_7
  have F_13 := Lib.hid (F_8.out.keeps b4)
  clear F_8
  have B9_14 := Lib.hid (bt B9_0.out b4)
  clear B9_0
  have F2_15 := Lib.hid (Runs.own oa)
  clear b4
  clear oa d0 d1 RM
  go_wp2_with fail
  refine (CF.out _ _ V_11.out B_9.out).mono ?_
  rintro e w5 ⟨rfl, b5⟩
  have B_16 := Lib.hid (bt B_9.out b5)
  clear B_9
  have BK_17 := Lib.hid (bt BK_10.out b5)
  clear BK_10
  have V_18 := Lib.hid (V_11.out.keeps b5)
  clear V_11
  have BZ_19 := Lib.hid (bt BZ_12.out b5)
  clear BZ_12
  have F_20 := Lib.hid (F_13.out.keeps b5)
  clear F_13
  have B9_21 := Lib.hid (bt B9_14.out b5)
  clear B9_14
  have F2_22 := Lib.hid (F2_15.out.keeps b5)
  clear F2_15
  clear b5
  have bo := (Below.refl w5.heap.size w5).alloc (Nat.le_refl _) (.cells #[.int .u32 (T1 : Int), .int .u8 (r1 : Int)] 25)
  have B_23 := Lib.hid (bt B_16.out bo)
  clear B_16
  have BK_24 := Lib.hid (bt BK_17.out bo)
  clear BK_17
  have V_25 := Lib.hid (V_18.out.keeps bo)
  clear V_18
  have BZ_26 := Lib.hid (bt BZ_19.out bo)
  clear BZ_19
  have F_27 := Lib.hid (F_20.out.keeps bo)
  clear F_20
  have B9_28 := Lib.hid (bt B9_21.out bo)
  clear B9_21
  have F2_29 := Lib.hid (F2_22.out.keeps bo)
  clear F2_22
  have P1_30 := Lib.hid (pair_new w5 (.int .u32 (T1 : Int)) (.int .u8 (r1 : Int)) 25)
  clear bo
  clear CF
  go_wp2_with fail
  refine (RF.out _ B_23.out).mono ?_
  rintro e w6 ⟨rfl, b6⟩
  have B_31 := Lib.hid (bt B_23.out b6)
  clear B_23
  have BK_32 := Lib.hid (bt BK_24.out b6)
  clear BK_24
  have V_33 := Lib.hid (V_25.out.keeps b6)
  clear V_25
  have BZ_34 := Lib.hid (bt BZ_26.out b6)
  clear BZ_26
  have F_35 := Lib.hid (F_27.out.keeps b6)
  clear F_27
  have B9_36 := Lib.hid (bt B9_28.out b6)
  clear B9_28
  have F2_37 := Lib.hid (F2_29.out.keeps b6)
  clear F2_29
  have P1_38 := Lib.hid (P1_30.out.keeps b6)
  clear P1_30
  clear b6
  have bo := (Below.refl w6.heap.size w6).alloc (Nat.le_refl _) (.cells #[.int .u32 (T1 : Int), .int .u8 (r1 : Int)] 25)
  have B_39 := Lib.hid (bt B_31.out bo)
  clear B_31
  have BK_40 := Lib.hid (bt BK_32.out bo)
  clear BK_32
  have V_41 := Lib.hid (V_33.out.keeps bo)
  clear V_33
  have BZ_42 := Lib.hid (bt BZ_34.out bo)
  clear BZ_34
  have F_43 := Lib.hid (F_35.out.keeps bo)
  clear F_35
  have B9_44 := Lib.hid (bt B9_36.out bo)
  clear B9_36
  have F2_45 := Lib.hid (F2_37.out.keeps bo)
  clear F2_37
  have P1_46 := Lib.hid (P1_38.out.keeps bo)
  clear P1_38
  have P2_47 := Lib.hid (pair_new w6 (.int .u32 (T1 : Int)) (.int .u8 (r1 : Int)) 25)
  clear bo
  clear RF
  go_wp2_with fail
  refine (SR.out _ _ _ _ F_43.out F2_45.out).mono ?_
  rintro e w7 ⟨rfl, b7⟩
  have B_48 := Lib.hid (bt B_39.out b7)
  clear B_39
  have BK_49 := Lib.hid (bt BK_40.out b7)
  clear BK_40
  have V_50 := Lib.hid (V_41.out.keeps b7)
  clear V_41
  have BZ_51 := Lib.hid (bt BZ_42.out b7)
  clear BZ_42
  have F_52 := Lib.hid (F_43.out.keeps b7)
  clear F_43
  have B9_53 := Lib.hid (bt B9_44.out b7)
  clear B9_44
  have F2_54 := Lib.hid (F2_45.out.keeps b7)
  clear F2_45
  have P1_55 := Lib.hid (P1_46.out.keeps b7)
  clear P1_46
  have P2_56 := Lib.hid (P2_47.out.keeps b7)
  clear P2_47
  clear b7
  clear F_52 F2_54
  obtain ⟨lt1, fa1, fb1⟩ := P1_55.out
  obtain ⟨lt2, fa2, fb2⟩ := P2_56.out
  clear P1_55 P2_56
  have RA9 := Lib.hid (OA.out.keeps B9_53.out)
  obtain ⟨nf, hnf⟩ : ∃ z, z = MP.length := ⟨_, rfl⟩
  rw [← hnf] at RA9 hf1 ⊢
  have BZ := Lib.hid BZ_51.out
  clear SR OA hnf CE B9_53 BK_49 BZ_51 V_50 B_48
  go_wp2
  go_loopw [21] (fun i wr => ∃ k : Nat, k ≤ nf ∧ i = .int .i64 (k : Int) ∧ Hid (Wk wr w2.heap.size aoA nf) ∧ Hid (Below w2.heap.size w2 wr)) (fun i _ => nf - (intOf i).toNat)
  case atStart => exact ⟨0, by omega, rfl, RA9, BZ⟩
  case round =>
    clear RA9 BZ
    obtain ⟨j, hj, rfl, ow, hbel⟩ := hrel
    by_cases hjn : j < nf
    · have q2 : decide (j < nf) = true := by simpa using hjn
      obtain ⟨g, u, rfl, hg, xm, xf⟩ := ow.out.at hjn
      have OW2 : Hid (Wk (wr.setCell ⟨g, j * 3 + 2, none⟩ (.int .i64 (-7))) w2.heap.size (some ⟨g, 0, none⟩) nf) := ow.out.set
      have BW2 : Hid (Below w2.heap.size w2 (wr.setCell ⟨g, j * 3 + 2, none⟩ (.int .i64 (-7)))) := hbel.out.setCell (p := ⟨g, j * 3 + 2, none⟩) hg _
      have w0 : (0 : Int) ≤ (j : Int) := by omega
      have w1' : (j : Int) < (nf : Int) := by omega
      clear ow hg
      go_wp2
      go_roundw
      case rel => exact ⟨j + 1, by omega, by go_num, OW2, BW2⟩
      case measure => simp [intOf]; omega
    · have q2 : decide (j < nf) = false := by simpa using hjn
      have BF := Lib.hid (bt B2.out hbel.out)
      have X5 := Lib.hid (SB.out wr _ (V2.out.keeps hbel.out) BF.out)
      clear ow SB
      go_wp2_with fail
      refine X5.out.mono ?_
      rintro e w14 ⟨rfl, b14⟩
      have B14 := Lib.hid (bt BF.out b14)
      clear b14
      go_wp2
      go_ret
      exact ⟨rfl, B14.out⟩
end Go.Proofs.YtmiepnnpccpicaaGreat.Anchors
