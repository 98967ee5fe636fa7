/- octavo/home.Of, All, Ahead, Span: what each answers. Conditions: the slices' cells are operations, runs. octavo/view.takenAway: what it answers; elements as they are gathered. Conditions: operations that may be, not more than a bag's. Lists of elements as the row that a sort passes through. Conditions: places that may be, or the beginning. octavo/view.Elements's closure: how two elements are held against each other. Conditions: the places read as such. slices.SortFunc at elements: the library's contract laid at this program. Conditions: as it says. slices.SortFunc over elements by their places: what it leaves. Conditions: a list of the call's own; places that may be, or the beginning. A place gone back, from its end on: what is found by that. Conditions: a bag, a section of it, its content. -/
import Derived.Test.YtmiepnnpccpicaaGreatChecked
import Derived.WalkKit
import Derived.WalkSpells
import Derived.WalkLawsBesides
import Derived.Laws.BytesArg
import Derived.Lib.Hide
import Derived.Deep.LoopGhost
import Derived.Laws.AppendOwnNone
import Derived.Laws.OwnMore
import Derived.WideShapes
import Derived.Maps.AppendAt
import Derived.RegionTactic
import Derived.Deep.RegionHeld3
import Derived.Deep.DrawnRows
import Derived.Deep.QuietTactic
import Derived.BigQuiet
import Derived.IntWalk
import Derived.Deep.DeepCutAuto
import Derived.ScopeJumps
import Derived.Test.YtmiepnnpccpicaaGreatProg
import Derived.LoopTactic
import Derived.Laws.EntriesVeiled
import Derived.RowKit
import Derived.Shelf.Abstract
import Derived.Shelf.SlSortCmp.InsertionK
import Derived.Calls
import Derived.StepT
import Derived.Below
import Derived.Sort.Grow
import Derived.Deep.Draws
import Derived.Shelf.SlLaysF0
import Derived.Shelf.SlSortCmp.NoneTotal
import Derived.Maps.Own
import Derived.Maps.OwnOps
import Derived.Maps.OwnSet
import Derived.Maps.Views
import Derived.DeepKeys4
import Derived.RangeFuncBox
import Derived.RangeFuncLeaves
import Derived.RangeFuncNested
import Derived.RangeFuncBound
import Derived.RangeFuncCalls
import Derived.OwnWalkIn
import Derived.TacticsInMore
import Derived.LoopNIn
import Derived.LoopIn
import Derived.Lib.DecodeN
import Derived.Lib.RuneBytes
import Derived.Test.YtmiepnnpccpicaaGreatPk05
import Derived.Test.YtmiepnnpccpicaaGreatPk04
import Derived.Test.YtmiepnnpccpicaaGreatPk03
import Derived.Test.YtmiepnnpccpicaaGreatPk02
import Derived.Test.YtmiepnnpccpicaaGreatPk01
import Derived.Test.YtmiepnnpccpicaaGreatPk06
import Derived.Test.YtmiepnnpccpicaaGreatPk07

namespace Go.Proofs.YtmiepnnpccpicaaGreat.Homes
open Go.RowKit Go.WideShapes Stamp Go.Proofs.YtmiepnnpccpicaaGreat.Place Ops Codes Bags Marks
attribute [local go_sem ↓] Go.wp_at_zero Go.wp_at_succ
attribute [local go_sem] yielded_undef
theorem live_yes {l : List Opn} (h : Bag l) : liveL l = livesM l l := by unfold liveL; rw [(bagB_iff l).2 h]; rfl
theorem live_no {l : List Opn} (h : ¬ Bag l) : liveL l = [] := by unfold liveL; rw [bagB_no h]; rfl
set_option maxRecDepth 100000 in
set_option maxHeartbeats 4000000 in
theorem hOf_any {v u : Value} {l : List Opn} {p : List Run} {w : World} (hv : OpL w v l) (hu : Runs w u p) : Calls Tryz.prog 23 #[v, u] w (OneI (homeL l p) (homeE l p) w) := by
  obtain ⟨wl, hwl⟩ : ∃ x, x = w.alloc (.cells #[.int .u32 0, .int .u8 0] 25) := ⟨_, rfl⟩
  have X0 : Hid (wl.heap[w.heap.size]? = some (.cells #[.int .u32 0, .int .u8 0] 25)) := by rw [hwl]; exact blk_new rfl
  have B0 : Hid (Below w.heap.size w wl) := by rw [hwl]; exact (Below.refl _ _).alloc (Nat.le_refl _) _
  have LV : Hid (Calls Tryz.prog 53 #[v] wl (DoneN (liveL l) (chkL l) wl)) := mLive_any (hv.keeps B0.out)
  have CK : Hid (∀ W : World, Below w.heap.size w W → Calls Tryz.prog 24 #[u] W fun e w' => e = .returned (.int .i64 (Go.Proofs.YtmiepnnpccpicaaGreat.Place.chk p)) ∧ Below W.heap.size W w') := fun W h => check_any (hu.keeps h)
  have BN : Hid (Bag l → anyB p = true → ∀ (W : World) (y : Value), OpL W y (livesM l l) → Below w.heap.size w W → Calls Tryz.prog 54 #[y, u, .func (.func 55) #[] #[]] W fun e w' => (∃ q : Bool, e = .returned (.tuple #[.int .i64 (cntM (livesM l l) p : Int), .bool q])) ∧ Below W.heap.size W w') := fun hb hp W y h h2 => hBin_any h (hu.keeps h2) (by have := (lives_fits hb).1; omega) (liv_bag hb) hp
  have NA : Hid (Bag l → ∀ (W : World) (y : Value), OpL W y (livesM l l) → Calls Tryz.prog 56 #[y, .int .i64 (cntM (livesM l l) p : Int)] W fun e w' => e = .returned (.agg #[.int .u32 ((homeM (livesM l l) p).t : Int), .int .u8 ((homeM (livesM l l) p).r : Int)]) ∧ Below W.heap.size W w') := fun hb W y h => by
    rw [homeM_is (liv_bag hb)]
    exact hName_any h (by have := (lives_fits hb).1; omega) _ (cntM_le _ _)
  have HW := Lib.hid hwl
  obtain ⟨ua, uc, rfl⟩ := hu.shape
  have hum := hu.max
  clear hv hu hwl
  have BAD : Hid ((bagB l && anyB p) = false → homeL l p = zid ∧ homeE l p = 8) := fun h => by unfold homeL homeE; rw [h]; exact ⟨rfl, rfl⟩
  have GOOD : Hid ((bagB l && anyB p) = true → homeL l p = homeM (livesM l l) p ∧ homeE l p = 0) := fun h => by unfold homeL homeE; rw [h]; exact ⟨rfl, rfl⟩
  by_cases hb : Bag l
  rotate_left
  · obtain ⟨e1, e2⟩ := BAD.out (by rw [bagB_no hb]; rfl)
    rw [chkL_no hb, live_no hb] at LV
    rw [e1, e2]
    generalize p.length = np at *
    clear BAD GOOD BN NA CK hb e1 e2
    go_enter Tryz.func23, Tryz.ntmps23
    go_wp2_with fail
    rw [← HW.out]
    refine LV.out.mono ?_
    rintro e w1 ⟨v1, rfl, o1, b1⟩
    have B1 := Lib.hid (bt B0.out b1)
    have O1 := Lib.hid o1.opl
    have OB := Lib.hid (o1.base (b' := w.heap.size) B0.out.size)
    have X1 := Lib.hid (blk_below b1 X0.out)
    clear b1 o1 O1 OB X0 B0 HW LV
    have c0 := cell_of_row _ _ 0 _ _ _ X1.out
    have c1 := cell_of_row _ _ 1 _ _ _ X1.out
    have f0 : ∀ o, w1.frozen? ⟨w.heap.size, o, none⟩ = false := fun o => frz2 X1.out o
    have HF := Lib.hid (put2_same (.int .u32 0) (.int .u8 0) X1.out)
    have BF := Lib.hid (put2_below (.int .u32 0) (.int .u8 0) (Nat.le_refl w.heap.size) B1.out)
    obtain ⟨WF, hWF⟩ : ∃ WF, put2 w1 (w.heap.size) (.int .u32 0) (.int .u8 0) = WF := ⟨_, rfl⟩
    rw [hWF] at HF BF
    unfold put2 at hWF
    have HX := Lib.hid hWF
    clear hWF X1 B1
    go_wp2
    rw [HX.out]
    have e0 := cell_of_row _ _ 0 _ _ _ HF.out
    have e1 := cell_of_row _ _ 1 _ _ _ HF.out
    exact bodyPost_ret (v := .tuple #[.agg #[.int .u32 0, .int .u8 0], .int .i64 8]) (by simp [results, Tryz.results23, go_sem, e0, e1]) rfl ⟨rfl, BF.out⟩
  rw [(bagB_iff l).2 hb] at BAD GOOD
  rw [chkL_yes hb, live_yes hb] at LV
  have HPA : Hid (anyB p = (decide (p.length = 0) || mayB p)) := rfl
  by_cases hp : anyB p = true
  rotate_left
  · have hp' : anyB p = false := by simpa using hp
    obtain ⟨e1, e2⟩ := BAD.out (by rw [hp']; rfl)
    rw [e1, e2]
    have hA := HPA.out
    rw [hp'] at hA
    have hn0 : ¬ p.length = 0 := by
      intro h
      rw [h] at hA
      simp at hA
    have hmb : mayB p = false := by
      rw [decide_eq_false hn0, Bool.false_or] at hA
      exact hA.symm
    have hck : Go.Proofs.YtmiepnnpccpicaaGreat.Place.chk p = 8 := by unfold Go.Proofs.YtmiepnnpccpicaaGreat.Place.chk; rw [hmb]; rfl
    rw [hck] at CK
    obtain ⟨np, hnp⟩ : ∃ np, p.length = np := ⟨_, rfl⟩
    rw [hnp] at hn0 hum CK ⊢
    have t1 : decide ((0 : Int) < (np : Int)) = true := decide_eq_true (by omega)
    have t2 : decide (0 < np) = true := decide_eq_true (by omega)
    clear BAD GOOD BN NA HPA hb hp hp' e1 e2 hA hmb hck hnp
    go_enter Tryz.func23, Tryz.ntmps23
    go_wp2_with fail
    rw [← HW.out]
    refine LV.out.mono ?_
    rintro e w1 ⟨v1, rfl, o1, b1⟩
    have B1 := Lib.hid (bt B0.out b1)
    have O1 := Lib.hid o1.opl
    have OB := Lib.hid (o1.base (b' := w.heap.size) B0.out.size)
    have X1 := Lib.hid (blk_below b1 X0.out)
    clear b1 o1 O1 OB X0 B0 HW LV
    go_wp2_with fail
    refine (CK.out _ B1.out).mono ?_
    rintro e w2 ⟨rfl, b2⟩
    have B2 := Lib.hid (bt B1.out b2)
    have X2 := Lib.hid (blk_below b2 X1.out)
    clear b2 X1 B1 CK t1 t2
    have c0 := cell_of_row _ _ 0 _ _ _ X2.out
    have c1 := cell_of_row _ _ 1 _ _ _ X2.out
    have f0 : ∀ o, w2.frozen? ⟨w.heap.size, o, none⟩ = false := fun o => frz2 X2.out o
    have HF := Lib.hid (put2_same (.int .u32 0) (.int .u8 0) X2.out)
    have BF := Lib.hid (put2_below (.int .u32 0) (.int .u8 0) (Nat.le_refl w.heap.size) B2.out)
    obtain ⟨WF, hWF⟩ : ∃ WF, put2 w2 (w.heap.size) (.int .u32 0) (.int .u8 0) = WF := ⟨_, rfl⟩
    rw [hWF] at HF BF
    unfold put2 at hWF
    have HX := Lib.hid hWF
    clear hWF X2 B2
    go_wp2
    rw [HX.out]
    have e0 := cell_of_row _ _ 0 _ _ _ HF.out
    have e1 := cell_of_row _ _ 1 _ _ _ HF.out
    exact bodyPost_ret (v := .tuple #[.agg #[.int .u32 0, .int .u8 0], .int .i64 8]) (by simp [results, Tryz.results23, go_sem, e0, e1]) rfl ⟨rfl, BF.out⟩
  obtain ⟨e1, e2⟩ := GOOD.out (by rw [hp]; rfl)
  have BN2 := Lib.hid (BN.out hb hp)
  have NA2 := Lib.hid (NA.out hb)
  rw [e1, e2]
  have hk0 : ¬ p.length = 0 → Go.Proofs.YtmiepnnpccpicaaGreat.Place.chk p = 0 := fun h => by
    have hA := HPA.out
    rw [hp, decide_eq_false h, Bool.false_or] at hA
    unfold Go.Proofs.YtmiepnnpccpicaaGreat.Place.chk
    rw [← hA]
    rfl
  obtain ⟨⟨T, r, hT, hr⟩, hR⟩ : ∃ z, homeM (livesM l l) p = z := ⟨_, rfl⟩
  rw [hR] at NA2 ⊢
  simp only at NA2 ⊢
  obtain ⟨c, hc⟩ : ∃ c, Go.Proofs.YtmiepnnpccpicaaGreat.Place.chk p = c := ⟨_, rfl⟩
  rw [hc] at CK hk0
  obtain ⟨V, hV⟩ : ∃ V, livesM l l = V := ⟨_, rfl⟩
  simp only [hV] at BN2 NA2 LV
  obtain ⟨K, hK⟩ : ∃ K, cntM V p = K := ⟨_, rfl⟩
  rw [hK] at BN2 NA2
  obtain ⟨np, hnp⟩ : ∃ np, p.length = np := ⟨_, rfl⟩
  rw [hnp] at hum CK BN2 hk0 ⊢
  clear BAD GOOD BN NA HPA hb hp e1 e2 hR hc hV hK hnp
  by_cases hz : np = 0
  · subst hz
    clear CK hk0
    go_enter Tryz.func23, Tryz.ntmps23
    go_wp2_with fail
    rw [← HW.out]
    refine LV.out.mono ?_
    rintro e w1 ⟨v1, rfl, o1, b1⟩
    have B1 := Lib.hid (bt B0.out b1)
    have O1 := Lib.hid o1.opl
    have OB := Lib.hid (o1.base (b' := w.heap.size) B0.out.size)
    have X1 := Lib.hid (blk_below b1 X0.out)
    clear b1 o1 OB X0 B0 HW LV
    go_wp2_with fail
    refine (BN2.out _ _ O1.out B1.out).mono ?_
    rintro e w2 ⟨⟨q, rfl⟩, b2⟩
    have B2 := Lib.hid (bt B1.out b2)
    have X2 := Lib.hid (blk_below b2 X1.out)
    have O2 := Lib.hid (O1.out.keeps b2)
    clear b2 X1 B1 O1 BN2
    go_wp2_with fail
    refine (NA2.out _ _ O2.out).mono ?_
    rintro e w3 ⟨rfl, b3⟩
    have B3 := Lib.hid (bt B2.out b3)
    have X3 := Lib.hid (blk_below b3 X2.out)
    clear b3 X2 B2 O2 NA2
    have c0 := cell_of_row _ _ 0 _ _ _ X3.out
    have c1 := cell_of_row _ _ 1 _ _ _ X3.out
    have f0 : ∀ o, w3.frozen? ⟨w.heap.size, o, none⟩ = false := fun o => frz2 X3.out o
    have HF := Lib.hid (put2_same (.int .u32 (T : Int)) (.int .u8 (r : Int)) X3.out)
    have BF := Lib.hid (put2_below (.int .u32 (T : Int)) (.int .u8 (r : Int)) (Nat.le_refl w.heap.size) B3.out)
    obtain ⟨WF, hWF⟩ : ∃ WF, put2 w3 (w.heap.size) (.int .u32 (T : Int)) (.int .u8 (r : Int)) = WF := ⟨_, rfl⟩
    rw [hWF] at HF BF
    unfold put2 at hWF
    have HX := Lib.hid hWF
    clear hWF X3 B3
    go_wp2
    rw [HX.out]
    have e0 := cell_of_row _ _ 0 _ _ _ HF.out
    have e1 := cell_of_row _ _ 1 _ _ _ HF.out
    exact bodyPost_ret (v := .tuple #[.agg #[.int .u32 (T : Int), .int .u8 (r : Int)], .int .i64 0]) (by simp [results, Tryz.results23, go_sem, e0, e1]) rfl ⟨rfl, BF.out⟩
  · obtain rfl := hk0 hz
    have t1 : decide ((0 : Int) < (np : Int)) = true := decide_eq_true (by omega)
    have t2 : decide (0 < np) = true := decide_eq_true (by omega)
    clear hk0
    go_enter Tryz.func23, Tryz.ntmps23
    go_wp2_with fail
    rw [← HW.out]
    refine LV.out.mono ?_
    rintro e w1 ⟨v1, rfl, o1, b1⟩
    have B1 := Lib.hid (bt B0.out b1)
    have O1 := Lib.hid o1.opl
    have OB := Lib.hid (o1.base (b' := w.heap.size) B0.out.size)
    have X1 := Lib.hid (blk_below b1 X0.out)
    clear b1 o1 OB X0 B0 HW LV
    go_wp2_with fail
    refine (CK.out _ B1.out).mono ?_
    rintro e w2 ⟨rfl, b2⟩
    have B2 := Lib.hid (bt B1.out b2)
    have X2 := Lib.hid (blk_below b2 X1.out)
    have O2 := Lib.hid (O1.out.keeps b2)
    clear b2 X1 B1 O1 CK t1 t2
    go_wp2_with fail
    refine (BN2.out _ _ O2.out B2.out).mono ?_
    rintro e w3 ⟨⟨q, rfl⟩, b3⟩
    have B3 := Lib.hid (bt B2.out b3)
    have X3 := Lib.hid (blk_below b3 X2.out)
    have O3 := Lib.hid (O2.out.keeps b3)
    clear b3 X2 B2 O2 BN2
    go_wp2_with fail
    refine (NA2.out _ _ O3.out).mono ?_
    rintro e w4 ⟨rfl, b4⟩
    have B4 := Lib.hid (bt B3.out b4)
    have X4 := Lib.hid (blk_below b4 X3.out)
    clear b4 X3 B3 O3 NA2
    have c0 := cell_of_row _ _ 0 _ _ _ X4.out
    have c1 := cell_of_row _ _ 1 _ _ _ X4.out
    have f0 : ∀ o, w4.frozen? ⟨w.heap.size, o, none⟩ = false := fun o => frz2 X4.out o
    have HF := Lib.hid (put2_same (.int .u32 (T : Int)) (.int .u8 (r : Int)) X4.out)
    have BF := Lib.hid (put2_below (.int .u32 (T : Int)) (.int .u8 (r : Int)) (Nat.le_refl w.heap.size) B4.out)
    obtain ⟨WF, hWF⟩ : ∃ WF, put2 w4 (w.heap.size) (.int .u32 (T : Int)) (.int .u8 (r : Int)) = WF := ⟨_, rfl⟩
    rw [hWF] at HF BF
    unfold put2 at hWF
    have HX := Lib.hid hWF
    clear hWF X4 B4
    go_wp2
    rw [HX.out]
    have e0 := cell_of_row _ _ 0 _ _ _ HF.out
    have e1 := cell_of_row _ _ 1 _ _ _ HF.out
    exact bodyPost_ret (v := .tuple #[.agg #[.int .u32 (T : Int), .int .u8 (r : Int)], .int .i64 0]) (by simp [results, Tryz.results23, go_sem, e0, e1]) rfl ⟨rfl, BF.out⟩
set_option maxRecDepth 100000 in
set_option maxHeartbeats 4000000 in
theorem hSpan_any {v : Value} {l : List Opn} (s : Id) {w : World} (hv : OpL w v l) : Calls Tryz.prog 109 #[v, .agg #[.int .u32 (s.t : Int), .int .u8 (s.r : Int)]] w (TwoR (fromL l s) (toL l s) (spanE l s) w) := by
  obtain ⟨wl, hwl⟩ : ∃ x, x = w.alloc (.cells #[.int .u32 (s.t : Int), .int .u8 (s.r : Int)] 25) := ⟨_, rfl⟩
  have Y0 : Hid (wl.heap[w.heap.size]? = some (.cells #[.int .u32 (s.t : Int), .int .u8 (s.r : Int)] 25)) := by rw [hwl]; exact blk_new rfl
  have B0 : Hid (Below w.heap.size w wl) := by rw [hwl]; exact (Below.refl _ _).alloc (Nat.le_refl _) _
  have HW := Lib.hid hwl
  have LV : Hid (Calls Tryz.prog 53 #[v] wl (DoneN (liveL l) (chkL l) wl)) := mLive_any (hv.keeps B0.out)
  have NU : Hid (Bag l → ∀ (W : World) (y : Value), OpL W y (livesM l l) → Calls Tryz.prog 131 #[y, .agg #[.int .u32 (s.t : Int), .int .u8 (s.r : Int)]] W fun e w' => NumI (whereM (livesM l l) s) e ∧ Below W.heap.size W w') := fun hb W y h => hNumber_any s h (by have := (lives_fits hb).1; omega)
  have BG : Hid (∀ (W : World) (y : Value) (V : List Opn) (i : Nat), V.length ≤ 1024 → i ≤ 1025 → OwnL W w.heap.size y V → Calls Tryz.prog 132 #[y, .int .i64 (i : Int)] W fun e w' => (∃ ao cap, e = .returned (.slice ao (beginM V i).length cap) ∧ W.ownsRow w.heap.size 40 3 (.slice ao (beginM V i).length cap) (beginM V i).length (runs (beginM V i))) ∧ w' = W) := fun W y V i h1 h2 h => hBegin_any h i (by omega)
  clear hv hwl
  by_cases hb : Bag l
  rotate_left
  · have e1 : fromL l s = [] := by unfold fromL; rw [bagB_no hb]; rfl
    have e2 : toL l s = [] := by unfold toL; rw [bagB_no hb]; rfl
    have e3 : spanE l s = 8 := by unfold spanE; rw [bagB_no hb]; rfl
    rw [chkL_no hb, live_no hb] at LV
    rw [e1, e2, e3]
    clear NU BG hb e1 e2 e3
    go_enter Tryz.func109, Tryz.ntmps109
    go_wp2_with fail
    rw [← HW.out]
    refine LV.out.mono ?_
    rintro e w1 ⟨v1, rfl, o1, b1⟩
    have B1 := Lib.hid (bt B0.out b1)
    have O1 := Lib.hid o1.opl
    have OB := Lib.hid (o1.base (b' := w.heap.size) B0.out.size)
    clear b1 o1 O1 OB Y0 B0 HW LV
    go_wp2
    exact bodyPost_ret (v := .tuple #[.slice none 0 0, .slice none 0 0, .int .i64 8]) (by simp [results, Tryz.results109, go_sem]) rfl ⟨_, _, rfl, World.ownsRow_nil _ _ _ _, World.ownsRow_nil _ _ _ _, B1.out⟩
  rw [chkL_yes hb, live_yes hb] at LV
  have NU2 := Lib.hid (NU.out hb)
  have hbb := (bagB_iff l).2 hb
  have hlen := (lives_fits hb).1
  clear NU hb
  obtain ⟨V, hV⟩ : ∃ z, livesM l l = z := ⟨_, rfl⟩
  have aF : fromL l s = if 0 ≤ whereM V s then beginM V (whereM V s) else [] := by unfold fromL; rw [hV, hbb]; simp
  have aT : toL l s = if 0 ≤ whereM V s then beginM V (whereM V s + 1) else [] := by unfold toL; rw [hV, hbb]; simp
  have aE : spanE l s = if 0 ≤ whereM V s then 0 else 130 := by unfold spanE; rw [hV, hbb]; simp
  rw [hV] at LV NU2 hlen
  rw [aF, aT, aE]
  have hlo := where_lo V s
  obtain ⟨x, hx⟩ : ∃ x, whereM V s = x := ⟨_, rfl⟩
  rw [hx] at NU2 hlo ⊢
  clear aF aT aE hV hbb hx
  by_cases hx : 0 ≤ x
  rotate_left
  · rw [if_neg hx, if_neg hx, if_neg hx]
    have NI : Hid (∀ e, NumI x e → e = .returned (.tuple #[.int .i64 0, .bool false])) := fun e h => by
      unfold NumI at h
      rwa [if_neg hx, decide_eq_false hx] at h
    clear BG hlen hlo hx
    go_enter Tryz.func109, Tryz.ntmps109
    go_wp2_with fail
    rw [← HW.out]
    refine LV.out.mono ?_
    rintro e w1 ⟨v1, rfl, o1, b1⟩
    have B1 := Lib.hid (bt B0.out b1)
    have O1 := Lib.hid o1.opl
    have OB := Lib.hid (o1.base (b' := w.heap.size) B0.out.size)
    have Y1 := Lib.hid (blk_below b1 Y0.out)
    have d0 := cell_of_row _ _ 0 _ _ _ Y1.out
    have d1 := cell_of_row _ _ 1 _ _ _ Y1.out
    clear b1 o1 Y0 B0 HW LV
    go_wp2_with fail
    refine (NU2.out _ _ O1.out).mono ?_
    rintro e w2 ⟨hnum, b2⟩
    obtain rfl := NI.out e hnum
    have B2 := Lib.hid (bt B1.out b2)
    have O2 := Lib.hid (OB.out.keeps b2)
    clear b2 hnum d0 d1 Y1 B1 O1 OB NU2 NI
    clear O2
    go_wp2
    exact bodyPost_ret (v := .tuple #[.slice none 0 0, .slice none 0 0, .int .i64 130]) (by simp [results, Tryz.results109, go_sem]) rfl ⟨_, _, rfl, World.ownsRow_nil _ _ _ _, World.ownsRow_nil _ _ _ _, B2.out⟩
  rw [if_pos hx, if_pos hx, if_pos hx]
  obtain ⟨k, rfl⟩ : ∃ k : Nat, x = (k : Int) := ⟨x.toNat, by omega⟩
  have NI : Hid (∀ e, NumI (k : Int) e → e = .returned (.tuple #[.int .i64 (k : Int), .bool true])) := fun e h => by
    unfold NumI at h
    rwa [if_pos hx, decide_eq_true hx] at h
  have ek : (k : Int) + 1 = ((k + 1 : Nat) : Int) := by omega
  have q2 : IntKind.i64.wrap ((k : Int) + 1) = (k : Int) + 1 := IntWalk.i64_in _ (by omega)
  have g1 := Lib.hid (fun W y h => BG.out W y V k hlen (by omega) h)
  have g2 := Lib.hid (fun W y h => BG.out W y V (k + 1) hlen (by omega) h)
  rw [← ek] at g2
  obtain ⟨F, hF⟩ : ∃ z, beginM V (k : Int) = z := ⟨_, rfl⟩
  obtain ⟨T, hT⟩ : ∃ z, beginM V ((k : Int) + 1) = z := ⟨_, rfl⟩
  simp only [hF] at g1 ⊢
  simp only [hT] at g2 ⊢
  clear BG hF hT hlen hlo hx ek
  go_enter Tryz.func109, Tryz.ntmps109
  go_wp2_with fail
  rw [← HW.out]
  refine LV.out.mono ?_
  rintro e w1 ⟨v1, rfl, o1, b1⟩
  have B1 := Lib.hid (bt B0.out b1)
  have O1 := Lib.hid o1.opl
  have OB := Lib.hid (o1.base (b' := w.heap.size) B0.out.size)
  have Y1 := Lib.hid (blk_below b1 Y0.out)
  have d0 := cell_of_row _ _ 0 _ _ _ Y1.out
  have d1 := cell_of_row _ _ 1 _ _ _ Y1.out
  clear b1 o1 Y0 B0 HW LV
  go_wp2_with fail
  refine (NU2.out _ _ O1.out).mono ?_
  rintro e w2 ⟨hnum, b2⟩
  obtain rfl := NI.out e hnum
  have B2 := Lib.hid (bt B1.out b2)
  have O2 := Lib.hid (OB.out.keeps b2)
  clear b2 hnum d0 d1 Y1 B1 O1 OB NU2 NI
  go_wp2_with fail
  refine (g1.out _ _ O2.out).mono ?_
  rintro e w3 ⟨⟨fo, fc, rfl, r3⟩, rfl⟩
  have R3 := Lib.hid r3
  clear r3 g1
  go_wp2_with fail
  refine (g2.out _ _ O2.out).mono ?_
  rintro e w4 ⟨⟨eo, ec, rfl, r4⟩, rfl⟩
  have R4 := Lib.hid r4
  clear r4 g2 O2
  go_wp2
  exact bodyPost_ret (v := .tuple #[.slice fo F.length fc, .slice eo T.length ec, .int .i64 0]) (by simp [results, Tryz.results109, go_sem]) rfl ⟨_, _, rfl, R3.out, R4.out, B2.out⟩
end Go.Proofs.YtmiepnnpccpicaaGreat.Homes

namespace Go.Proofs.YtmiepnnpccpicaaGreat.Views
open Go.RowKit Go.WideShapes Stamp Go.Proofs.YtmiepnnpccpicaaGreat.Place Ops Codes Bags Marks Homes Covers
attribute [local go_sem ↓] Go.wp_at_zero Go.wp_at_succ
theorem gone_snoc (l : List Opn) (x : Opn) (a : Id) : goneM (l ++ [x]) a = (goneM l a || (decide (x.k = 3) && decide (tgt x = a))) := by
  unfold goneM
  rw [List.any_append]
  simp
set_option maxRecDepth 100000 in
set_option maxHeartbeats 4000000 in
theorem takenAway_any {v : Value} {l : List Opn} {w : World} (hv : OpL w v l) (hm : ∀ o ∈ l, mayO o = true) (hl : l.length ≤ 1024) :
    Calls Tryz.prog 44 #[v] w fun e w' => e = .returned (.map (some w.heap.size)) ∧ SetI w' w.heap.size l.length (goneM l) ∧ Below w.heap.size w w' := by
  obtain ⟨ao, cap, rfl⟩ := hv.shape
  obtain ⟨n, hn⟩ : ∃ n, n = l.length := ⟨_, rfl⟩
  have HV : Hid (∀ W : World, Below w.heap.size w W → OpL W (.slice ao l.length cap) l) := fun W h => hv.keeps h
  have HN := Lib.hid hn
  have HMY := Lib.hid hm
  rw [← hn] at hl ⊢
  have hmm := @run_makeMap Tryz.prog
  have S0 : Hid (SetI (w.alloc (.map #[] 0)) w.heap.size 0 (goneM (l.take 0))) := (SetI.made w).ext (fun a => by rw [List.take_zero]; rfl)
  have B0 := Lib.hid ((Below.refl w.heap.size w).alloc (Nat.le_refl _) (.map #[] 0))
  clear hv hn hm
  go_enter Tryz.func44, Tryz.ntmps44
  go_wp2
  go_loopw [9] (fun i wr => ∃ j : Nat, j ≤ n ∧ i = .int .i64 (j : Int) ∧ Hid (SetI wr w.heap.size j (goneM (l.take j))) ∧ Hid (Below w.heap.size w wr)) (fun i _ => n - (intOf i).toNat)
  case atStart => exact ⟨0, by omega, rfl, S0, B0⟩
  case round =>
    clear S0 B0
    obtain ⟨j, hj, rfl, hset, hbel⟩ := hrel
    by_cases hjn : j < n
    rotate_left
    · have q3 : decide (j < n) = false := by simpa using hjn
      have hkk : l.take j = l := List.take_of_length_le (by have := HN.out; omega)
      rw [hkk] at hset
      obtain rfl : j = n := by omega
      clear hkk
      go_wp2
      go_ret
      exact ⟨rfl, hset.out, hbel.out⟩
    have q3 : decide (j < n) = true := by simpa using hjn
    have q4 : (0 : Int) ≤ (j : Int) := by omega
    have q5 : (j : Int) < (n : Int) := by omega
    have hjl : j < l.length := by rw [← HN.out]; exact hjn
    obtain ⟨bb, oo, u, e, hbb, hru, h0, h1, h2, h3, h4⟩ := opl_at (HV.out wr hbel.out) j hjl
    subst e
    obtain ⟨x, hx⟩ : ∃ x, x = l[j]'hjl := ⟨_, rfl⟩
    rw [← hx] at hru h0 h1 h2 h4
    have hxm : x ∈ l := by rw [hx]; exact List.getElem_mem _
    have MX := HMY.out x hxm
    have hsn : ∀ a, goneM (l.take (j + 1)) a = (goneM (l.take j) a || (decide (x.k = 3) && decide (tgt x = a))) := fun a => by rw [List.take_succ_eq_append_getElem hjl, gone_snoc, hx]
    have HSN := Lib.hid hsn
    have hc := tgt_cells MX
    have LS : Hid (∀ W : World, Below wr.heap.size wr W → Calls Tryz.prog 73 #[u] W fun e w' => e = .returned (.agg #[.int .u32 ((tgt x).t : Int), .int .u8 ((tgt x).r : Int)]) ∧ Below W.heap.size W w') := fun W h => by
      rw [hc.1, hc.2]
      exact pLast_any (hru.keeps h)
    obtain ⟨g, hg⟩ : ∃ g, tgt x = g := ⟨_, rfl⟩
    rw [hg] at LS HSN
    obtain ⟨T, R, hT, hR⟩ := g
    simp only at LS
    obtain ⟨uo, uc, rfl⟩ := hru.shape
    obtain ⟨nu, hnu⟩ : ∃ n, n = x.pl.length := ⟨_, rfl⟩
    rw [← hnu] at h3 LS
    obtain ⟨k, hk⟩ : ∃ z, x.k = z := ⟨_, rfl⟩
    obtain ⟨t, ht⟩ : ∃ z, x.t = z := ⟨_, rfl⟩
    obtain ⟨r, hr⟩ : ∃ z, x.r = z := ⟨_, rfl⟩
    obtain ⟨p, hp⟩ : ∃ z, x.p = z := ⟨_, rfl⟩
    rw [hk] at h0 HSN
    rw [ht] at h1
    rw [hr] at h2
    rw [hp] at h4
    have BL : Hid (Below wr.heap.size wr (wr.alloc (.cells #[.int .u8 (k : Int), .int .u32 (t : Int), .int .u8 (r : Int), .slice uo nu uc, .int .i64 p] 47))) := (Below.refl _ _).alloc (Nat.le_refl _) _
    have SL := Lib.hid (hset.out.keeps BL.out)
    have BW := Lib.hid (bt hbel.out BL.out)
    clear hru hx hxm MX hc hg hnu hk ht hr hp hsn hset
    by_cases hk3 : k = 3
    rotate_left
    · have qk : ((k : Int) == 3) = false := by simp; omega
      have qk2 : decide ((k : Int) = 3) = false := decide_eq_false (by omega)
      have S6 : Hid (SetI (wr.alloc (.cells #[.int .u8 (k : Int), .int .u32 (t : Int), .int .u8 (r : Int), .slice uo nu uc, .int .i64 p] 47)) w.heap.size (j + 1) (goneM (l.take (j + 1)))) := by
        obtain ⟨D, d1, d2⟩ := SL.out
        exact ⟨D, d1.mono (Nat.le_succ _), fun a => by rw [d2 a, HSN.out a, decide_eq_false hk3]; simp⟩
      clear SL LS hk3 HSN
      go_wp2
      go_roundw
      case rel => exact ⟨j + 1, by omega, by go_num, S6, BW⟩
      case measure => simp [intOf]; omega
    · subst hk3
      have qk : ((((3 : Nat) : Int)) == 3) = true := by rfl
      go_wp2_with fail
      refine (LS.out _ BL.out).mono ?_
      rintro e w2 ⟨rfl, b2⟩
      have S2 := Lib.hid (SL.out.keeps b2)
      have B2 := Lib.hid (bt BW.out b2)
      clear b2 SL BW
      go_wp2_with (at_mapUpdate; refine wpList_put_set _ rfl _ _ _ 79 81 rfl Tryz.underlying79 w.heap.size j ⟨T, R, hT, hR⟩ (goneM (l.take j)) S2.out (by omega) rfl rfl rfl ?_)
      intro w3 s3 g3
      have S3 : Hid (SetI w3 w.heap.size (j + 1) (goneM (l.take (j + 1)))) := s3.ext (fun a => by
        rw [HSN.out a, Bool.or_comm]
        simp [eq_comm])
      have B3 : Hid (Below w.heap.size w w3) := B2.out.grown g3 B2.out.size (fun i e => by cases e; exact Nat.le_refl _)
      clear s3 g3 S2 B2 LS BL
      go_wp2
      go_roundw
      case rel => exact ⟨j + 1, by omega, by go_num, S3, B3⟩
      case measure => simp [intOf]; omega
/-- Of some operations the inserts that none of C takes away, as they come. -/
def pickE (C l : List Opn) : List Opn := l.filter (fun o => decide (o.k = 1) && !goneM C (idO o))
theorem pickE_yes {C l : List Opn} {x : Opn} (hk : x.k = 1) (he : goneM C (idO x) = false) : pickE C (l ++ [x]) = pickE C l ++ [x] := by
  unfold pickE
  rw [List.filter_append, List.filter_cons_of_pos (by simp [hk, he])]
  rfl
theorem pickE_no {C l : List Opn} {x : Opn} (h : ¬ (x.k = 1 ∧ goneM C (idO x) = false)) : pickE C (l ++ [x]) = pickE C l := by
  unfold pickE
  rw [List.filter_append, List.filter_cons_of_neg (by simpa using h)]
  simp
theorem mem_pickE {C l : List Opn} {y : Opn} : y ∈ pickE C l ↔ y ∈ l ∧ y.k = 1 ∧ goneM C (idO y) = false := by
  unfold pickE
  simp
theorem pickE_is {l m : List Opn} (hm : ∀ o ∈ l, mayO o = true) (hl : l.Pairwise lessO) (hp : m.Perm (pickE l l)) (hs : m.Pairwise (fun a b => ¬ cmp b.pl a.pl < 0)) : seenM l = m := by
  have hmem : ∀ y, y ∈ m ↔ y ∈ l ∧ y.k = 1 ∧ goneM l (idO y) = false := fun y => by rw [hp.mem_iff, mem_pickE]
  refine seen_ext hm hl ?_ hmem
  have hd : m.Pairwise (fun a b => idO a ≠ idO b) := by
    refine (hp.pairwise_iff (fun {a b} h => Ne.symm h)).2 ?_
    unfold pickE
    exact (hl.imp (fun h => lessO_ne h)).filter _
  refine List.Pairwise.imp_of_mem ?_ (hs.and hd)
  intro a b ha hb h
  have h1 := (hmem a).1 ha
  have h2 := (hmem b).1 hb
  rcases ins_ne (hm a h1.1) (hm b h2.1) h1.2.1 h2.2.1 h.2 with h3 | h3
  · exact h3
  · exact absurd h3 h.1
/-- Elements in a row of the call's own (from B on), their places from A on. -/
def TwE (w : World) (B A : Nat) (v : Value) (l : List Opn) : Prop := ∃ cs, w.ownsRow B 53 4 v l.length cs ∧ HoldE w A cs l
theorem TwE.nil (w : World) (B A : Nat) : TwE w B A (.slice none 0 0) [] := ⟨[], World.ownsRow_nil _ _ _ _, rfl⟩
theorem TwE.keeps {w w' : World} {B A : Nat} {v : Value} {l : List Opn} (h : TwE w B A v l) (hb : Below w.heap.size w w') : TwE w' B A v l := by
  obtain ⟨cs, h1, h2⟩ := h
  exact ⟨cs, own_stays h1 hb, h2.keeps hb⟩
theorem TwE.own {w : World} {B A : Nat} {v : Value} {l : List Opn} (h : TwE w B A v l) (hb : A ≤ B) : OwnE w A v l := by
  obtain ⟨cs, h1, h2⟩ := h
  exact ⟨cs, op_base h1 hb, h2⟩
theorem TwE.snoc {W W8 w5 : World} {B A m : Nat} {v v5 u : Value} {cs : List Value} {l : List Opn} {o : Opn} (h1 : W.ownsRow B 53 4 v l.length cs) (h2 : HoldE W A cs l) (hb : Below W.heap.size W W8)
    (hu : W8.ownsRow A 40 3 u o.pl.length (runs o.pl)) (g5 : W8.grownBy w5 v.ownBlock) (o5 : w5.ownsRow B 53 4 v5 m (cs ++ [.int .u32 (o.t : Int), .int .u8 (o.r : Int), u, .int .i64 o.p])) (hm : m = l.length + 1) : TwE w5 B A v5 (l ++ [o]) := by
  have hx := own_stays h1 hb
  refine ⟨_, by rw [List.length_append, List.length_singleton, ← hm]; exact o5, ?_⟩
  refine HoldE.append (HoldE.grown g5 hx (h2.keeps hb)) ?_
  exact HoldE.grown g5 hx ⟨u, [], rfl, hu, rfl⟩
end Go.Proofs.YtmiepnnpccpicaaGreat.Views

namespace Go.Proofs.YtmiepnnpccpicaaGreat.Views
open Go.RowKit Go.WideShapes Go.Sort Stamp Go.Proofs.YtmiepnnpccpicaaGreat.Place Ops Codes Bags Marks
def encV {w : World} {base : Nat} (x : Elt w base) : List Value := [.int .u32 (x.1.1.t : Int), .int .u8 (x.1.1.r : Int), x.1.2, .int .i64 x.1.1.p]
theorem encV_len {w : World} {base : Nat} (x : Elt w base) : (encV x).length = 4 := rfl
theorem eltsV_of {w : World} {base : Nat} : ∀ {cs : List Value} {l : List Opn}, HoldE w base cs l → (∀ o ∈ l, anyB o.pl = true) → ∃ ds : List (Elt w base), cs = ds.flatMap encV ∧ l = ds.map opE'
  | _, [], h, _ => ⟨[], h, rfl⟩
  | _, o :: l, ⟨v, d, h1, h2, h3⟩, hm => by
    obtain ⟨ds, e1, e2⟩ := eltsV_of h3 (fun o ho => hm o (by simp [ho]))
    have ho := hm o (by simp)
    obtain ⟨z, hz⟩ : ∃ z : Elt w base, z.1 = (o, v) := ⟨⟨(o, v), ho, h2⟩, rfl⟩
    refine ⟨z :: ds, ?_, ?_⟩
    · rw [h1, e1, List.flatMap_cons]; unfold encV; rw [hz]
    · rw [List.map_cons, ← e2]; unfold opE'; rw [hz]
theorem holdE_of {w w' : World} {base : Nat} (hk : ∀ x : Elt w base, w'.ownsRow base 40 3 x.1.2 x.1.1.pl.length (runs x.1.1.pl)) : ∀ ds : List (Elt w base), HoldE w' base (ds.flatMap encV) (ds.map opE')
  | [] => rfl
  | x :: ds => ⟨x.1.2, ds.flatMap encV, by rw [List.flatMap_cons]; rfl, hk x, holdE_of hk ds⟩
/-- Places stay while the elements are moved about. -/
theorem eltV_stays {w : World} {base g : Nat} {cur : Array Value} (hg : w.heap[g]? = some (.cells cur 53 (0, 0))) (m : Nat) (d : Array (Elt w base)) (os : Array Obj) (x : Elt w base) :
    (sortWorldK encV 4 w g 0 m d os).ownsRow base 40 3 x.1.2 x.1.1.pl.length (runs x.1.1.pl) := by
  obtain ⟨x, _, h⟩ := x
  refine ⟨h.1, ?_⟩
  rcases h.2 with h | ⟨b, cap, c, e1, e2, e3, e4⟩
  · exact .inl h
  · refine .inr ⟨b, cap, c, e1, e2, ?_, e4⟩
    rw [srt_other encV 4 w g 0 m d os ?_ (Array.getElem?_eq_some_iff.1 e3).1]
    · exact e3
    · rintro rfl
      rw [hg] at e3
      injection e3 with e3
      injection e3 with _ e3 _
      exact absurd e3 (by decide)
theorem eltV_holds {w : World} {base g cap n : Nat} {ds : List (Elt w base)} (hg : ∃ cur, w.heap[g]? = some (.cells cur 53 (0, 0)) ∧ cur.size = cap * 4 ∧ cur.toList.take (n * 4) = ds.flatMap encV) (hn : n = ds.length) (hc : n ≤ cap) : HoldsK encV 4 w g 0 ds.toArray := by
  obtain ⟨cur, h1, h2, h3⟩ := hg
  intro j hj
  rw [size_flatK] at hj
  have hj' : j < ds.length * 4 := by simpa using hj
  have hjc : j < cur.size := by rw [h2]; have := Nat.mul_le_mul_right 4 hc; omega
  have e : cur[j]? = (flatK encV 4 ds.toArray)[j]? := by
    rw [← Array.getElem?_toList, ← Array.getElem?_toList, flatK_list encV 4 (by decide) encV_len, ← h3, List.getElem?_take, if_pos (by omega)]
  have hf : j < (flatK encV 4 ds.toArray).size := by rw [size_flatK]; exact hj
  rw [Nat.zero_add]
  constructor
  · have e2 : w.cell? ⟨g, j, none⟩ = cur[j]? := by simp [World.cell?, h1]
    rw [e2, e, Array.getElem?_eq_getElem hf, getElem!_pos _ j hf]
    rfl
  · simp [World.frozen?, h1]
end Go.Proofs.YtmiepnnpccpicaaGreat.Views

namespace Go.Proofs.YtmiepnnpccpicaaGreat.Views
open Go.RowKit Go.WideShapes Stamp Go.Proofs.YtmiepnnpccpicaaGreat.Place Ops Codes Bags Marks
attribute [local go_sem ↓] Go.wp_at_zero Go.wp_at_succ
set_option maxRecDepth 100000 in
set_option maxHeartbeats 4000000 in
theorem clsV_any {u v : Value} {x y : Opn} {w : World} (hu : Runs w u x.pl) (hv : Runs w v y.pl) :
    Calls Tryz.prog 46 #[elv x u, elv y v] w fun e w' => e = .returned (.int .i64 (cmp x.pl y.pl)) ∧ Below w.heap.size w w' := by
  have PC : Hid (∀ W : World, Below w.heap.size w W → Calls Tryz.prog 16 #[u, v] W fun e w' => e = .returned (.int .i64 (cmp x.pl y.pl)) ∧ Below W.heap.size W w') := fun W h => pCompare_any (hu.keeps h) (hv.keeps h)
  have B0 : Hid (Below w.heap.size w ((w.alloc (.cells #[.int .u32 (x.t : Int), .int .u8 (x.r : Int), u, .int .i64 x.p] 53)).alloc (.cells #[.int .u32 (y.t : Int), .int .u8 (y.r : Int), v, .int .i64 y.p] 53))) := ((Below.refl _ _).alloc (Nat.le_refl _) _).alloc (by simp) _
  obtain ⟨q, hq⟩ : ∃ q, cmp x.pl y.pl = q := ⟨_, rfl⟩
  rw [hq] at PC ⊢
  obtain ⟨uo, uc, rfl⟩ := hu.shape
  obtain ⟨vo, vc, rfl⟩ := hv.shape
  obtain ⟨nu, hnu⟩ : ∃ n, x.pl.length = n := ⟨_, rfl⟩
  obtain ⟨nv, hnv⟩ : ∃ n, y.pl.length = n := ⟨_, rfl⟩
  rw [hnu] at PC B0 ⊢
  rw [hnv] at PC B0 ⊢
  clear hq hu hv hnu hnv
  obtain ⟨k1, t1, r1, l1, p1, hk1, ht1, hr1, hp1⟩ := x
  obtain ⟨k2, t2, r2, l2, p2, hk2, ht2, hr2, hp2⟩ := y
  unfold elv
  simp only at B0 ⊢
  clear hk1 ht1 hr1 hp1 hk2 ht2 hr2 hp2
  go_enter Tryz.func46, Tryz.ntmps46
  go_wp2_with fail
  refine (PC.out _ B0.out).mono ?_
  rintro e w1 ⟨rfl, b1⟩
  have B1 := Lib.hid (bt B0.out b1)
  clear b1 PC B0
  go_wp2
  go_ret
  exact ⟨rfl, B1.out⟩
end Go.Proofs.YtmiepnnpccpicaaGreat.Views

namespace Go.Proofs.YtmiepnnpccpicaaGreat.Views
open Go.Shelf Go.Proofs
def sortEl_ren : Go.Shelf.Ren := ⟨fun | 6 => 45 | 15 => 87 | 14 => 86 | 28 => 122 | 29 => 123 | 20 => 114 | 21 => 115 | 22 => 116 | 23 => 117 | 24 => 118 | 25 => 119 | 26 => 120 | 27 => 121 | 46 => 134 | 47 => 135 | 48 => 136 | 49 => 137 | 50 => 138 | 57 => 148 | n => n, fun | 22 => 48 | 24 => 53 | 25 => 84 | 3 => 3 | 39 => 120 | 0 => 0 | 53 => 23 | 55 => 149 | 4 => 4 | 46 => 142 | 45 => 141 | 50 => 74 | 5 => 5 | 9 => 9 | 66 => 156 | 70 => 160 | 76 => 169 | 77 => 170 | n => n, fun | n => n⟩
theorem sortEl : Go.Proofs.SlLaysF0.n6 Tryz.prog sortEl_ren where
  mixed := by kernel_rfl
  f6 := ⟨ "slices.SortFunc[[]octavo/api.Element,octavo/api.Element]", by decide, Tryz.func45.trans (congrArg some (by kernel_rfl))⟩
  f14 := ⟨ "slices.pdqsortCmpFunc[octavo/api.Element]", by decide, Tryz.func86.trans (congrArg some (by kernel_rfl))⟩
  f15 := Tryz.func87.trans (congrArg some (by kernel_rfl))
  f20 := ⟨ "slices.insertionSortCmpFunc[octavo/api.Element]", by decide, Tryz.func114.trans (congrArg some (by kernel_rfl))⟩
  f21 := ⟨ "slices.heapSortCmpFunc[octavo/api.Element]", by decide, Tryz.func115.trans (congrArg some (by kernel_rfl))⟩
  f22 := ⟨ "slices.breakPatternsCmpFunc[octavo/api.Element]", by decide, Tryz.func116.trans (congrArg some (by kernel_rfl))⟩
  f23 := ⟨ "slices.choosePivotCmpFunc[octavo/api.Element]", by decide, Tryz.func117.trans (congrArg some (by kernel_rfl))⟩
  f24 := ⟨ "slices.reverseRangeCmpFunc[octavo/api.Element]", by decide, Tryz.func118.trans (congrArg some (by kernel_rfl))⟩
  f25 := ⟨ "slices.partialInsertionSortCmpFunc[octavo/api.Element]", by decide, Tryz.func119.trans (congrArg some (by kernel_rfl))⟩
  f26 := ⟨ "slices.partitionEqualCmpFunc[octavo/api.Element]", by decide, Tryz.func120.trans (congrArg some (by kernel_rfl))⟩
  f27 := ⟨ "slices.partitionCmpFunc[octavo/api.Element]", by decide, Tryz.func121.trans (congrArg some (by kernel_rfl))⟩
  f28 := Tryz.func122.trans (congrArg some (by kernel_rfl))
  f29 := Tryz.func123.trans (congrArg some (by kernel_rfl))
  f46 := ⟨ "slices.siftDownCmpFunc[octavo/api.Element]", by decide, Tryz.func134.trans (congrArg some (by kernel_rfl))⟩
  f47 := Tryz.func135.trans (congrArg some (by kernel_rfl))
  f48 := Tryz.func136.trans (congrArg some (by kernel_rfl))
  f49 := ⟨ "slices.medianAdjacentCmpFunc[octavo/api.Element]", by decide, Tryz.func137.trans (congrArg some (by kernel_rfl))⟩
  f50 := ⟨ "slices.medianCmpFunc[octavo/api.Element]", by decide, Tryz.func138.trans (congrArg some (by kernel_rfl))⟩
  f57 := ⟨ "slices.order2CmpFunc[octavo/api.Element]", by decide, Tryz.func148.trans (congrArg some (by kernel_rfl))⟩
  t0 := Tryz.underlying0
  a0 := Tryz.isAgg0
  z0 := Tryz.sizeOf0
  v0 := Tryz.zeroValue0
  t3 := Tryz.underlying3
  a3 := Tryz.isAgg3
  z3 := Tryz.sizeOf3
  v3 := Tryz.zeroValue3
  t4 := Tryz.underlying4
  a4 := Tryz.isAgg4
  z4 := Tryz.sizeOf4
  v4 := Tryz.zeroValue4
  t5 := Tryz.underlying5
  a5 := Tryz.isAgg5
  z5 := Tryz.sizeOf5
  v5 := Tryz.zeroValue5
  t9 := Tryz.underlying9
  a9 := Tryz.isAgg9
  z9 := Tryz.sizeOf9
  v9 := Tryz.zeroValue9
  t22 := Tryz.underlying48
  a22 := Tryz.isAgg48
  z22 := Tryz.sizeOf48
  v22 := Tryz.zeroValue48
  t25 := Tryz.underlying84
  a25 := Tryz.isAgg84
  z25 := Tryz.sizeOf84
  v25 := Tryz.zeroValue84
  t39 := Tryz.underlying120
  a39 := Tryz.isAgg120
  z39 := Tryz.sizeOf120
  v39 := Tryz.zeroValue120
  t45 := Tryz.underlying141
  a45 := Tryz.isAgg141
  z45 := Tryz.sizeOf141
  v45 := Tryz.zeroValue141
  t46 := Tryz.underlying142
  a46 := Tryz.isAgg142
  z46 := Tryz.sizeOf142
  v46 := Tryz.zeroValue142
  t50 := Tryz.underlying74
  a50 := Tryz.isAgg74
  z50 := Tryz.sizeOf74
  v50 := Tryz.zeroValue74
  t53 := Tryz.underlying23
  a53 := Tryz.isAgg23
  z53 := Tryz.sizeOf23
  v53 := Tryz.zeroValue23
  t55 := Tryz.underlying149
  a55 := Tryz.isAgg149
  z55 := Tryz.sizeOf149
  v55 := Tryz.zeroValue149
  t66 := Tryz.underlying156
  a66 := Tryz.isAgg156
  z66 := Tryz.sizeOf156
  v66 := Tryz.zeroValue156
  t70 := Tryz.underlying160
  a70 := Tryz.isAgg160
  z70 := Tryz.sizeOf160
  v70 := Tryz.zeroValue160
  t76 := Tryz.underlying169
  a76 := Tryz.isAgg169
  z76 := Tryz.sizeOf169
  v76 := Tryz.zeroValue169
  t77 := Tryz.underlying170
  a77 := Tryz.isAgg170
  z77 := Tryz.sizeOf170
  v77 := Tryz.zeroValue170
end Go.Proofs.YtmiepnnpccpicaaGreat.Views

namespace Go.Proofs.YtmiepnnpccpicaaGreat.Views
open Go.RowKit Go.WideShapes Go.Sort Stamp Go.Proofs.YtmiepnnpccpicaaGreat.Place Ops Codes Bags Marks
theorem four_one (o : Opn) (u : Value) (hu : ∃ ao n cap, u = .slice ao n cap) : ∀ x ∈ [Value.int .u32 (o.t : Int), .int .u8 (o.r : Int), u, .int .i64 o.p], x.oneCell' = true := by
  obtain ⟨ao, n, cap, rfl⟩ := hu
  intro x hx
  simp only [List.mem_cons, List.not_mem_nil, or_false] at hx
  rcases hx with rfl | rfl | rfl | rfl <;> rfl
theorem sortE_any {v : Value} {l : List Opn} {base : Nat} {w : World} (hv : OwnE w base v l) (hm : ∀ o ∈ l, anyB o.pl = true) (hl : l.length < 4611686018427387904) :
    Calls Tryz.prog 45 #[v, .func (.func 46) #[] #[]] w fun e w' => e = .returned (.tuple #[]) ∧ ∃ l', l'.Perm l ∧ l'.Pairwise (fun a b => ¬ cmp b.pl a.pl < 0) ∧ OwnE w' base v l' ∧ Below base w w' := by
  obtain ⟨cs, h1, h2⟩ := hv
  by_cases hz : l = []
  · subst hz
    obtain ⟨ao, cap, rfl⟩ : ∃ ao cap, v = .slice ao 0 cap := Sees.shape (Sees.own h1)
    refine (AnyF.slices_SortFunc_none sortEl ao cap (.func (.func 46) #[] #[]) w).mono ?_
    rintro e w' ⟨rfl, rfl⟩
    exact ⟨rfl, [], .refl _, .nil, ⟨cs, h1, h2⟩, Below.refl _ _⟩
  rcases h1.2 with ⟨rfl, h⟩ | ⟨g, cap, cur, rfl, hbg, hg, hlc, hcm, hcs, hct⟩
  · exact absurd (List.length_eq_zero_iff.1 h) hz
  obtain ⟨ds, e1, e2⟩ := eltsV_of h2 hm
  have hn : l.length = ds.length := by rw [e2, List.length_map]
  have hgs := (Array.getElem?_eq_some_iff.1 hg).1
  have eg : ∀ args w, (callFunc 46 args).run Tryz.prog w = .ok (.enter 46 args) w := enters_of Tryz.func46 (by kernel_rfl) rfl
  have hcmp : CmpLays Tryz.prog 46 #[] (encV (w := w) (base := base)) 4 cfE g 0 ds.toArray.size w := fun m os dk _ x y =>
    Draws.calls_grow (clsV_any (Runs.own (eltV_stays hg m dk os x)) (Runs.own (eltV_stays hg m dk os y)))
  have hH : HoldsK encV 4 w g 0 ds.toArray := eltV_holds ⟨cur, hg, hcs, by rw [hct, e1]⟩ hn hlc
  have hcon := AnyQ.slices_SortFunc sortEl 4 Tryz.isAgg53 Tryz.sizeOf53 encV encV_len (fun x => by
      obtain ⟨ao, c, h⟩ := Sees.shape (Sees.own x.2.2)
      exact four_one x.1.1 x.1.2 ⟨ao, _, c, h⟩) cfE (swoE w base) 46 #[] g 0 cap ds.toArray w eg hcmp hH hgs (by simpa [← hn] using hl)
  change Calls Tryz.prog 45 _ _ _ at hcon
  rw [show ds.toArray.size = l.length by rw [hn]; simp] at hcon
  refine hcon.mono ?_
  rintro e w' ⟨rfl, d', n, os, hp, hs, rfl⟩
  obtain ⟨hp1, _, hp3⟩ := hp
  have hdn : d'.size = l.length := by rw [hp1, hn]; simp
  refine ⟨rfl, d'.toList.map opE', ?_, ?_, ⟨d'.toList.flatMap encV, ⟨?_, .inr ⟨g, cap, putCells id 0 (flatK encV 4 d') cur, ?_, hbg, srt_row encV 4 n d' os hg, ?_, hcm, ?_, ?_⟩⟩, holdE_of (eltV_stays hg n d' os) _⟩, srt_below encV 4 w g 0 n base d' os hbg hgs⟩
  · rw [e2]
    refine List.Perm.map _ ?_
    have : (d'.extract 0 l.length).toList.Perm (ds.toArray.extract 0 l.length).toList := hp3
    rw [Array.extract_eq_self_of_le (by omega), Array.extract_eq_self_of_le (by simp [hn])] at this
    simpa using this
  · rw [List.pairwise_map, List.pairwise_iff_getElem]
    intro i j hi hj hij
    have := hs i j (Nat.zero_le _) hij (by rw [← hdn]; simpa using hj)
    rw [getElem!_pos d' j (by simpa using hj), getElem!_pos d' i (by simpa using hi)] at this
    unfold ltOf cfE at this
    have h := of_decide_eq_false this
    simpa [opE'] using h
  · rw [← flatK_list encV 4 (by decide) encV_len]
    simp
  · simp [hdn]
  · simpa [hdn] using hlc
  · rw [putCells_size]; exact hcs
  · have h3 : (flatK encV 4 d').size = l.length * 4 := by rw [size_flatK, hdn]
    rw [List.length_map, Array.length_toList, hdn, ← h3, putCells_take _ _ (by rw [h3, hcs]; exact Nat.mul_le_mul_right 4 hlc), flatK_list encV 4 (by decide) encV_len]
end Go.Proofs.YtmiepnnpccpicaaGreat.Views

namespace Go.Proofs.YtmiepnnpccpicaaGreat.Covers
open Ops Stamp Bags Marks Homes Go.Proofs.YtmiepnnpccpicaaGreat.Place
/-- Does a span hold a place? -/
def homB (F T p : List Run) : Bool := decide (cmp F p ≤ 0) && (decide (T.length = 0) || decide (cmp p T < 0))
theorem begin_any {live : List Opn} (h : Liv live) (a : Int) : anyB (beginM live a) = true := by
  unfold beginM
  split
  · rename_i hx
    have hj : (a - 1).toNat < live.length := by omega
    rw [List.getD_eq_getElem?_getD, List.getElem?_eq_getElem hj]
    exact anyB_may (mayO_parts (h.may _ (List.getElem_mem hj)).1).2.1
  · rfl
theorem from_any {l : List Opn} {s : Id} (hE : spanE l s = 0) : anyB (fromL l s) = true := by
  obtain ⟨hb, hs⟩ := spanE_zero.1 hE
  unfold fromL
  rw [if_pos ⟨(bagB_iff l).2 hb, hs⟩]
  exact begin_any (liv_bag hb) _
theorem homB_is {l : List Opn} {s : Id} (hE : spanE l s = 0) {p : List Run} (hp : anyB p = true) : homB (fromL l s) (toL l s) p = decide (homeM (livesM l l) p = s) := by
  obtain ⟨hb, hs⟩ := spanE_zero.1 hE
  have hw : whereN (livesM l l) s < (livesM l l).length + 1 := by
    unfold whereM at hs
    split at hs
    · assumption
    · omega
  have e := where_of hw
  obtain ⟨i, hi⟩ : ∃ i, whereN (livesM l l) s = i := ⟨_, rfl⟩
  rw [hi] at hw e
  subst e
  obtain ⟨e1, e2, _⟩ := span_at hb hw
  rw [e1, e2]
  unfold homB
  rw [span_home (liv_bag hb) hp hw, decide_eq_decide, eq_comm (a := homeM _ _), home_at (liv_bag hb) hw]
theorem cut_ahead {p : List Run} (h : mayB p = true) {j k : Nat} (hj : j ≤ k) : Go.Proofs.YtmiepnnpccpicaaGreat.Place.hold (all (cutN p j)) (all (cutN p k)) = 0 ∨ Go.Proofs.YtmiepnnpccpicaaGreat.Place.hold (all (cutN p j)) (all (cutN p k)) = -1 := by
  have hc := ((mayB_iff p).1 h).2.2.1
  rw [all_cutN hc, all_cutN hc]
  have e : (all p).take k = (all p).take j ++ ((all p).take k).drop j := by
    have := List.take_append_drop j ((all p).take k)
    rw [List.take_take, Nat.min_eq_left hj] at this
    exact this.symm
  rw [e]
  cases ((all p).take k).drop j with
  | nil => left; rw [List.append_nil]; exact (hold_eq _ _).2 rfl
  | cons a m => right; exact hold_front _ a m
theorem cmp_any {p q : List Run} (hp : anyB p = true) (hq : anyB q = true) : cmp p q = Go.Proofs.YtmiepnnpccpicaaGreat.Place.hold (all p) (all q) := by
  unfold cmp; rw [if_pos ⟨hp, hq⟩]
theorem cmp_back {F p : List Run} (hF : anyB F = true) (h : mayB p = true) {j k : Nat} (hj : j ≤ k) (hk : cmp (cutN p k) F < 0) : cmp F (cutN p j) > 0 := by
  rw [cmp_any (any_cutN h) hF] at hk
  rw [cmp_any hF (any_cutN h)]
  have h1 := hold_range (all (cutN p k)) (all F)
  have h2 := hold_neg (all (cutN p j)) (all F)
  have h3 : Go.Proofs.YtmiepnnpccpicaaGreat.Place.hold (all (cutN p j)) (all F) = -1 := by
    rcases cut_ahead h hj with e | e
    · rw [(hold_eq _ _).1 e]; omega
    · exact hold_trans _ _ _ e (by omega)
  omega
/-- From a stamp on, all that is homed in the section is there. -/
def okN (l : List Opn) (s : Id) (o : Opn) (k : Nat) : Prop := ∀ j, k ≤ j → j < (all o.pl).length → homeM (livesM l l) (cutN o.pl (j + 1)) = s → hasO l ((all o.pl).getD j zid) = true
theorem ok_end (l : List Opn) (s : Id) (o : Opn) : okN l s o (all o.pl).length := fun j h1 h2 => by omega
theorem ok_zero {l : List Opn} {s : Id} {o : Opn} (h : okN l s o 0) : isB l (livesM l l) s o = true :=
  isB_iff.2 fun k hk e => h k (by omega) (by have := manyN_le o; omega) e
theorem ok_break {l : List Opn} {s : Id} {o : Opn} {k : Nat} (hE : spanE l s = 0) (ho : o ∈ l) (h : okN l s o k) (hk : cmp (cutN o.pl k) (fromL l s) < 0) : isB l (livesM l l) s o = true := by
  have hm := (mayO_parts ((spanE_zero.1 hE).1.2.1 o ho)).2.1
  refine isB_iff.2 fun j hj e => ?_
  by_cases hjk : k ≤ j
  · exact h j hjk (by have := manyN_le o; omega) e
  · exfalso
    have h1 := cmp_back (from_any hE) hm (show j + 1 ≤ k by omega) hk
    have h2 := homB_is hE (any_cutN (k := j + 1) hm)
    rw [decide_eq_true e] at h2
    unfold homB at h2
    rw [decide_eq_false (by omega)] at h2
    simp at h2
theorem ok_step {l : List Opn} {s : Id} {o : Opn} {k : Nat} (h : okN l s o (k + 1)) (hh : hasO l ((all o.pl).getD k zid) = true) : okN l s o k := fun j h1 h2 e => by
  by_cases hjk : j = k
  · subst hjk; exact hh
  · exact h j (by omega) h2 e
theorem own_last {o : Opn} (h : mayO o = true) (hk : ownB o = true) : (all o.pl).getD ((all o.pl).length - 1) zid = idO o := by
  have h3 := (mayO_parts h).2.2
  have hl := lastV_all (mayO_parts h).2.1
  unfold kindB kindF at h3
  unfold ownB at hk
  rw [hl] at h3
  have : o.k = 1 ∨ o.k = 2 := by simpa using hk
  have h4 : (((((all o.pl).getD ((all o.pl).length - 1) zid).t : Int), (((all o.pl).getD ((all o.pl).length - 1) zid).r : Int)) : Int × Int) = ((o.t : Int), (o.r : Int)) := by
    rcases this with e | e
    · rw [e] at h3; simp at h3; simpa using h3.1
    · rw [e] at h3; simp at h3; simpa using h3.1
  obtain ⟨h5, h6⟩ := Prod.mk.inj h4
  exact Id.ext' (by show _ = o.t; omega) (by show _ = o.r; omega)
theorem ok_no {l : List Opn} {s : Id} {o : Opn} {k : Nat} (hE : spanE l s = 0) (ho : o ∈ l) (hB : homB (fromL l s) (toL l s) o.pl = true) (hk : k < (all o.pl).length)
    (h1 : ¬ cmp (cutN o.pl (k + 1)) (fromL l s) < 0) (h2 : hasO l ((all o.pl).getD k zid) = false) : isB l (livesM l l) s o = false := by
  have hO := (spanE_zero.1 hE).1.2.1 o ho
  have hm := (mayO_parts hO).2.1
  have hc := ((mayB_iff o.pl).1 hm).2.2.1
  have hkm : k < manyN o := by
    unfold manyN offs
    by_cases hw : ownB o = true
    · rw [if_pos hw]
      by_cases he : k = (all o.pl).length - 1
      · rw [he, own_last hO hw] at h2
        exact absurd rfl (hasO_no.1 h2 o ho)
      · omega
    · rw [if_neg hw]; omega
  have hh : homeM (livesM l l) (cutN o.pl (k + 1)) = s := by
    have e := homB_is hE (any_cutN (k := k + 1) hm)
    have hF := from_any hE
    have e2 : homB (fromL l s) (toL l s) (cutN o.pl (k + 1)) = true := by
      unfold homB at hB ⊢
      rw [Bool.and_eq_true, Bool.or_eq_true, decide_eq_true_iff, decide_eq_true_iff, decide_eq_true_iff] at hB ⊢
      refine ⟨?_, hB.2.imp id fun h => ?_⟩
      · rw [cmp_any hF (any_cutN hm)]
        rw [cmp_any (any_cutN hm) hF] at h1
        have := hold_neg (all (cutN o.pl (k + 1))) (all (fromL l s))
        omega
      · have hT : anyB (toL l s) = true := by
          obtain ⟨hb, hs⟩ := spanE_zero.1 hE
          unfold toL
          rw [if_pos ⟨(bagB_iff l).2 hb, hs⟩]
          exact begin_any (liv_bag hb) _
        rw [cmp_any (anyB_may hm) hT] at h
        rw [cmp_any (any_cutN hm) hT]
        have h3 := hold_range (all o.pl) (all (toL l s))
        have h4 := cut_ahead hm (show k + 1 ≤ (all o.pl).length by omega)
        rw [cutN_all hc] at h4
        rcases h4 with h5 | h5
        · rw [(hold_eq _ _).1 h5]; omega
        · have := hold_trans _ _ _ h5 (show Go.Proofs.YtmiepnnpccpicaaGreat.Place.hold (all o.pl) (all (toL l s)) = -1 by omega)
          omega
    rw [e2] at e
    exact of_decide_eq_true e.symm
  cases hz : isB l (livesM l l) s o
  · rfl
  · have := isB_iff.1 hz k hkm hh
    rw [this] at h2
    cases h2
/-- A place without its last stamp, by its last run. -/
def downL (p : List Run) : List Run := p.take (p.length - 1) ++ (if (p.getD (p.length - 1) zrun).m = 1 then [] else [mkRun (p.getD (p.length - 1) zrun).t (p.getD (p.length - 1) zrun).r ((p.getD (p.length - 1) zrun).m - 1)])
theorem down_is : ∀ {p : List Run}, Chain p → 0 < p.length → cutN p ((all p).length - 1) = downL p
  | [], _, h => by simp at h
  | [x], hc, _ => by
    obtain ⟨n, hn, n1, n2, n3, n4⟩ := hc.head.nat
    have e : (all [x]).length = n := by
      show (up x.t x.r x.m.toNat ++ []).length = n
      rw [List.append_nil, up_len]; omega
    rw [e]
    unfold downL cutN
    simp only [List.length_singleton, Nat.sub_self, List.take_zero, List.nil_append, List.getD_cons_zero]
    by_cases h1 : x.m = 1
    · rw [if_pos h1, if_pos (by omega)]
    · rw [if_neg h1, if_neg (by omega), if_neg (by omega)]
      congr 2
      omega
  | x :: y :: p, hc, _ => by
    obtain ⟨n, hn, n1, n2, n3, n4⟩ := hc.head.nat
    have ih := down_is hc.tail (by simp)
    obtain ⟨m, hm, m1, m2, m3, m4⟩ := hc.tail.head.nat
    have e2 : 1 ≤ (all (y :: p)).length := by
      show 1 ≤ (up y.t y.r y.m.toNat ++ all p).length
      rw [List.length_append, up_len]; omega
    have e : (all (x :: y :: p)).length = n + (all (y :: p)).length := by
      show (up x.t x.r x.m.toNat ++ all (y :: p)).length = _
      rw [List.length_append, up_len]; omega
    have e3 : cutN (x :: y :: p) ((all (x :: y :: p)).length - 1) = x :: cutN (y :: p) ((all (y :: p)).length - 1) := by
      rw [e]
      conv => lhs; unfold cutN
      rw [if_neg (by omega), if_pos (by omega)]
      congr 2
      omega
    rw [e3, ih]
    unfold downL
    simp
theorem cut_down {p : List Run} (h : mayB p = true) {k : Nat} (hk : k < (all p).length) : cutN p k = downL (cutN p (k + 1)) := by
  have hc := ((mayB_iff p).1 h).2.2.1
  have hm := may_cutN (k := k + 1) h (by omega)
  have e : (all (cutN p (k + 1))).length = k + 1 := by rw [all_cutN hc, List.length_take]; omega
  rw [← down_is (chain_cutN hc) ((mayB_iff _).1 hm).1, e, cutN_cutN hc (by omega)]
  rfl
end Go.Proofs.YtmiepnnpccpicaaGreat.Covers
