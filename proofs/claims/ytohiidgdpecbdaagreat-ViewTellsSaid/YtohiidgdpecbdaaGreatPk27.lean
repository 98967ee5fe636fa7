/- ViewTells answers true, and changes nothing that was there. Conditions: the places are not longer than memory holds. -/
import Derived.Test.YtohiidgdpecbdaaGreatChecked
import Derived.WalkKit
import Derived.WalkSpells
import Derived.WalkLawsBesides
import Derived.Laws.BytesArg
import Derived.Lib.Hide
import Derived.Deep.LoopGhost
import Derived.Laws.AppendOwnNone
import Derived.Laws.OwnMore
import Derived.WideShapes
import Derived.Maps.AppendAt
import Derived.RegionTactic
import Derived.Deep.RegionHeld3
import Derived.Deep.DrawnRows
import Derived.Deep.QuietTactic
import Derived.BigQuiet
import Derived.IntWalk
import Derived.Deep.DeepCutAuto
import Derived.ScopeJumps
import Derived.Test.YtohiidgdpecbdaaGreatProg
import Derived.LoopTactic
import Derived.Laws.EntriesVeiled
import Derived.RowKit
import Derived.Lib.DecodeN
import Derived.Lib.RuneBytes
import Derived.Maps.Own
import Derived.Maps.OwnOps
import Derived.Maps.OwnSet
import Derived.Maps.Views
import Derived.DeepKeys4
import Derived.Shelf.SlSortCmp.InsertionK
import Derived.Calls
import Derived.StepT
import Derived.Below
import Derived.Sort.Grow
import Derived.Deep.Draws
import Derived.Shelf.SlLaysF0
import Derived.Shelf.SlSortCmp.NoneTotal
import Derived.Scope
import Derived.Shelf.Abstract
import Derived.RangeFuncBox
import Derived.RangeFuncLeaves
import Derived.RangeFuncNested
import Derived.RangeFuncBound
import Derived.RangeFuncCalls
import Derived.OwnWalkIn
import Derived.TacticsInMore
import Derived.LoopNIn
import Derived.LoopIn
import Derived.Lib.Tables
import Derived.Laws.Bits64
import Derived.Test.YtohiidgdpecbdaaGreatShelf
import Derived.Lib.OthersKept
import Derived.BigCall
import Derived.Test.YtohiidgdpecbdaaGreatPk09
import Derived.Test.YtohiidgdpecbdaaGreatPk26
import Derived.Test.YtohiidgdpecbdaaGreatPk06
import Derived.Test.YtohiidgdpecbdaaGreatPk05
import Derived.Test.YtohiidgdpecbdaaGreatPk25
import Derived.Test.YtohiidgdpecbdaaGreatPk23
import Derived.Test.YtohiidgdpecbdaaGreatPk22
import Derived.Test.YtohiidgdpecbdaaGreatPk21
import Derived.Test.YtohiidgdpecbdaaGreatPk04
import Derived.Test.YtohiidgdpecbdaaGreatPk20
import Derived.Test.YtohiidgdpecbdaaGreatPk03
import Derived.Test.YtohiidgdpecbdaaGreatPk02
import Derived.Test.YtohiidgdpecbdaaGreatPk01
import Derived.Test.YtohiidgdpecbdaaGreatPk19
import Derived.Test.YtohiidgdpecbdaaGreatPk24
import Derived.Test.YtohiidgdpecbdaaGreatPk07
import Derived.Test.YtohiidgdpecbdaaGreatPk08

namespace Go.Proofs.YtohiidgdpecbdaaGreat.Views
open Go.RowKit Go.WideShapes Stamp Go.Proofs.YtohiidgdpecbdaaGreat.Place Ops Codes Bags Marks Homes Covers
attribute [local go_sem ↓] Go.wp_at_zero Go.wp_at_succ
attribute [local go_sem] yielded_undef
set_option maxRecDepth 100000 in
set_option maxHeartbeats 16000000 in
theorem tells_walk {l : List Opn} {p : List Run} {ao0 ao1 : Option Addr} {cap0 cap1 : Nat} (a : Id) (kx : Int) {w : World} (hr0 : OpL w (.slice ao0 l.length cap0) l) (hp0 : Runs w (.slice ao1 p.length cap1) p) (hz0 : ∀ o ∈ l, o.pl.length ≤ 8796093022208) :
    Calls Tryz.prog 3 #[.slice ao0 l.length cap0, .agg #[.int .u32 (a.t : Int), .int .u8 (a.r : Int)], .slice ao1 p.length cap1, .int .i64 kx] w fun e w' => e = .returned (.bool true) ∧ Below w.heap.size w w' := by
  have HV : Hid (∀ W : World, Below w.heap.size w W → OpL W (.slice ao0 l.length cap0) l) := fun W h => hr0.keeps h
  have HP : Hid (∀ W : World, Below w.heap.size w W → Runs W (.slice ao1 p.length cap1) p) := fun W h => hp0.keeps h
  have GR : Hid (∀ W : World, Below w.heap.size w W → Calls Tryz.prog 5 #[.slice ao0 l.length cap0, .int .i64 60] W fun e w' => GrtO l 60 e ∧ W = w') := fun W h => greatO_any (HV.out W h)
  have hgr : ∀ {e : Ending}, GrtO l 60 e → ∃ g, e = .returned (.bool g) ∧ Hid (g = false → l.length ≤ 60) := fun ⟨g, h1, h2⟩ => ⟨g, h1, fun h => by have := (h2 h).1; omega⟩
  have TW : Hid (l.length ≤ 60 → ∀ W : World, Below w.heap.size w W → Calls Tryz.prog 6 #[.slice ao0 l.length cap0] W fun e w' => ∃ v', e = .returned v' ∧ OwnL w' W.heap.size v' l ∧ Below W.heap.size W w') := fun hl W h => refTwinL_any (HV.out W h) (by omega) hz0
  have CE1 : Hid (∀ (W : World) (v : Value), OpL W v l → Calls Tryz.prog 7 #[v, .agg #[.int .u32 (a.t : Int), .int .u8 (a.r : Int)]] W (DoneOE (elmL l a) (spanE l a) W)) := fun W v h => vElements_any a h
  have RE1 : Hid (∀ W : World, Below w.heap.size w W → Calls Tryz.prog 8 #[.slice ao0 l.length cap0, .agg #[.int .u32 (a.t : Int), .int .u8 (a.r : Int)]] W (DoneE (elmL l a) (spanE l a) W)) := fun W h => refElements_any a (HV.out W h)
  have CT : Hid (∀ (W : World) (v : Value), OpL W v l → Calls Tryz.prog 9 #[v, .agg #[.int .u32 (a.t : Int), .int .u8 (a.r : Int)]] W fun e w' => e = .returned (.tuple #[.string (str (textL l a)), .int .i64 (spanE l a)]) ∧ Below W.heap.size W w') := fun W v h => vText_any a h
  have RT : Hid (∀ W : World, Below w.heap.size w W → Calls Tryz.prog 10 #[.slice ao0 l.length cap0, .agg #[.int .u32 (a.t : Int), .int .u8 (a.r : Int)]] W fun e w' => e = .returned (.tuple #[.string (str (textL l a)), .int .i64 (spanE l a)]) ∧ Below W.heap.size W w') := fun W h => refText15_any a (HV.out W h)
  have CO : Hid (∀ (W : World) (v : Value), OpL W v l → Below w.heap.size w W → Calls Tryz.prog 11 #[v, .agg #[.int .u32 (a.t : Int), .int .u8 (a.r : Int)], .slice ao1 p.length cap1] W fun e w' => e = .returned (.tuple #[.int .i64 ((offN l a p : Nat) : Int), .int .i64 (offE l a p)]) ∧ Below W.heap.size W w') := fun W v h h2 => vOffset_any a h (HP.out W h2)
  have RO : Hid (∀ W : World, Below w.heap.size w W → Calls Tryz.prog 12 #[.slice ao0 l.length cap0, .agg #[.int .u32 (a.t : Int), .int .u8 (a.r : Int)], .slice ao1 p.length cap1] W fun e w' => e = .returned (.tuple #[.int .i64 ((offN l a p : Nat) : Int), .int .i64 (offE l a p)]) ∧ Below W.heap.size W w') := fun W h => refOffset_any a (HV.out W h) (HP.out W h)
  have CA : Hid (∀ (W : World) (v : Value), OpL W v l → Calls Tryz.prog 13 #[v, .agg #[.int .u32 (a.t : Int), .int .u8 (a.r : Int)], .int .i64 kx] W fun e w' => ∃ vo vc, e = .returned (.tuple #[elv (atL l a kx) (.slice vo (atL l a kx).pl.length vc), .int .i64 (atE l a kx)]) ∧ Runs w' (.slice vo (atL l a kx).pl.length vc) (atL l a kx).pl ∧ Below W.heap.size W w') := fun W v h => (vAt_any a kx h).mono (by
    rintro e w' ⟨vt, rfl, o, b⟩
    have r := Runs.own o
    obtain ⟨vo, vc, rfl⟩ := r.shape
    exact ⟨vo, vc, rfl, r, b⟩)
  have RA : Hid (∀ W : World, Below w.heap.size w W → Calls Tryz.prog 14 #[.slice ao0 l.length cap0, .agg #[.int .u32 (a.t : Int), .int .u8 (a.r : Int)], .int .i64 kx] W fun e w' => ∃ vo vc, e = .returned (.tuple #[elv (atL l a kx) (.slice vo (atL l a kx).pl.length vc), .int .i64 (atE l a kx)]) ∧ Runs w' (.slice vo (atL l a kx).pl.length vc) (atL l a kx).pl ∧ Below W.heap.size W w') := fun W h => (refAt15_any a kx (HV.out W h)).mono (by
    rintro e w' ⟨vt, rfl, r, b⟩
    obtain ⟨vo, vc, rfl⟩ := r.shape
    exact ⟨vo, vc, rfl, r, b⟩)
  have SA : Hid (∀ (W : World) (u v : Value) (m : List Opn), ElL W u m → ElL W v m → Calls Tryz.prog 15 #[u, v] W fun e w' => e = .returned (.bool true) ∧ Below W.heap.size W w') := fun W u v m h h2 => refSameAll_yes h h2
  have SE : Hid (∀ (W : World) (u v : Value), Runs W u (atL l a kx).pl → Runs W v (atL l a kx).pl → Calls Tryz.prog 16 #[elv (atL l a kx) u, elv (atL l a kx) v] W fun e w' => e = .returned (.bool true) ∧ Below W.heap.size W w') := fun W u v h h2 => refSameE_yes h h2
  have SB : Hid (∀ (W : World) (u : Value), OpL W u l → Below w.heap.size w W → Calls Tryz.prog 17 #[u, .slice ao0 l.length cap0] W fun e w' => e = .returned (.bool true) ∧ Below W.heap.size W w') := fun W u h h2 => by
    have := refSameL_any h (HV.out W h2)
    rwa [decide_eq_true rfl] at this
  obtain ⟨n0, hn0⟩ : ∃ n, n = l.length := ⟨_, rfl⟩
  rw [← hn0] at GR TW RE1 RT RO RA SB hgr ⊢
  obtain ⟨n1, hn1⟩ : ∃ n, n = p.length := ⟨_, rfl⟩
  rw [← hn1] at CO RO ⊢
  obtain ⟨s, hs⟩ : ∃ z, a.t = z := ⟨_, rfl⟩
  obtain ⟨b, hb⟩ : ∃ z, a.r = z := ⟨_, rfl⟩
  rw [hs, hb] at CE1 RE1 CT RT CO RO CA RA ⊢
  have hf2 := (elm_fits l a).1
  obtain ⟨Y, hY⟩ : ∃ z, atL l a kx = z := ⟨_, rfl⟩
  obtain ⟨EL, hEL⟩ : ∃ z, elmL l a = z := ⟨_, rfl⟩
  obtain ⟨TX, hTX⟩ : ∃ z, str (textL l a) = z := ⟨_, rfl⟩
  obtain ⟨E1, hE1⟩ : ∃ z, spanE l a = z := ⟨_, rfl⟩
  obtain ⟨E2, hE2⟩ : ∃ z, offE l a p = z := ⟨_, rfl⟩
  obtain ⟨N2, hN2⟩ : ∃ z, ((offN l a p : Nat) : Int) = z := ⟨_, rfl⟩
  obtain ⟨E3, hE3⟩ : ∃ z, atE l a kx = z := ⟨_, rfl⟩
  rw [hEL, hE1] at CE1 RE1
  rw [hTX, hE1] at CT RT
  rw [hN2, hE2] at CO RO
  rw [hY, hE3] at CA RA
  rw [hY] at SE
  rw [hEL] at hf2
  clear hY
  obtain ⟨yk, yt, yr, yl, yp, _, _, _, _⟩ := Y
  unfold elv at CA RA SE
  simp only at CA RA SE
  obtain ⟨ny, hny⟩ : ∃ z, yl.length = z := ⟨_, rfl⟩
  rw [hny] at CA RA
  clear hny
  have B_0 : Hid (Below w.heap.size w (w.alloc (.cells #[.int .u32 (s : Int), .int .u8 (b : Int)] 25))) := (Below.refl _ _).alloc (Nat.le_refl _) _
  have CE : Hid (∀ W : World, Below (w.alloc (.cells #[.int .u32 (s : Int), .int .u8 (b : Int)] 25)).heap.size (w.alloc (.cells #[.int .u32 (s : Int), .int .u8 (b : Int)] 25)) W → W.cell? ⟨w.heap.size, 0, none⟩ = some (.int .u32 (s : Int)) ∧ W.cell? ⟨w.heap.size, 1, none⟩ = some (.int .u8 (b : Int))) := fun W h => by
    have g2 := cells_blk (blk_below h (blk_new rfl))
    exact ⟨g2.1, g2.2.1⟩
  have BK_0 : Hid (Below (w.alloc (.cells #[.int .u32 (s : Int), .int .u8 (b : Int)] 25)).heap.size (w.alloc (.cells #[.int .u32 (s : Int), .int .u8 (b : Int)] 25)) (w.alloc (.cells #[.int .u32 (s : Int), .int .u8 (b : Int)] 25))) := Below.refl _ _
  have e1 : (E1 == E1) = true := by simp
  have e2 : decide (E1 = E1) = true := by simp
  have e3 : (E2 == E2) = true := by simp
  have e4 : (E3 == E3) = true := by simp
  have e5 : (N2 == N2) = true := by simp
  have e6 : (TX.toList == TX.toList) = true := by simp
  clear hr0 hp0 hn0 hn1 hs hb hEL hTX hE1 hE2 hN2 hE3 HV HP
  go_enter Tryz.func3, Tryz.ntmps3
  go_wp2_with fail
  refine (GR.out _ B_0.out).mono ?_
  rintro e w1 ⟨hg, rfl⟩
  obtain ⟨g, rfl, hg2⟩ := hgr hg
  clear hg hgr GR
  cases g
  rotate_left
  · go_wp2
    go_ret
    exact ⟨rfl, B_0.out⟩
  have TW2 := Lib.hid (TW.out (hg2.out rfl))
  clear TW hg2
  by_cases h300 : 300 < n1
  · have t1 : decide ((300 : Int) < (n1 : Int)) = true := decide_eq_true (by omega)
    have t2 : decide (300 < n1) = true := decide_eq_true h300
    go_wp2
    go_ret
    exact ⟨rfl, B_0.out⟩
  have t1 : decide ((300 : Int) < (n1 : Int)) = false := decide_eq_false (by omega)
  have t2 : decide (300 < n1) = false := decide_eq_false h300
  go_wp2_with fail
  refine (TW2.out _ B_0.out).mono ?_
  rintro e w2 ⟨vo, rfl, o2, b2⟩
  have B_1 := Lib.hid (bt B_0.out b2)
  clear B_0
  have BK_2 := Lib.hid (bt BK_0.out b2)
  clear BK_0
  have V_3 := Lib.hid (o2.opl)
  clear b2 o2
  clear TW2
  have BZ_0 : Hid (Below w2.heap.size w2 w2) := Below.refl _ _
  have B2 := Lib.hid B_1.out
  have V2 := Lib.hid V_3.out
  have U0 := Lib.hid BZ_0.out
  obtain ⟨d0, d1⟩ := CE.out _ BK_2.out
  go_wp2_with fail
  refine (CE1.out _ _ V_3.out).mono ?_
  rintro e w3 ⟨vc, rfl, o3, b3⟩
  obtain ⟨aoC, capC, rfl⟩ := o3.el.shape
  have szu := U0.out.size
  have OC := Lib.hid (o3.base szu)
  have B_4 := Lib.hid (bt B_1.out b3)
  clear B_1
  have BK_5 := Lib.hid (bt BK_2.out b3)
  clear BK_2
  have V_6 := Lib.hid (V_3.out.keeps b3)
  clear V_3
  have BZ_7 := Lib.hid (bt BZ_0.out b3)
  clear BZ_0
  have I_8 := Lib.hid (o3.el)
  clear b3 o3
  clear d0 d1 CE1 szu U0
  have B9_0 : Hid (Below w3.heap.size w3 w3) := Below.refl _ _
  obtain ⟨d0, d1⟩ := CE.out _ BK_5.out
  go_wp2_with fail
  refine (RE1.out _ B_4.out).mono ?_
  rintro e w4 ⟨vb, rfl, o4, b4⟩
  have B_9 := Lib.hid (bt B_4.out b4)
  clear B_4
  have BK_10 := Lib.hid (bt BK_5.out b4)
  clear BK_5
  have V_11 := Lib.hid (V_6.out.keeps b4)
  clear V_6
  have BZ_12 := Lib.hid (bt BZ_7.out b4)
  clear BZ_7
  have I_13 := Lib.hid (I_8.out.keeps b4)
  clear I_8
  have B9_14 := Lib.hid (bt B9_0.out b4)
  clear B9_0
  have J_15 := Lib.hid (o4)
  clear b4 o4
  clear d0 d1 RE1
  obtain ⟨d0, d1⟩ := CE.out _ BK_10.out
  go_wp2_with fail
  refine (CT.out _ _ V_11.out).mono ?_
  rintro e w5 ⟨rfl, b5⟩
  have B_16 := Lib.hid (bt B_9.out b5)
  clear B_9
  have BK_17 := Lib.hid (bt BK_10.out b5)
  clear BK_10
  have V_18 := Lib.hid (V_11.out.keeps b5)
  clear V_11
  have BZ_19 := Lib.hid (bt BZ_12.out b5)
  clear BZ_12
  have I_20 := Lib.hid (I_13.out.keeps b5)
  clear I_13
  have B9_21 := Lib.hid (bt B9_14.out b5)
  clear B9_14
  have J_22 := Lib.hid (J_15.out.keeps b5)
  clear J_15
  clear b5
  clear d0 d1 CT
  obtain ⟨d0, d1⟩ := CE.out _ BK_17.out
  go_wp2_with fail
  refine (RT.out _ B_16.out).mono ?_
  rintro e w6 ⟨rfl, b6⟩
  have B_23 := Lib.hid (bt B_16.out b6)
  clear B_16
  have BK_24 := Lib.hid (bt BK_17.out b6)
  clear BK_17
  have V_25 := Lib.hid (V_18.out.keeps b6)
  clear V_18
  have BZ_26 := Lib.hid (bt BZ_19.out b6)
  clear BZ_19
  have I_27 := Lib.hid (I_20.out.keeps b6)
  clear I_20
  have B9_28 := Lib.hid (bt B9_21.out b6)
  clear B9_21
  have J_29 := Lib.hid (J_22.out.keeps b6)
  clear J_22
  clear b6
  clear d0 d1 RT
  obtain ⟨d0, d1⟩ := CE.out _ BK_24.out
  go_wp2_with fail
  refine (CO.out _ _ V_25.out B_23.out).mono ?_
  rintro e w7 ⟨rfl, b7⟩
  have B_30 := Lib.hid (bt B_23.out b7)
  clear B_23
  have BK_31 := Lib.hid (bt BK_24.out b7)
  clear BK_24
  have V_32 := Lib.hid (V_25.out.keeps b7)
  clear V_25
  have BZ_33 := Lib.hid (bt BZ_26.out b7)
  clear BZ_26
  have I_34 := Lib.hid (I_27.out.keeps b7)
  clear I_27
  have B9_35 := Lib.hid (bt B9_28.out b7)
  clear B9_28
  have J_36 := Lib.hid (J_29.out.keeps b7)
  clear J_29
  clear b7
  clear d0 d1 CO
  obtain ⟨d0, d1⟩ := CE.out _ BK_31.out
  go_wp2_with fail
  refine (RO.out _ B_30.out).mono ?_
  rintro e w8 ⟨rfl, b8⟩
  have B_37 := Lib.hid (bt B_30.out b8)
  clear B_30
  have BK_38 := Lib.hid (bt BK_31.out b8)
  clear BK_31
  have V_39 := Lib.hid (V_32.out.keeps b8)
  clear V_32
  have BZ_40 := Lib.hid (bt BZ_33.out b8)
  clear BZ_33
  have I_41 := Lib.hid (I_34.out.keeps b8)
  clear I_34
  have B9_42 := Lib.hid (bt B9_35.out b8)
  clear B9_35
  have J_43 := Lib.hid (J_36.out.keeps b8)
  clear J_36
  clear b8
  clear d0 d1 RO
  obtain ⟨d0, d1⟩ := CE.out _ BK_38.out
  go_wp2_with fail
  refine (CA.out _ _ V_39.out).mono ?_
  rintro e w9 ⟨u9, c9, rfl, o9, b9⟩
  have B_44 := Lib.hid (bt B_37.out b9)
  clear B_37
  have BK_45 := Lib.hid (bt BK_38.out b9)
  clear BK_38
  have V_46 := Lib.hid (V_39.out.keeps b9)
  clear V_39
  have BZ_47 := Lib.hid (bt BZ_40.out b9)
  clear BZ_40
  have I_48 := Lib.hid (I_41.out.keeps b9)
  clear I_41
  have B9_49 := Lib.hid (bt B9_42.out b9)
  clear B9_42
  have J_50 := Lib.hid (J_43.out.keeps b9)
  clear J_43
  have X_51 := Lib.hid (o9)
  clear b9 o9
  clear d0 d1 CA
  have bo := (Below.refl w9.heap.size w9).alloc (Nat.le_refl _) (.cells #[.int .u32 (yt : Int), .int .u8 (yr : Int), .slice u9 ny c9, .int .i64 yp] 44)
  have B_52 := Lib.hid (bt B_44.out bo)
  clear B_44
  have BK_53 := Lib.hid (bt BK_45.out bo)
  clear BK_45
  have V_54 := Lib.hid (V_46.out.keeps bo)
  clear V_46
  have BZ_55 := Lib.hid (bt BZ_47.out bo)
  clear BZ_47
  have I_56 := Lib.hid (I_48.out.keeps bo)
  clear I_48
  have B9_57 := Lib.hid (bt B9_49.out bo)
  clear B9_49
  have J_58 := Lib.hid (J_50.out.keeps bo)
  clear J_50
  have X_59 := Lib.hid (X_51.out.keeps bo)
  clear X_51
  have HX_60 : Hid ((w9.alloc (.cells #[.int .u32 (yt : Int), .int .u8 (yr : Int), .slice u9 ny c9, .int .i64 yp] 44)).heap[w9.heap.size]? = some (.cells #[.int .u32 (yt : Int), .int .u8 (yr : Int), .slice u9 ny c9, .int .i64 yp] 44)) := blk_new rfl
  clear bo
  obtain ⟨d0, d1⟩ := CE.out _ BK_53.out
  go_wp2_with fail
  refine (RA.out _ B_52.out).mono ?_
  rintro e w10 ⟨u10, c10, rfl, o10, b10⟩
  have B_61 := Lib.hid (bt B_52.out b10)
  clear B_52
  have BK_62 := Lib.hid (bt BK_53.out b10)
  clear BK_53
  have V_63 := Lib.hid (V_54.out.keeps b10)
  clear V_54
  have BZ_64 := Lib.hid (bt BZ_55.out b10)
  clear BZ_55
  have I_65 := Lib.hid (I_56.out.keeps b10)
  clear I_56
  have B9_66 := Lib.hid (bt B9_57.out b10)
  clear B9_57
  have J_67 := Lib.hid (J_58.out.keeps b10)
  clear J_58
  have X_68 := Lib.hid (X_59.out.keeps b10)
  clear X_59
  have HX_69 := Lib.hid (blk_below b10 HX_60.out)
  clear HX_60
  have Y_70 := Lib.hid (o10)
  clear b10 o10
  clear d0 d1 RA CE
  have bo := (Below.refl w10.heap.size w10).alloc (Nat.le_refl _) (.cells #[.int .u32 (yt : Int), .int .u8 (yr : Int), .slice u10 ny c10, .int .i64 yp] 44)
  have B_71 := Lib.hid (bt B_61.out bo)
  clear B_61
  have BK_72 := Lib.hid (bt BK_62.out bo)
  clear BK_62
  have V_73 := Lib.hid (V_63.out.keeps bo)
  clear V_63
  have BZ_74 := Lib.hid (bt BZ_64.out bo)
  clear BZ_64
  have I_75 := Lib.hid (I_65.out.keeps bo)
  clear I_65
  have B9_76 := Lib.hid (bt B9_66.out bo)
  clear B9_66
  have J_77 := Lib.hid (J_67.out.keeps bo)
  clear J_67
  have X_78 := Lib.hid (X_68.out.keeps bo)
  clear X_68
  have HX_79 := Lib.hid (blk_below bo HX_69.out)
  clear HX_69
  have Y_80 := Lib.hid (Y_70.out.keeps bo)
  clear Y_70
  have HY_81 : Hid ((w10.alloc (.cells #[.int .u32 (yt : Int), .int .u8 (yr : Int), .slice u10 ny c10, .int .i64 yp] 44)).heap[w10.heap.size]? = some (.cells #[.int .u32 (yt : Int), .int .u8 (yr : Int), .slice u10 ny c10, .int .i64 yp] 44)) := blk_new rfl
  clear bo
  go_wp2_with fail
  refine (SA.out _ _ _ _ I_75.out J_77.out).mono ?_
  rintro e w11 ⟨rfl, b11⟩
  have B_82 := Lib.hid (bt B_71.out b11)
  clear B_71
  have BK_83 := Lib.hid (bt BK_72.out b11)
  clear BK_72
  have V_84 := Lib.hid (V_73.out.keeps b11)
  clear V_73
  have BZ_85 := Lib.hid (bt BZ_74.out b11)
  clear BZ_74
  have I_86 := Lib.hid (I_75.out.keeps b11)
  clear I_75
  have B9_87 := Lib.hid (bt B9_76.out b11)
  clear B9_76
  have J_88 := Lib.hid (J_77.out.keeps b11)
  clear J_77
  have X_89 := Lib.hid (X_78.out.keeps b11)
  clear X_78
  have HX_90 := Lib.hid (blk_below b11 HX_79.out)
  clear HX_79
  have Y_91 := Lib.hid (Y_80.out.keeps b11)
  clear Y_80
  have HY_92 := Lib.hid (blk_below b11 HY_81.out)
  clear HY_81
  clear b11
  clear I_86 J_88
  obtain ⟨x0, x1, x2, x3⟩ := cells4 HX_90.out
  obtain ⟨y0, y1, y2, y3⟩ := cells4 HY_92.out
  go_wp2_with fail
  refine (SE.out _ _ _ X_89.out Y_91.out).mono ?_
  rintro e w12 ⟨rfl, b12⟩
  have B_93 := Lib.hid (bt B_82.out b12)
  clear B_82
  have BK_94 := Lib.hid (bt BK_83.out b12)
  clear BK_83
  have V_95 := Lib.hid (V_84.out.keeps b12)
  clear V_84
  have BZ_96 := Lib.hid (bt BZ_85.out b12)
  clear BZ_85
  have B9_97 := Lib.hid (bt B9_87.out b12)
  clear B9_87
  have X_98 := Lib.hid (X_89.out.keeps b12)
  clear X_89
  have HX_99 := Lib.hid (blk_below b12 HX_90.out)
  clear HX_90
  have Y_100 := Lib.hid (Y_91.out.keeps b12)
  clear Y_91
  have HY_101 := Lib.hid (blk_below b12 HY_92.out)
  clear HY_92
  clear b12
  clear x0 x1 x2 x3 y0 y1 y2 y3
  clear X_98 Y_100 HX_99 HY_101
  obtain ⟨n, hn⟩ : ∃ z, z = EL.length := ⟨_, rfl⟩
  have SPC : Hid (0 < n → ∃ b cb, aoC = some ⟨b, 0, none⟩ ∧ SpE w12 w2.heap.size b cb n) := fun h => by
    rw [hn] at h ⊢
    obtain ⟨b, cb, x1, x2⟩ := spE_of OC.out h
    exact ⟨b, cb, x1, x2.keeps B9_97.out⟩
  rw [← hn] at hf2 ⊢
  have BZ := Lib.hid BZ_96.out
  clear SA SE OC hn BK_94 BZ_96 V_95 B9_97 B_93
  have hn1 : n ≤ 1024 := hf2
  clear hf2
  by_cases hn0 : n = 0
  · subst hn0
    go_wp2
    go_loopw [27] (fun i wr => i = .int .i64 0 ∧ Hid (Below w2.heap.size w2 wr)) (fun _ _ => 0)
    case atStart => exact ⟨rfl, BZ⟩
    case round =>
      clear BZ
      obtain ⟨rfl, hbel⟩ := hrel
      have BF := Lib.hid (bt B2.out hbel.out)
      have X5 := Lib.hid (SB.out wr _ (V2.out.keeps hbel.out) BF.out)
      clear SB
      go_wp2_with fail
      refine X5.out.mono ?_
      rintro e wz ⟨rfl, bz⟩
      have BE := Lib.hid (bt BF.out bz)
      clear bz
      go_wp2
      go_ret
      exact ⟨rfl, BE.out⟩
  obtain ⟨g, cb, rfl, hspc⟩ := SPC.out (by omega)
  have SP0 := Lib.hid hspc
  clear hspc SPC
  go_wp2
  go_loopw [27] (fun i wr => ∃ k : Nat, k ≤ n ∧ i = .int .i64 (k : Int) ∧ Hid (SpE wr w2.heap.size g cb n) ∧ Hid (Below w2.heap.size w2 wr)) (fun i _ => n - (intOf i).toNat)
  case atStart => exact ⟨0, by omega, rfl, SP0, BZ⟩
  case round =>
    clear SP0 BZ
    obtain ⟨k, hk, rfl, hsp, hbel⟩ := hrel
    by_cases hkn : k < n
    rotate_left
    · have q1 : decide (k < n) = false := by simpa using hkn
      clear hsp
      have BF := Lib.hid (bt B2.out hbel.out)
      have X5 := Lib.hid (SB.out wr _ (V2.out.keeps hbel.out) BF.out)
      clear SB
      go_wp2_with fail
      refine X5.out.mono ?_
      rintro e wz ⟨rfl, bz⟩
      have BE := Lib.hid (bt BF.out bz)
      clear bz
      go_wp2
      go_ret
      exact ⟨rfl, BE.out⟩
    have q1 : decide (k < n) = true := by simpa using hkn
    have q4 : (0 : Int) ≤ (k : Int) := by omega
    have q5 : (k : Int) < (n : Int) := by omega
    obtain ⟨so, m, sc, hc, hm, hcase⟩ := hsp.out.2.2 k hkn
    have HC := Lib.hid hc
    go_wp2
    go_loopw [28] (fun i wq => ∃ j : Nat, j ≤ m ∧ i = .int .i64 (j : Int) ∧ Hid (SpE wq w2.heap.size g cb n) ∧ Hid (Below w2.heap.size w2 wq)) (fun i _ => m - (intOf i).toNat)
    case atStart => exact ⟨0, by omega, rfl, hsp, hbel⟩
    case round =>
      clear hsp hbel hcase hc
      obtain ⟨j, hj, rfl, hsp, hbel⟩ := hrel
      have xc : wr.cell? ⟨g, k * 4 + 2, none⟩ = some (.slice so m sc) := (cell_of_row _ _ (k * 4 + 2) _ _ _ hsp.out.1).trans HC.out
      by_cases hjm : j < m
      rotate_left
      · have q2 : decide (j < m) = false := by simpa using hjm
        go_wp2
        go_roundw
        case rel => exact ⟨k + 1, by omega, by go_num, hsp, hbel⟩
        case measure => simp [intOf]; omega
      have q2 : decide (j < m) = true := by simpa using hjm
      have q6 : (0 : Int) ≤ (j : Int) := by omega
      have q7 : (j : Int) < (m : Int) := by omega
      obtain ⟨so', m', sc', hc', hm', hcase⟩ := hsp.out.2.2 k hkn
      rw [HC.out] at hc'
      cases hc'
      rcases hcase with hcase | ⟨q, cur, rfl, hq1, hq2, hq3, hq4⟩
      · omega
      have hjc : j * 3 + 2 < cur.size := by omega
      have xm : wr.cell? ⟨q, j * 3 + 2, none⟩ = some (cur[j * 3 + 2]'hjc) := (cell_of_row _ q (j * 3 + 2) cur _ _ hq3).trans (Array.getElem?_eq_getElem hjc)
      obtain ⟨u, hu⟩ : ∃ u, cur[j * 3 + 2]'hjc = u := ⟨_, rfl⟩
      rw [hu] at xm
      have xf : wr.frozen? ⟨q, j * 3 + 2, none⟩ = false := by simp [World.frozen?, hq3]
      have SP2 : Hid (SpE (wr.setCell ⟨q, j * 3 + 2, none⟩ (.int .i64 (-7))) w2.heap.size g cb n) := hsp.out.set hq2
      have BW2 : Hid (Below w2.heap.size w2 (wr.setCell ⟨q, j * 3 + 2, none⟩ (.int .i64 (-7)))) := hbel.out.setCell (p := ⟨q, j * 3 + 2, none⟩) hq1 _
      clear hsp hbel hq3 hq4 hu hjc
      go_wp2
      go_roundw
      case rel => exact ⟨j + 1, by omega, by go_num, SP2, BW2⟩
      case measure => simp [intOf]; omega
end Go.Proofs.YtohiidgdpecbdaaGreat.Views
