/- EditTells answers true, and changes nothing that was there. Conditions: the places are not longer than memory holds. Arguments of five, six and seven parameters, one by one. Conditions: none. -/
import Derived.Test.YtgjbnbojjgbmcaaGreatChecked
import Derived.WalkKit
import Derived.WalkSpells
import Derived.WalkLawsBesides
import Derived.Laws.BytesArg
import Derived.Lib.Hide
import Derived.Deep.LoopGhost
import Derived.Laws.AppendOwnNone
import Derived.Laws.OwnMore
import Derived.WideShapes
import Derived.Maps.AppendAt
import Derived.RegionTactic
import Derived.Deep.RegionHeld3
import Derived.Deep.DrawnRows
import Derived.Deep.QuietTactic
import Derived.BigQuiet
import Derived.IntWalk
import Derived.Deep.DeepCutAuto
import Derived.ScopeJumps
import Derived.Test.YtgjbnbojjgbmcaaGreatProg
import Derived.LoopTactic
import Derived.Laws.EntriesVeiled
import Derived.RowKit
import Derived.Lib.DecodeN
import Derived.Lib.RuneBytes
import Derived.Maps.Own
import Derived.Maps.OwnOps
import Derived.Maps.OwnSet
import Derived.Maps.Views
import Derived.DeepKeys4
import Derived.Shelf.SlSortCmp.InsertionK
import Derived.Calls
import Derived.StepT
import Derived.Below
import Derived.Sort.Grow
import Derived.Deep.Draws
import Derived.Shelf.SlLaysF0
import Derived.Shelf.SlSortCmp.NoneTotal
import Derived.Scope
import Derived.Shelf.Abstract
import Derived.RangeFuncBox
import Derived.RangeFuncLeaves
import Derived.RangeFuncNested
import Derived.RangeFuncBound
import Derived.RangeFuncCalls
import Derived.OwnWalkIn
import Derived.TacticsInMore
import Derived.LoopNIn
import Derived.LoopIn
import Derived.Lib.Tables
import Derived.Laws.Bits64
import Derived.Test.YtgjbnbojjgbmcaaGreatShelf
import Derived.Lib.OthersKept
import Derived.BigCall
import Derived.Laws.CopyOwn
import Derived.Deep.AppendSrc
import Derived.Lib.AppendZeros
import Derived.Laws.MakeOwn
import Derived.Deep.RegionWith
import Derived.BigRegion
import Derived.Tactics
import Derived.Test.YtgjbnbojjgbmcaaGreatRows
import Derived.ProofKit
import Derived.SizedLaws
import Derived.Test.YtgjbnbojjgbmcaaGreatPk12
import Derived.Test.YtgjbnbojjgbmcaaGreatPk11
import Derived.Test.YtgjbnbojjgbmcaaGreatPk15
import Derived.Test.YtgjbnbojjgbmcaaGreatPk06
import Derived.Test.YtgjbnbojjgbmcaaGreatPk21
import Derived.Test.YtgjbnbojjgbmcaaGreatPk05
import Derived.Test.YtgjbnbojjgbmcaaGreatPk35
import Derived.Test.YtgjbnbojjgbmcaaGreatPk04
import Derived.Test.YtgjbnbojjgbmcaaGreatPk34
import Derived.Test.YtgjbnbojjgbmcaaGreatPk03
import Derived.Test.YtgjbnbojjgbmcaaGreatPk02
import Derived.Test.YtgjbnbojjgbmcaaGreatPk01
import Derived.Test.YtgjbnbojjgbmcaaGreatPk33
import Derived.Test.YtgjbnbojjgbmcaaGreatPk20
import Derived.Test.YtgjbnbojjgbmcaaGreatPk19
import Derived.Test.YtgjbnbojjgbmcaaGreatPk10
import Derived.Test.YtgjbnbojjgbmcaaGreatPk38
import Derived.Test.YtgjbnbojjgbmcaaGreatPk37
import Derived.Test.YtgjbnbojjgbmcaaGreatPk36
import Derived.Test.YtgjbnbojjgbmcaaGreatPk39
import Derived.Test.YtgjbnbojjgbmcaaGreatPk07
import Derived.Test.YtgjbnbojjgbmcaaGreatPk08
import Derived.Test.YtgjbnbojjgbmcaaGreatPk09
import Derived.Test.YtgjbnbojjgbmcaaGreatPk40
import Derived.Test.YtgjbnbojjgbmcaaGreatPk13
import Derived.Test.YtgjbnbojjgbmcaaGreatPk41

namespace Go.Proofs.YtgjbnbojjgbmcaaGreat.Edits
open Go.RowKit Go.WideShapes Stamp Go.Proofs.YtgjbnbojjgbmcaaGreat.Place Ops Codes Bags Marks Homes Covers Views
attribute [local go_sem ↓] Go.wp_at_zero Go.wp_at_succ
attribute [local go_sem] yielded_undef
theorem spl_of {w W : World} {base : Nat} {v : Value} {l : List Opn} (h : OwnL w base v l) (hb : Below w.heap.size w W) : SplO W base w.heap.size v l.length := (own_spl h).keeps hb
set_option maxRecDepth 100000 in
set_option maxHeartbeats 16000000 in
theorem tells_walk {l : List Opn} {ao0 : Option Addr} {cap0 r t : Nat} (a : Id) (k m : Int) (T : ByteArray) {w : World} (hr0 : OpL w (.slice ao0 l.length cap0) l) (hz0 : ∀ o ∈ l, o.pl.length ≤ 8796093022208) (hr : r < 256) (ht : t < 4294967296) (hk0 : k ≤ 9223372036854775807) :
    Calls Tryz.prog 4 #[.slice ao0 l.length cap0, .int .u8 (r : Int), .int .u32 (t : Int), .agg #[.int .u32 (a.t : Int), .int .u8 (a.r : Int)], .int .i64 k, .int .i64 m, .string T] w fun e w' => e = .returned (.bool true) ∧ Below w.heap.size w w' := by
  have HV : Hid (∀ W : World, Below w.heap.size w W → OpL W (.slice ao0 l.length cap0) l) := fun W h => hr0.keeps h
  have GR : Hid (∀ W : World, Below w.heap.size w W → Calls Tryz.prog 13 #[.slice ao0 l.length cap0, .int .i64 60] W fun e w' => GrtO l 60 e ∧ W = w') := fun W h => greatO_any (HV.out W h)
  have hgr : ∀ {e : Ending}, GrtO l 60 e → ∃ g, e = .returned (.bool g) ∧ Hid (g = false → l.length ≤ 60) := fun ⟨g, h1, h2⟩ => ⟨g, h1, fun h => by have := (h2 h).1; omega⟩
  have TW : Hid (l.length ≤ 60 → ∀ W : World, Below w.heap.size w W → Calls Tryz.prog 14 #[.slice ao0 l.length cap0] W fun e w' => ∃ v', e = .returned v' ∧ OwnL w' W.heap.size v' l ∧ Below W.heap.size W w') := fun hl W h => refTwinL_any (HV.out W h) (by omega) hz0
  have CI : Hid (T.size ≤ 1000 → ∀ (W : World) (v : Value), OpL W v l → Calls Tryz.prog 7 #[v, .int .u8 (r : Int), .int .u32 (t : Int), .agg #[.int .u32 (a.t : Int), .int .u8 (a.r : Int)], .int .i64 k, .string T] W (DoneN (insL l r t a k (Point.pr T.data.toList).1 (Point.pr T.data.toList).2) (insE l r t a k (Point.pr T.data.toList).1 (Point.pr T.data.toList).2) W)) := fun h0 W v h => eInsert_any a k T h hr ht (by omega) hk0
  have RI : Hid (T.size ≤ 1000 → ∀ W : World, Below w.heap.size w W → Calls Tryz.prog 15 #[.slice ao0 l.length cap0, .int .u8 (r : Int), .int .u32 (t : Int), .agg #[.int .u32 (a.t : Int), .int .u8 (a.r : Int)], .int .i64 k, .string T] W (DoneL (insL l r t a k (Point.pr T.data.toList).1 (Point.pr T.data.toList).2) (insE l r t a k (Point.pr T.data.toList).1 (Point.pr T.data.toList).2) W)) := fun h0 W h => refInsert16_any a k T (HV.out W h) hr ht (by omega)
  have CD : Hid (∀ (W : World) (v : Value), OpL W v l → Calls Tryz.prog 16 #[v, .int .u8 (r : Int), .int .u32 (t : Int), .agg #[.int .u32 (a.t : Int), .int .u8 (a.r : Int)], .int .i64 k, .int .i64 m] W (DoneN (delL l r t a k m) (delE l r t a k m) W)) := fun W v h => eDelete_any a k m h hr ht hk0
  have RD : Hid (∀ W : World, Below w.heap.size w W → Calls Tryz.prog 17 #[.slice ao0 l.length cap0, .int .u8 (r : Int), .int .u32 (t : Int), .agg #[.int .u32 (a.t : Int), .int .u8 (a.r : Int)], .int .i64 k, .int .i64 m] W (DoneL (delL l r t a k m) (delE l r t a k m) W)) := fun W h => refDelete16_any a k m (HV.out W h) hr ht
  have CS : Hid (∀ (W : World) (v : Value), OpL W v l → Calls Tryz.prog 8 #[v, .int .u8 (r : Int), .int .u32 (t : Int), .agg #[.int .u32 (a.t : Int), .int .u8 (a.r : Int)], .int .i64 k] W (DoneN (splL l r t a k) (splE l r t a k) W)) := fun W v h => eSplit_any a k h hr ht hk0
  have RS : Hid (∀ W : World, Below w.heap.size w W → Calls Tryz.prog 18 #[.slice ao0 l.length cap0, .int .u8 (r : Int), .int .u32 (t : Int), .agg #[.int .u32 (a.t : Int), .int .u8 (a.r : Int)], .int .i64 k] W (DoneL (splL l r t a k) (splE l r t a k) W)) := fun W h => refSplit16_any a k (HV.out W h) hr ht
  have CM : Hid (∀ (W : World) (v : Value), OpL W v l → Calls Tryz.prog 10 #[v, .int .u8 (r : Int), .int .u32 (t : Int), .agg #[.int .u32 (a.t : Int), .int .u8 (a.r : Int)]] W (DoneN (merL l r t a) (merE l r t a) W)) := fun W v h => eMerge_any a h hr ht
  have RM : Hid (∀ W : World, Below w.heap.size w W → Calls Tryz.prog 19 #[.slice ao0 l.length cap0, .int .u8 (r : Int), .int .u32 (t : Int), .agg #[.int .u32 (a.t : Int), .int .u8 (a.r : Int)]] W (DoneL (merL l r t a) (merE l r t a) W)) := fun W h => refMerge16_any a (HV.out W h) hr ht
  have SA : Hid (∀ (W : World) (u v : Value) (q : List Opn), OpL W u q → OpL W v q → Calls Tryz.prog 11 #[u, v] W fun e w' => e = .returned (.bool true) ∧ Below W.heap.size W w') := fun W u v q h h2 => by
    have := sameL_any h h2
    rwa [decide_eq_true rfl] at this
  have SB : Hid (∀ (W : World) (u : Value), OpL W u l → Below w.heap.size w W → Calls Tryz.prog 21 #[u, .slice ao0 l.length cap0] W fun e w' => e = .returned (.bool true) ∧ Below W.heap.size W w') := fun W u h h2 => by
    have := refSameL_any h (HV.out W h2)
    rwa [decide_eq_true rfl] at this
  have SP : Hid (∀ (W : World) (base top n : Nat) (v : Value), SplO W base top v n → Calls Tryz.prog 20 #[v] W fun e w' => e = .returned (.tuple #[]) ∧ Sand base top W w') := fun W base top n v h => spoil_any h
  obtain ⟨n0, hn0⟩ : ∃ n, n = l.length := ⟨_, rfl⟩
  rw [← hn0] at GR TW RI RD RS RM SB hgr ⊢
  obtain ⟨sx, hsx⟩ : ∃ z, a.t = z := ⟨_, rfl⟩
  obtain ⟨sy, hsy⟩ : ∃ z, a.r = z := ⟨_, rfl⟩
  rw [hsx, hsy] at CI RI CD RD CS RS CM RM ⊢
  obtain ⟨L0, hL0⟩ : ∃ z, insL l r t a k (Point.pr T.data.toList).1 (Point.pr T.data.toList).2 = z := ⟨_, rfl⟩
  obtain ⟨E0, hE0⟩ : ∃ z, insE l r t a k (Point.pr T.data.toList).1 (Point.pr T.data.toList).2 = z := ⟨_, rfl⟩
  rw [hL0, hE0] at CI RI
  have e0a : (E0 == E0) = true := by simp
  have e0b : decide (E0 = E0) = true := by simp
  obtain ⟨L1, hL1⟩ : ∃ z, delL l r t a k m = z := ⟨_, rfl⟩
  obtain ⟨E1, hE1⟩ : ∃ z, delE l r t a k m = z := ⟨_, rfl⟩
  rw [hL1, hE1] at CD RD
  have e1a : (E1 == E1) = true := by simp
  have e1b : decide (E1 = E1) = true := by simp
  obtain ⟨L2, hL2⟩ : ∃ z, splL l r t a k = z := ⟨_, rfl⟩
  obtain ⟨E2, hE2⟩ : ∃ z, splE l r t a k = z := ⟨_, rfl⟩
  rw [hL2, hE2] at CS RS
  have e2a : (E2 == E2) = true := by simp
  have e2b : decide (E2 = E2) = true := by simp
  obtain ⟨L3, hL3⟩ : ∃ z, merL l r t a = z := ⟨_, rfl⟩
  obtain ⟨E3, hE3⟩ : ∃ z, merE l r t a = z := ⟨_, rfl⟩
  rw [hL3, hE3] at CM RM
  have e3a : (E3 == E3) = true := by simp
  have e3b : decide (E3 = E3) = true := by simp
  have B_0 : Hid (Below w.heap.size w (w.alloc (.cells #[.int .u32 (sx : Int), .int .u8 (sy : Int)] 28))) := (Below.refl _ _).alloc (Nat.le_refl _) _
  have CE : Hid (∀ W : World, Below (w.alloc (.cells #[.int .u32 (sx : Int), .int .u8 (sy : Int)] 28)).heap.size (w.alloc (.cells #[.int .u32 (sx : Int), .int .u8 (sy : Int)] 28)) W → W.cell? ⟨w.heap.size, 0, none⟩ = some (.int .u32 (sx : Int)) ∧ W.cell? ⟨w.heap.size, 1, none⟩ = some (.int .u8 (sy : Int))) := fun W h => by
    have g2 := cells_blk (blk_below h (blk_new rfl))
    exact ⟨g2.1, g2.2.1⟩
  have BK_0 : Hid (Below (w.alloc (.cells #[.int .u32 (sx : Int), .int .u8 (sy : Int)] 28)).heap.size (w.alloc (.cells #[.int .u32 (sx : Int), .int .u8 (sy : Int)] 28)) (w.alloc (.cells #[.int .u32 (sx : Int), .int .u8 (sy : Int)] 28))) := Below.refl _ _
  clear hr0 hn0 hsx hsy hL0 hL1 hL2 hL3 hE0 hE1 hE2 hE3 HV hz0 hr ht hk0
  go_enter Tryz.func4, Tryz.ntmps4
  go_wp2_with fail
  refine (GR.out _ B_0.out).mono ?_
  rintro e w1 ⟨hg, rfl⟩
  obtain ⟨g, rfl, hg2⟩ := hgr hg
  clear hg hgr GR
  cases g
  rotate_left
  · go_wp2
    go_ret
    exact ⟨rfl, B_0.out⟩
  have TW2 := Lib.hid (TW.out (hg2.out rfl))
  clear TW hg2
  by_cases h1000 : 1000 < T.size
  · have t1 : decide ((1000 : Int) < (T.size : Int)) = true := decide_eq_true (by omega)
    have t2 : decide (1000 < T.size) = true := decide_eq_true h1000
    go_wp2
    go_ret
    exact ⟨rfl, B_0.out⟩
  have t1 : decide ((1000 : Int) < (T.size : Int)) = false := decide_eq_false (by omega)
  have t2 : decide (1000 < T.size) = false := decide_eq_false h1000
  have CI2 := Lib.hid (CI.out (by omega))
  have RI2 := Lib.hid (RI.out (by omega))
  clear CI RI h1000
  go_wp2_with fail
  refine (TW2.out _ B_0.out).mono ?_
  rintro e w2 ⟨vo, rfl, o2, b2⟩
  have S2 := Lib.hid b2.size
  have B_1 := Lib.hid (bt B_0.out b2)
  clear B_0
  have BK_2 := Lib.hid (bt BK_0.out b2)
  clear BK_0
  have V_3 := Lib.hid (o2.opl)
  clear b2 o2
  clear TW2
  have BZ_0 : Hid (Below w2.heap.size w2 w2) := Below.refl _ _
  have B2 := Lib.hid B_1.out
  have V2 := Lib.hid V_3.out
  obtain ⟨d0, d1⟩ := CE.out _ BK_2.out
  go_wp2_with fail
  refine (CI2.out _ _ V_3.out).mono ?_
  rintro e w3 ⟨u3, rfl, o3, b3⟩
  have S3 := Lib.hid b3.size
  have OW0 := Lib.hid o3
  have B_4 := Lib.hid (bt B_1.out b3)
  clear B_1
  have BK_5 := Lib.hid (bt BK_2.out b3)
  clear BK_2
  have V_6 := Lib.hid (V_3.out.keeps b3)
  clear V_3
  have BZ_7 := Lib.hid (bt BZ_0.out b3)
  clear BZ_0
  have P0_8 := Lib.hid (o3.opl)
  clear b3 o3
  clear d0 d1 CI2
  have BO0_0 : Hid (Below w3.heap.size w3 w3) := Below.refl _ _
  obtain ⟨d0, d1⟩ := CE.out _ BK_5.out
  go_wp2_with fail
  refine (RI2.out _ B_4.out).mono ?_
  rintro e w4 ⟨u4, rfl, o4, b4⟩
  have S4 := Lib.hid b4.size
  have B_9 := Lib.hid (bt B_4.out b4)
  clear B_4
  have BK_10 := Lib.hid (bt BK_5.out b4)
  clear BK_5
  have V_11 := Lib.hid (V_6.out.keeps b4)
  clear V_6
  have BZ_12 := Lib.hid (bt BZ_7.out b4)
  clear BZ_7
  have P0_13 := Lib.hid (P0_8.out.keeps b4)
  clear P0_8
  have BO0_14 := Lib.hid (bt BO0_0.out b4)
  clear BO0_0
  have Q0_15 := Lib.hid (o4)
  clear b4 o4
  clear d0 d1 RI2
  obtain ⟨d0, d1⟩ := CE.out _ BK_10.out
  go_wp2_with fail
  refine (CD.out _ _ V_11.out).mono ?_
  rintro e w5 ⟨u5, rfl, o5, b5⟩
  have S5 := Lib.hid b5.size
  have OW1 := Lib.hid o5
  have B_16 := Lib.hid (bt B_9.out b5)
  clear B_9
  have BK_17 := Lib.hid (bt BK_10.out b5)
  clear BK_10
  have V_18 := Lib.hid (V_11.out.keeps b5)
  clear V_11
  have BZ_19 := Lib.hid (bt BZ_12.out b5)
  clear BZ_12
  have P0_20 := Lib.hid (P0_13.out.keeps b5)
  clear P0_13
  have BO0_21 := Lib.hid (bt BO0_14.out b5)
  clear BO0_14
  have Q0_22 := Lib.hid (Q0_15.out.keeps b5)
  clear Q0_15
  have P1_23 := Lib.hid (o5.opl)
  clear b5 o5
  clear d0 d1 CD
  have BO1_0 : Hid (Below w5.heap.size w5 w5) := Below.refl _ _
  obtain ⟨d0, d1⟩ := CE.out _ BK_17.out
  go_wp2_with fail
  refine (RD.out _ B_16.out).mono ?_
  rintro e w6 ⟨u6, rfl, o6, b6⟩
  have S6 := Lib.hid b6.size
  have B_24 := Lib.hid (bt B_16.out b6)
  clear B_16
  have BK_25 := Lib.hid (bt BK_17.out b6)
  clear BK_17
  have V_26 := Lib.hid (V_18.out.keeps b6)
  clear V_18
  have BZ_27 := Lib.hid (bt BZ_19.out b6)
  clear BZ_19
  have P0_28 := Lib.hid (P0_20.out.keeps b6)
  clear P0_20
  have BO0_29 := Lib.hid (bt BO0_21.out b6)
  clear BO0_21
  have Q0_30 := Lib.hid (Q0_22.out.keeps b6)
  clear Q0_22
  have P1_31 := Lib.hid (P1_23.out.keeps b6)
  clear P1_23
  have BO1_32 := Lib.hid (bt BO1_0.out b6)
  clear BO1_0
  have Q1_33 := Lib.hid (o6)
  clear b6 o6
  clear d0 d1 RD
  obtain ⟨d0, d1⟩ := CE.out _ BK_25.out
  go_wp2_with fail
  refine (CS.out _ _ V_26.out).mono ?_
  rintro e w7 ⟨u7, rfl, o7, b7⟩
  have S7 := Lib.hid b7.size
  have OW2 := Lib.hid o7
  have B_34 := Lib.hid (bt B_24.out b7)
  clear B_24
  have BK_35 := Lib.hid (bt BK_25.out b7)
  clear BK_25
  have V_36 := Lib.hid (V_26.out.keeps b7)
  clear V_26
  have BZ_37 := Lib.hid (bt BZ_27.out b7)
  clear BZ_27
  have P0_38 := Lib.hid (P0_28.out.keeps b7)
  clear P0_28
  have BO0_39 := Lib.hid (bt BO0_29.out b7)
  clear BO0_29
  have Q0_40 := Lib.hid (Q0_30.out.keeps b7)
  clear Q0_30
  have P1_41 := Lib.hid (P1_31.out.keeps b7)
  clear P1_31
  have BO1_42 := Lib.hid (bt BO1_32.out b7)
  clear BO1_32
  have Q1_43 := Lib.hid (Q1_33.out.keeps b7)
  clear Q1_33
  have P2_44 := Lib.hid (o7.opl)
  clear b7 o7
  clear d0 d1 CS
  have BO2_0 : Hid (Below w7.heap.size w7 w7) := Below.refl _ _
  obtain ⟨d0, d1⟩ := CE.out _ BK_35.out
  go_wp2_with fail
  refine (RS.out _ B_34.out).mono ?_
  rintro e w8 ⟨u8, rfl, o8, b8⟩
  have S8 := Lib.hid b8.size
  have B_45 := Lib.hid (bt B_34.out b8)
  clear B_34
  have BK_46 := Lib.hid (bt BK_35.out b8)
  clear BK_35
  have V_47 := Lib.hid (V_36.out.keeps b8)
  clear V_36
  have BZ_48 := Lib.hid (bt BZ_37.out b8)
  clear BZ_37
  have P0_49 := Lib.hid (P0_38.out.keeps b8)
  clear P0_38
  have BO0_50 := Lib.hid (bt BO0_39.out b8)
  clear BO0_39
  have Q0_51 := Lib.hid (Q0_40.out.keeps b8)
  clear Q0_40
  have P1_52 := Lib.hid (P1_41.out.keeps b8)
  clear P1_41
  have BO1_53 := Lib.hid (bt BO1_42.out b8)
  clear BO1_42
  have Q1_54 := Lib.hid (Q1_43.out.keeps b8)
  clear Q1_43
  have P2_55 := Lib.hid (P2_44.out.keeps b8)
  clear P2_44
  have BO2_56 := Lib.hid (bt BO2_0.out b8)
  clear BO2_0
  have Q2_57 := Lib.hid (o8)
  clear b8 o8
  clear d0 d1 RS
  obtain ⟨d0, d1⟩ := CE.out _ BK_46.out
  go_wp2_with fail
  refine (CM.out _ _ V_47.out).mono ?_
  rintro e w9 ⟨u9, rfl, o9, b9⟩
  have S9 := Lib.hid b9.size
  have OW3 := Lib.hid o9
  have B_58 := Lib.hid (bt B_45.out b9)
  clear B_45
  have BK_59 := Lib.hid (bt BK_46.out b9)
  clear BK_46
  have V_60 := Lib.hid (V_47.out.keeps b9)
  clear V_47
  have BZ_61 := Lib.hid (bt BZ_48.out b9)
  clear BZ_48
  have P0_62 := Lib.hid (P0_49.out.keeps b9)
  clear P0_49
  have BO0_63 := Lib.hid (bt BO0_50.out b9)
  clear BO0_50
  have Q0_64 := Lib.hid (Q0_51.out.keeps b9)
  clear Q0_51
  have P1_65 := Lib.hid (P1_52.out.keeps b9)
  clear P1_52
  have BO1_66 := Lib.hid (bt BO1_53.out b9)
  clear BO1_53
  have Q1_67 := Lib.hid (Q1_54.out.keeps b9)
  clear Q1_54
  have P2_68 := Lib.hid (P2_55.out.keeps b9)
  clear P2_55
  have BO2_69 := Lib.hid (bt BO2_56.out b9)
  clear BO2_56
  have Q2_70 := Lib.hid (Q2_57.out.keeps b9)
  clear Q2_57
  have P3_71 := Lib.hid (o9.opl)
  clear b9 o9
  clear d0 d1 CM
  have BO3_0 : Hid (Below w9.heap.size w9 w9) := Below.refl _ _
  obtain ⟨d0, d1⟩ := CE.out _ BK_59.out
  go_wp2_with fail
  refine (RM.out _ B_58.out).mono ?_
  rintro e w10 ⟨u10, rfl, o10, b10⟩
  have S10 := Lib.hid b10.size
  have B_72 := Lib.hid (bt B_58.out b10)
  clear B_58
  have BK_73 := Lib.hid (bt BK_59.out b10)
  clear BK_59
  have V_74 := Lib.hid (V_60.out.keeps b10)
  clear V_60
  have BZ_75 := Lib.hid (bt BZ_61.out b10)
  clear BZ_61
  have P0_76 := Lib.hid (P0_62.out.keeps b10)
  clear P0_62
  have BO0_77 := Lib.hid (bt BO0_63.out b10)
  clear BO0_63
  have Q0_78 := Lib.hid (Q0_64.out.keeps b10)
  clear Q0_64
  have P1_79 := Lib.hid (P1_65.out.keeps b10)
  clear P1_65
  have BO1_80 := Lib.hid (bt BO1_66.out b10)
  clear BO1_66
  have Q1_81 := Lib.hid (Q1_67.out.keeps b10)
  clear Q1_67
  have P2_82 := Lib.hid (P2_68.out.keeps b10)
  clear P2_68
  have BO2_83 := Lib.hid (bt BO2_69.out b10)
  clear BO2_69
  have Q2_84 := Lib.hid (Q2_70.out.keeps b10)
  clear Q2_70
  have P3_85 := Lib.hid (P3_71.out.keeps b10)
  clear P3_71
  have BO3_86 := Lib.hid (bt BO3_0.out b10)
  clear BO3_0
  have Q3_87 := Lib.hid (o10)
  clear b10 o10
  clear d0 d1 RM
  clear CE
  go_wp2_with fail
  refine (SA.out _ _ _ _ P0_76.out Q0_78.out).mono ?_
  rintro e w11 ⟨rfl, b11⟩
  have B_88 := Lib.hid (bt B_72.out b11)
  clear B_72
  have BK_89 := Lib.hid (bt BK_73.out b11)
  clear BK_73
  have V_90 := Lib.hid (V_74.out.keeps b11)
  clear V_74
  have BZ_91 := Lib.hid (bt BZ_75.out b11)
  clear BZ_75
  have P0_92 := Lib.hid (P0_76.out.keeps b11)
  clear P0_76
  have BO0_93 := Lib.hid (bt BO0_77.out b11)
  clear BO0_77
  have Q0_94 := Lib.hid (Q0_78.out.keeps b11)
  clear Q0_78
  have P1_95 := Lib.hid (P1_79.out.keeps b11)
  clear P1_79
  have BO1_96 := Lib.hid (bt BO1_80.out b11)
  clear BO1_80
  have Q1_97 := Lib.hid (Q1_81.out.keeps b11)
  clear Q1_81
  have P2_98 := Lib.hid (P2_82.out.keeps b11)
  clear P2_82
  have BO2_99 := Lib.hid (bt BO2_83.out b11)
  clear BO2_83
  have Q2_100 := Lib.hid (Q2_84.out.keeps b11)
  clear Q2_84
  have P3_101 := Lib.hid (P3_85.out.keeps b11)
  clear P3_85
  have BO3_102 := Lib.hid (bt BO3_86.out b11)
  clear BO3_86
  have Q3_103 := Lib.hid (Q3_87.out.keeps b11)
  clear Q3_87
  clear b11
  clear P0_92 Q0_94
  go_wp2_with fail
  refine (SA.out _ _ _ _ P1_95.out Q1_97.out).mono ?_
  rintro e w12 ⟨rfl, b12⟩
  have B_104 := Lib.hid (bt B_88.out b12)
  clear B_88
  have BK_105 := Lib.hid (bt BK_89.out b12)
  clear BK_89
  have V_106 := Lib.hid (V_90.out.keeps b12)
  clear V_90
  have BZ_107 := Lib.hid (bt BZ_91.out b12)
  clear BZ_91
  have BO0_108 := Lib.hid (bt BO0_93.out b12)
  clear BO0_93
  have P1_109 := Lib.hid (P1_95.out.keeps b12)
  clear P1_95
  have BO1_110 := Lib.hid (bt BO1_96.out b12)
  clear BO1_96
  have Q1_111 := Lib.hid (Q1_97.out.keeps b12)
  clear Q1_97
  have P2_112 := Lib.hid (P2_98.out.keeps b12)
  clear P2_98
  have BO2_113 := Lib.hid (bt BO2_99.out b12)
  clear BO2_99
  have Q2_114 := Lib.hid (Q2_100.out.keeps b12)
  clear Q2_100
  have P3_115 := Lib.hid (P3_101.out.keeps b12)
  clear P3_101
  have BO3_116 := Lib.hid (bt BO3_102.out b12)
  clear BO3_102
  have Q3_117 := Lib.hid (Q3_103.out.keeps b12)
  clear Q3_103
  clear b12
  clear P1_109 Q1_111
  go_wp2_with fail
  refine (SA.out _ _ _ _ P2_112.out Q2_114.out).mono ?_
  rintro e w13 ⟨rfl, b13⟩
  have B_118 := Lib.hid (bt B_104.out b13)
  clear B_104
  have BK_119 := Lib.hid (bt BK_105.out b13)
  clear BK_105
  have V_120 := Lib.hid (V_106.out.keeps b13)
  clear V_106
  have BZ_121 := Lib.hid (bt BZ_107.out b13)
  clear BZ_107
  have BO0_122 := Lib.hid (bt BO0_108.out b13)
  clear BO0_108
  have BO1_123 := Lib.hid (bt BO1_110.out b13)
  clear BO1_110
  have P2_124 := Lib.hid (P2_112.out.keeps b13)
  clear P2_112
  have BO2_125 := Lib.hid (bt BO2_113.out b13)
  clear BO2_113
  have Q2_126 := Lib.hid (Q2_114.out.keeps b13)
  clear Q2_114
  have P3_127 := Lib.hid (P3_115.out.keeps b13)
  clear P3_115
  have BO3_128 := Lib.hid (bt BO3_116.out b13)
  clear BO3_116
  have Q3_129 := Lib.hid (Q3_117.out.keeps b13)
  clear Q3_117
  clear b13
  clear P2_124 Q2_126
  go_wp2_with fail
  refine (SA.out _ _ _ _ P3_127.out Q3_129.out).mono ?_
  rintro e w14 ⟨rfl, b14⟩
  have B_130 := Lib.hid (bt B_118.out b14)
  clear B_118
  have BK_131 := Lib.hid (bt BK_119.out b14)
  clear BK_119
  have V_132 := Lib.hid (V_120.out.keeps b14)
  clear V_120
  have BZ_133 := Lib.hid (bt BZ_121.out b14)
  clear BZ_121
  have BO0_134 := Lib.hid (bt BO0_122.out b14)
  clear BO0_122
  have BO1_135 := Lib.hid (bt BO1_123.out b14)
  clear BO1_123
  have BO2_136 := Lib.hid (bt BO2_125.out b14)
  clear BO2_125
  have P3_137 := Lib.hid (P3_127.out.keeps b14)
  clear P3_127
  have BO3_138 := Lib.hid (bt BO3_128.out b14)
  clear BO3_128
  have Q3_139 := Lib.hid (Q3_129.out.keeps b14)
  clear Q3_129
  clear b14
  clear P3_137 Q3_139
  clear SA
  have Z0 := Lib.hid (spl_of OW0.out BO0_134.out)
  have Z1 := Lib.hid (spl_of OW1.out BO1_135.out)
  have Z2 := Lib.hid (spl_of OW2.out BO2_136.out)
  have Z3 := Lib.hid (spl_of OW3.out BO3_138.out)
  have ZZ : Hid (w3.heap.size ≤ w4.heap.size ∧ w3.heap.size ≤ w6.heap.size ∧ w3.heap.size ≤ w8.heap.size ∧ w5.heap.size ≤ w6.heap.size ∧ w5.heap.size ≤ w8.heap.size ∧ w7.heap.size ≤ w8.heap.size ∧ w2.heap.size ≤ w4.heap.size ∧ w2.heap.size ≤ w6.heap.size ∧ w2.heap.size ≤ w8.heap.size) := by
    have z3 := S3.out
    have z4 := S4.out
    have z5 := S5.out
    have z6 := S6.out
    have z7 := S7.out
    have z8 := S8.out
    unfold Hid
    omega
  obtain ⟨k34, k36, k38, k56, k58, k78, k24, k26, k28⟩ := ZZ.out
  have K34 := Lib.hid k34
  have K36 := Lib.hid k36
  have K38 := Lib.hid k38
  have K56 := Lib.hid k56
  have K58 := Lib.hid k58
  have K78 := Lib.hid k78
  have K24 := Lib.hid k24
  have K26 := Lib.hid k26
  have K28 := Lib.hid k28
  have X0 := Lib.hid BZ_133.out
  clear k34 k36 k38 k56 k58 k78 k24 k26 k28 ZZ S2 S3 S4 S5 S6 S7 S8 S9 S10 OW0 OW1 OW2 OW3 BK_131 BO0_134 BO1_135 BO2_136 BO3_138 BZ_133 B_130 V_132
  go_wp2_with fail
  refine (SP.out _ _ _ _ _ Z0.out).mono ?_
  rintro e x1 ⟨rfl, s1⟩
  have Y1 := Lib.hid (Z1.out.sand s1 K34.out)
  have Y2 := Lib.hid (Z2.out.sand s1 K36.out)
  have Y3 := Lib.hid (Z3.out.sand s1 K38.out)
  have X1 := Lib.hid (X0.out.trans s1.1)
  clear s1 Z0 Z1 Z2 Z3 X0
  go_wp2_with fail
  refine (SP.out _ _ _ _ _ Y1.out).mono ?_
  rintro e x2 ⟨rfl, s1⟩
  have Z2 := Lib.hid (Y2.out.sand s1 K56.out)
  have Z3 := Lib.hid (Y3.out.sand s1 K58.out)
  have X2 := Lib.hid (X1.out.trans (s1.1.mono K24.out))
  clear s1 Y1 Y2 Y3 X1
  go_wp2_with fail
  refine (SP.out _ _ _ _ _ Z2.out).mono ?_
  rintro e x3 ⟨rfl, s1⟩
  have Y3 := Lib.hid (Z3.out.sand s1 K78.out)
  have X3 := Lib.hid (X2.out.trans (s1.1.mono K26.out))
  clear s1 Z2 Z3 X2
  go_wp2_with fail
  refine (SP.out _ _ _ _ _ Y3.out).mono ?_
  rintro e x4 ⟨rfl, s1⟩
  have X4 := Lib.hid (X3.out.trans (s1.1.mono K28.out))
  clear s1 Y3 X3
  have BF := Lib.hid (bt B2.out X4.out)
  have X5 := Lib.hid (SB.out _ _ (V2.out.keeps X4.out) BF.out)
  clear SB V2 X4 B2
  go_wp2_with fail
  refine X5.out.mono ?_
  rintro e wz ⟨rfl, bz⟩
  have BE := Lib.hid (bt BF.out bz)
  clear bz
  go_wp2
  go_ret
  exact ⟨rfl, BE.out⟩
end Go.Proofs.YtgjbnbojjgbmcaaGreat.Edits

namespace Go.Proofs.YtgjbnbojjgbmcaaGreat
open Go Go.ChangeShapes Go.WideShapes Go.ChangeAt Go.RowKit
section
variable {H : Type} {enc : TypeId × Value → H} {P : Program} {w : World} {base : Nat} {spare : Nat → Bool} {held : Bool}
theorem trodAll_seven {t0 t1 t2 t3 t4 t5 t6 : TypeId} {args : Array Value} {ds : List (DataW H)} {ps : List MemPlace} (h : DataW.TrodAll enc P w base spare held [t0, t1, t2, t3, t4, t5, t6] args.toList ds ps) :
    ∃ v0 v1 v2 v3 v4 v5 v6 d0 d1 d2 d3 d4 d5 d6 p0 p1 p2 p3 p4 p5 p6, args = #[v0, v1, v2, v3, v4, v5, v6] ∧ ds = [d0, d1, d2, d3, d4, d5, d6] ∧ ps = p0 ++ p1 ++ p2 ++ p3 ++ p4 ++ p5 ++ p6 ∧ DataW.Trod enc P w base spare held t0 v0 d0 p0 ∧ DataW.Trod enc P w base spare held t1 v1 d1 p1 ∧ DataW.Trod enc P w base spare held t2 v2 d2 p2 ∧ DataW.Trod enc P w base spare held t3 v3 d3 p3 ∧ DataW.Trod enc P w base spare held t4 v4 d4 p4 ∧ DataW.Trod enc P w base spare held t5 v5 d5 p5 ∧ DataW.Trod enc P w base spare held t6 v6 d6 p6 := by
  obtain ⟨v0, vs0, d0, ds0, p0, q0, hargs, rfl, rfl, h0, k0⟩ := trodAll_cons h
  obtain ⟨v1, vs1, d1, ds1, p1, q1, rfl, rfl, rfl, h1, k1⟩ := trodAll_cons k0
  obtain ⟨v2, vs2, d2, ds2, p2, q2, rfl, rfl, rfl, h2, k2⟩ := trodAll_cons k1
  obtain ⟨v3, vs3, d3, ds3, p3, q3, rfl, rfl, rfl, h3, k3⟩ := trodAll_cons k2
  obtain ⟨v4, vs4, d4, ds4, p4, q4, rfl, rfl, rfl, h4, k4⟩ := trodAll_cons k3
  obtain ⟨v5, vs5, d5, ds5, p5, q5, rfl, rfl, rfl, h5, k5⟩ := trodAll_cons k4
  obtain ⟨v6, vs6, d6, ds6, p6, q6, rfl, rfl, rfl, h6, k6⟩ := trodAll_cons k5
  obtain ⟨rfl, rfl, rfl⟩ := trodAll_nil k6
  exact ⟨v0, v1, v2, v3, v4, v5, v6, d0, d1, d2, d3, d4, d5, d6, p0, p1, p2, p3, p4, p5, p6, by cases args; simp_all, rfl, by simp, h0, h1, h2, h3, h4, h5, h6⟩
theorem trodAll_mk7 {t0 t1 t2 t3 t4 t5 t6 : TypeId} {v0 v1 v2 v3 v4 v5 v6 : Value} {d0 d1 d2 d3 d4 d5 d6 : DataW H} {p0 p1 p2 p3 p4 p5 p6 : List MemPlace} (h0 : DataW.Trod enc P w base spare held t0 v0 d0 p0) (h1 : DataW.Trod enc P w base spare held t1 v1 d1 p1) (h2 : DataW.Trod enc P w base spare held t2 v2 d2 p2) (h3 : DataW.Trod enc P w base spare held t3 v3 d3 p3) (h4 : DataW.Trod enc P w base spare held t4 v4 d4 p4) (h5 : DataW.Trod enc P w base spare held t5 v5 d5 p5) (h6 : DataW.Trod enc P w base spare held t6 v6 d6 p6) :
    DataW.TrodAll enc P w base spare held [t0, t1, t2, t3, t4, t5, t6] [v0, v1, v2, v3, v4, v5, v6] [d0, d1, d2, d3, d4, d5, d6] (p0 ++ (p1 ++ (p2 ++ (p3 ++ (p4 ++ (p5 ++ (p6))))))) := ⟨p0, p1 ++ (p2 ++ (p3 ++ (p4 ++ (p5 ++ (p6))))), h0, trodAll_mk6 h1 h2 h3 h4 h5 h6, rfl⟩
end
end Go.Proofs.YtgjbnbojjgbmcaaGreat
