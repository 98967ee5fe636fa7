/- ViewEqual answers true, and changes nothing that was there. Conditions: none. -/
import Derived.Test.YtohiidgdpecbdaaGreatChecked
import Derived.WalkKit
import Derived.WalkSpells
import Derived.WalkLawsBesides
import Derived.Laws.BytesArg
import Derived.Lib.Hide
import Derived.Deep.LoopGhost
import Derived.Laws.AppendOwnNone
import Derived.Laws.OwnMore
import Derived.WideShapes
import Derived.Maps.AppendAt
import Derived.RegionTactic
import Derived.Deep.RegionHeld3
import Derived.Deep.DrawnRows
import Derived.Deep.QuietTactic
import Derived.BigQuiet
import Derived.IntWalk
import Derived.Deep.DeepCutAuto
import Derived.ScopeJumps
import Derived.Test.YtohiidgdpecbdaaGreatProg
import Derived.LoopTactic
import Derived.Laws.EntriesVeiled
import Derived.RowKit
import Derived.Lib.DecodeN
import Derived.Lib.RuneBytes
import Derived.Maps.Own
import Derived.Maps.OwnOps
import Derived.Maps.OwnSet
import Derived.Maps.Views
import Derived.DeepKeys4
import Derived.Shelf.SlSortCmp.InsertionK
import Derived.Calls
import Derived.StepT
import Derived.Below
import Derived.Sort.Grow
import Derived.Deep.Draws
import Derived.Shelf.SlLaysF0
import Derived.Shelf.SlSortCmp.NoneTotal
import Derived.Scope
import Derived.Shelf.Abstract
import Derived.RangeFuncBox
import Derived.RangeFuncLeaves
import Derived.RangeFuncNested
import Derived.RangeFuncBound
import Derived.RangeFuncCalls
import Derived.OwnWalkIn
import Derived.TacticsInMore
import Derived.LoopNIn
import Derived.LoopIn
import Derived.Lib.Tables
import Derived.Laws.Bits64
import Derived.Test.YtohiidgdpecbdaaGreatShelf
import Derived.Lib.OthersKept
import Derived.BigCall
import Derived.Laws.CopyOwn
import Derived.Deep.AppendSrc
import Derived.Lib.AppendZeros
import Derived.Laws.MakeOwn
import Derived.Lib.AppendZerosOnto
import Derived.Laws.NewBlocks
import Derived.Deep.RegionLaw
import Derived.Test.YtohiidgdpecbdaaGreatPk17
import Derived.Test.YtohiidgdpecbdaaGreatPk09
import Derived.Test.YtohiidgdpecbdaaGreatPk06
import Derived.Test.YtohiidgdpecbdaaGreatPk05
import Derived.Test.YtohiidgdpecbdaaGreatPk10
import Derived.Test.YtohiidgdpecbdaaGreatPk04
import Derived.Test.YtohiidgdpecbdaaGreatPk03
import Derived.Test.YtohiidgdpecbdaaGreatPk02
import Derived.Test.YtohiidgdpecbdaaGreatPk01
import Derived.Test.YtohiidgdpecbdaaGreatPk16
import Derived.Test.YtohiidgdpecbdaaGreatPk07
import Derived.Test.YtohiidgdpecbdaaGreatPk08
import Derived.Test.YtohiidgdpecbdaaGreatPk11
import Derived.Test.YtohiidgdpecbdaaGreatPk12
import Derived.Test.YtohiidgdpecbdaaGreatPk13
import Derived.Test.YtohiidgdpecbdaaGreatPk14
import Derived.Test.YtohiidgdpecbdaaGreatPk15

namespace Go.Proofs.YtohiidgdpecbdaaGreat.Views
open Go.RowKit Go.WideShapes Stamp Go.Proofs.YtohiidgdpecbdaaGreat.Place Ops Codes Bags Marks Homes Covers
attribute [local go_sem ↓] Go.wp_at_zero Go.wp_at_succ
attribute [local go_sem] yielded_undef
theorem equal_facts {l m : List Opn} {a : Id} (h1 : spanE l a = 0) (h2 : spanE m a = 0) (h3 : Alike l m) (h4 : versionL l a = versionL m a) : elmL m a = elmL l a ∧ textL m a = textL l a := by
  have := elm_equal h1 h2 h3 h4
  exact ⟨this.symm, by unfold textL; rw [this]⟩
set_option maxRecDepth 100000 in
set_option maxHeartbeats 16000000 in
theorem equal_walk {l m : List Opn} {ao0 ao1 : Option Addr} {cap0 cap1 : Nat} (a : Id) {w : World} (hr0 : OpL w (.slice ao0 l.length cap0) l) (hr1 : OpL w (.slice ao1 m.length cap1) m) :
    Calls Tryz.prog 4 #[.slice ao0 l.length cap0, .slice ao1 m.length cap1, .agg #[.int .u32 (a.t : Int), .int .u8 (a.r : Int)]] w fun e w' => e = .returned (.bool true) ∧ Below w.heap.size w w' := by
  have HV : Hid (∀ W : World, Below w.heap.size w W → OpL W (.slice ao0 l.length cap0) l) := fun W h => hr0.keeps h
  have HU : Hid (∀ W : World, Below w.heap.size w W → OpL W (.slice ao1 m.length cap1) m) := fun W h => hr1.keeps h
  have AV := Lib.hid alive15_any
  have GA : Hid (∀ W : World, Below w.heap.size w W → Calls Tryz.prog 5 #[.slice ao0 l.length cap0, .int .i64 40] W fun e w' => GrtO l 40 e ∧ W = w') := fun W h => greatO_any (HV.out W h)
  have GB : Hid (∀ W : World, Below w.heap.size w W → Calls Tryz.prog 5 #[.slice ao1 m.length cap1, .int .i64 40] W fun e w' => GrtO m 40 e ∧ W = w') := fun W h => greatO_any (HU.out W h)
  have hgr : ∀ {L : List Opn} {e : Ending}, GrtO L 40 e → ∃ g, e = .returned (.bool g) := fun ⟨g, h1, h2⟩ => ⟨g, h1⟩
  have AK : Hid (∀ W : World, Below w.heap.size w W → Calls Tryz.prog 19 #[.slice ao0 l.length cap0, .slice ao1 m.length cap1] W fun e w' => Alk l m e ∧ Below W.heap.size W w') := fun W h => alike_any (HV.out W h) (HU.out W h)
  have VA : Hid (∀ W : World, Below w.heap.size w W → Calls Tryz.prog 20 #[.slice ao0 l.length cap0, .agg #[.int .u32 (a.t : Int), .int .u8 (a.r : Int)]] W (Bags.DoneC (versionL l a) (spanE l a) W)) := fun W h => cVersion_any a (HV.out W h)
  have VB : Hid (∀ W : World, Below w.heap.size w W → Calls Tryz.prog 20 #[.slice ao1 m.length cap1, .agg #[.int .u32 (a.t : Int), .int .u8 (a.r : Int)]] W (Bags.DoneC (versionL m a) (spanE m a) W)) := fun W h => cVersion_any a (HU.out W h)
  have CS : Hid (∀ (W : World) (u v : Value), Tms W u (versionL l a) → Tms W v (versionL m a) → Calls Tryz.prog 21 #[u, v] W fun e w' => e = .returned (.bool (decide (versionL l a = versionL m a))) ∧ Below W.heap.size W w') := fun W u v h h2 => Clocks.cSame_any h h2
  have EA : Hid (∀ W : World, Below w.heap.size w W → Calls Tryz.prog 7 #[.slice ao0 l.length cap0, .agg #[.int .u32 (a.t : Int), .int .u8 (a.r : Int)]] W (DoneOE (elmL l a) (spanE l a) W)) := fun W h => vElements_any a (HV.out W h)
  have EB : Hid (∀ W : World, Below w.heap.size w W → Calls Tryz.prog 7 #[.slice ao1 m.length cap1, .agg #[.int .u32 (a.t : Int), .int .u8 (a.r : Int)]] W (DoneOE (elmL m a) (spanE m a) W)) := fun W h => vElements_any a (HU.out W h)
  have TA : Hid (∀ W : World, Below w.heap.size w W → Calls Tryz.prog 9 #[.slice ao0 l.length cap0, .agg #[.int .u32 (a.t : Int), .int .u8 (a.r : Int)]] W fun e w' => e = .returned (.tuple #[.string (str (textL l a)), .int .i64 (spanE l a)]) ∧ Below W.heap.size W w') := fun W h => vText_any a (HV.out W h)
  have TB : Hid (∀ W : World, Below w.heap.size w W → Calls Tryz.prog 9 #[.slice ao1 m.length cap1, .agg #[.int .u32 (a.t : Int), .int .u8 (a.r : Int)]] W fun e w' => e = .returned (.tuple #[.string (str (textL m a)), .int .i64 (spanE m a)]) ∧ Below W.heap.size W w') := fun W h => vText_any a (HU.out W h)
  have SA : Hid (∀ (W : World) (u v : Value) (c : List Opn), ElL W u c → ElL W v c → Calls Tryz.prog 15 #[u, v] W fun e w' => e = .returned (.bool true) ∧ Below W.heap.size W w') := fun W u v c h h2 => refSameAll_yes h h2
  have EQ : Hid (spanE l a = 0 → spanE m a = 0 → Alike l m → versionL l a = versionL m a → elmL m a = elmL l a ∧ textL m a = textL l a) := fun h1 h2 h3 h4 => equal_facts h1 h2 h3 h4
  obtain ⟨n0, hn0⟩ : ∃ n, n = l.length := ⟨_, rfl⟩
  obtain ⟨n1, hn1⟩ : ∃ n, n = m.length := ⟨_, rfl⟩
  rw [← hn0] at GA AK VA EA TA ⊢
  rw [← hn1] at GB AK VB EB TB ⊢
  obtain ⟨E1, hE1⟩ : ∃ z, spanE l a = z := ⟨_, rfl⟩
  obtain ⟨E2, hE2⟩ : ∃ z, spanE m a = z := ⟨_, rfl⟩
  rw [hE1] at VA EA TA EQ
  rw [hE2] at VB EB TB EQ
  obtain ⟨V1, hV1⟩ : ∃ z, versionL l a = z := ⟨_, rfl⟩
  obtain ⟨V2, hV2⟩ : ∃ z, versionL m a = z := ⟨_, rfl⟩
  rw [hV1] at VA CS EQ
  rw [hV2] at VB CS EQ
  obtain ⟨L1, hL1⟩ : ∃ z, elmL l a = z := ⟨_, rfl⟩
  obtain ⟨L2, hL2⟩ : ∃ z, elmL m a = z := ⟨_, rfl⟩
  rw [hL1] at EA EQ
  rw [hL2] at EB EQ
  obtain ⟨X1, hX1⟩ : ∃ z, textL l a = z := ⟨_, rfl⟩
  obtain ⟨X2, hX2⟩ : ∃ z, textL m a = z := ⟨_, rfl⟩
  rw [hX1] at TA EQ
  rw [hX2] at TB EQ
  obtain ⟨q, hq⟩ : ∃ z, decide (V1 = V2) = z := ⟨_, rfl⟩
  rw [hq] at CS
  obtain ⟨s, hs⟩ : ∃ z, a.t = z := ⟨_, rfl⟩
  obtain ⟨b, hb⟩ : ∃ z, a.r = z := ⟨_, rfl⟩
  rw [hs, hb] at VA VB EA EB TA TB ⊢
  have HQ : Hid (q = true → V1 = V2) := fun h => by rw [h] at hq; exact of_decide_eq_true hq
  have B_0 : Hid (Below w.heap.size w (w.alloc (.cells #[.int .u32 (s : Int), .int .u8 (b : Int)] 25))) := (Below.refl _ _).alloc (Nat.le_refl _) _
  have CE : Hid (∀ W : World, Below (w.alloc (.cells #[.int .u32 (s : Int), .int .u8 (b : Int)] 25)).heap.size (w.alloc (.cells #[.int .u32 (s : Int), .int .u8 (b : Int)] 25)) W → W.cell? ⟨w.heap.size, 0, none⟩ = some (.int .u32 (s : Int)) ∧ W.cell? ⟨w.heap.size, 1, none⟩ = some (.int .u8 (b : Int))) := fun W h => by
    have g2 := cells_blk (blk_below h (blk_new rfl))
    exact ⟨g2.1, g2.2.1⟩
  have BK_0 : Hid (Below (w.alloc (.cells #[.int .u32 (s : Int), .int .u8 (b : Int)] 25)).heap.size (w.alloc (.cells #[.int .u32 (s : Int), .int .u8 (b : Int)] 25)) (w.alloc (.cells #[.int .u32 (s : Int), .int .u8 (b : Int)] 25))) := Below.refl _ _
  clear hr0 hr1 hn0 hn1 hs hb hE1 hE2 hV1 hV2 hL1 hL2 hX1 hX2 hq HV HU
  go_enter Tryz.func4, Tryz.ntmps4
  go_wp2_with fail
  refine (AV.out _).mono ?_
  rintro e w1 ⟨rfl, b1⟩
  have B_1 := Lib.hid (bt B_0.out b1)
  clear B_0
  have BK_2 := Lib.hid (bt BK_0.out b1)
  clear BK_0
  clear b1
  clear AV
  go_wp2_with fail
  refine (GA.out _ B_1.out).mono ?_
  rintro e w2 ⟨hg, rfl⟩
  obtain ⟨g2, rfl⟩ := hgr hg
  clear hg GA
  cases g2
  rotate_left
  · go_wp2
    go_ret
    exact ⟨rfl, B_1.out⟩
  go_wp2_with fail
  refine (GB.out _ B_1.out).mono ?_
  rintro e w3 ⟨hg, rfl⟩
  obtain ⟨g3, rfl⟩ := hgr hg
  clear hg GB
  cases g3
  rotate_left
  · go_wp2
    go_ret
    exact ⟨rfl, B_1.out⟩
  go_wp2_with fail
  refine (AK.out _ B_1.out).mono ?_
  rintro e w4 ⟨⟨x4, rfl, hx4⟩, b4⟩
  have HA := Lib.hid hx4
  have B_3 := Lib.hid (bt B_1.out b4)
  clear B_1
  have BK_4 := Lib.hid (bt BK_2.out b4)
  clear BK_2
  clear b4 hx4
  clear AK hgr
  cases x4
  · go_wp2
    go_ret
    exact ⟨rfl, B_3.out⟩
  have HAL := Lib.hid (HA.out (by first | trivial | rfl))
  clear HA
  obtain ⟨d0, d1⟩ := CE.out _ BK_4.out
  go_wp2_with fail
  refine (VA.out _ B_3.out).mono ?_
  rintro e w5 ⟨vx, rfl, o5, b5⟩
  have B_5 := Lib.hid (bt B_3.out b5)
  clear B_3
  have BK_6 := Lib.hid (bt BK_4.out b5)
  clear BK_4
  have X_7 := Lib.hid (o5.tms)
  clear b5 o5
  clear d0 d1 VA
  obtain ⟨d0, d1⟩ := CE.out _ BK_6.out
  go_wp2_with fail
  refine (VB.out _ B_5.out).mono ?_
  rintro e w6 ⟨vy, rfl, o6, b6⟩
  have B_8 := Lib.hid (bt B_5.out b6)
  clear B_5
  have BK_9 := Lib.hid (bt BK_6.out b6)
  clear BK_6
  have X_10 := Lib.hid (X_7.out.keeps b6)
  clear X_7
  have Y_11 := Lib.hid (o6.tms)
  clear b6 o6
  clear d0 d1 VB
  by_cases hE1 : E1 = 0
  rotate_left
  · have q1 : (E1 == 0) = false := by simpa using hE1
    have q2 : decide (E1 = 0) = false := decide_eq_false hE1
    clear EQ HAL HQ EA EB TA TB SA CS
    go_wp2
    go_ret
    exact ⟨rfl, B_8.out⟩
  subst hE1
  by_cases hE2 : E2 = 0
  rotate_left
  · have q1 : (E2 == 0) = false := by simpa using hE2
    have q2 : decide (E2 = 0) = false := decide_eq_false hE2
    clear EQ HAL HQ EA EB TA TB SA CS
    go_wp2
    go_ret
    exact ⟨rfl, B_8.out⟩
  subst hE2
  go_wp2_with fail
  refine (CS.out _ _ _ X_10.out Y_11.out).mono ?_
  rintro e w7 ⟨rfl, b7⟩
  have B_12 := Lib.hid (bt B_8.out b7)
  clear B_8
  have BK_13 := Lib.hid (bt BK_9.out b7)
  clear BK_9
  have X_14 := Lib.hid (X_10.out.keeps b7)
  clear X_10
  have Y_15 := Lib.hid (Y_11.out.keeps b7)
  clear Y_11
  clear b7
  clear X_14 Y_15
  clear CS
  cases q
  · go_wp2
    go_ret
    exact ⟨rfl, B_12.out⟩
  have hv := HQ.out (by first | trivial | rfl)
  obtain ⟨q1, q2⟩ := EQ.out (by first | trivial | rfl) (by first | trivial | rfl) HAL.out hv
  obtain rfl := q1
  obtain rfl := q2
  clear EQ HQ HAL hv
  obtain ⟨TX, hTX⟩ : ∃ z, str X2 = z := ⟨_, rfl⟩
  rw [hTX] at TA TB
  have e6 : (TX.toList == TX.toList) = true := by simp
  clear hTX
  obtain ⟨d0, d1⟩ := CE.out _ BK_13.out
  go_wp2_with fail
  refine (EA.out _ B_12.out).mono ?_
  rintro e w8 ⟨ve, rfl, o8, b8⟩
  have B_16 := Lib.hid (bt B_12.out b8)
  clear B_12
  have BK_17 := Lib.hid (bt BK_13.out b8)
  clear BK_13
  have I_18 := Lib.hid (o8.el)
  clear b8 o8
  clear d0 d1 EA
  obtain ⟨d0, d1⟩ := CE.out _ BK_17.out
  go_wp2_with fail
  refine (EB.out _ B_16.out).mono ?_
  rintro e w9 ⟨vf, rfl, o9, b9⟩
  have B_19 := Lib.hid (bt B_16.out b9)
  clear B_16
  have BK_20 := Lib.hid (bt BK_17.out b9)
  clear BK_17
  have I_21 := Lib.hid (I_18.out.keeps b9)
  clear I_18
  have J_22 := Lib.hid (o9.el)
  clear b9 o9
  clear d0 d1 EB
  obtain ⟨d0, d1⟩ := CE.out _ BK_20.out
  go_wp2_with fail
  refine (TA.out _ B_19.out).mono ?_
  rintro e w10 ⟨rfl, b10⟩
  have B_23 := Lib.hid (bt B_19.out b10)
  clear B_19
  have BK_24 := Lib.hid (bt BK_20.out b10)
  clear BK_20
  have I_25 := Lib.hid (I_21.out.keeps b10)
  clear I_21
  have J_26 := Lib.hid (J_22.out.keeps b10)
  clear J_22
  clear b10
  clear d0 d1 TA
  obtain ⟨d0, d1⟩ := CE.out _ BK_24.out
  go_wp2_with fail
  refine (TB.out _ B_23.out).mono ?_
  rintro e w11 ⟨rfl, b11⟩
  have B_27 := Lib.hid (bt B_23.out b11)
  clear B_23
  have BK_28 := Lib.hid (bt BK_24.out b11)
  clear BK_24
  have I_29 := Lib.hid (I_25.out.keeps b11)
  clear I_25
  have J_30 := Lib.hid (J_26.out.keeps b11)
  clear J_26
  clear b11
  clear d0 d1 TB CE
  go_wp2_with fail
  refine (SA.out _ _ _ _ I_29.out J_30.out).mono ?_
  rintro e w12 ⟨rfl, b12⟩
  have B_31 := Lib.hid (bt B_27.out b12)
  clear B_27
  have BK_32 := Lib.hid (bt BK_28.out b12)
  clear BK_28
  have I_33 := Lib.hid (I_29.out.keeps b12)
  clear I_29
  have J_34 := Lib.hid (J_30.out.keeps b12)
  clear J_30
  clear b12
  clear I_33 J_34
  go_wp2
  go_ret
  exact ⟨rfl, B_31.out⟩
end Go.Proofs.YtohiidgdpecbdaaGreat.Views
