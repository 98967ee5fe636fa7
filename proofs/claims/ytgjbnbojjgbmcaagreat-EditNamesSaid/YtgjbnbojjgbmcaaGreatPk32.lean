/- Slices of bytes: what a slice value reads as, in a world; rows that a call has made. Conditions: none. append on slices of bytes: a row of the call's own, and a source that reads as bytes. Conditions: none. octavolaw16.one, alive: what each answers. Conditions: none. EditNames answers true. Conditions: none. -/
import Derived.Test.YtgjbnbojjgbmcaaGreatChecked
import Derived.WalkKit
import Derived.WalkSpells
import Derived.WalkLawsBesides
import Derived.Laws.BytesArg
import Derived.Lib.Hide
import Derived.Deep.LoopGhost
import Derived.Laws.AppendOwnNone
import Derived.WideShapes
import Derived.Laws.OwnMore
import Derived.Maps.AppendAt
import Derived.RegionTactic
import Derived.Deep.RegionHeld3
import Derived.Deep.DrawnRows
import Derived.Deep.QuietTactic
import Derived.BigQuiet
import Derived.IntWalk
import Derived.Deep.DeepCutAuto
import Derived.ScopeJumps
import Derived.Test.YtgjbnbojjgbmcaaGreatProg
import Derived.LoopTactic
import Derived.Laws.EntriesVeiled
import Derived.RowKit
import Derived.Lib.DecodeN
import Derived.Lib.RuneBytes
import Derived.Maps.Own
import Derived.Maps.OwnOps
import Derived.Maps.OwnSet
import Derived.Maps.Views
import Derived.DeepKeys4
import Derived.Shelf.SlSortCmp.InsertionK
import Derived.Calls
import Derived.StepT
import Derived.Below
import Derived.Sort.Grow
import Derived.Deep.Draws
import Derived.Shelf.SlLaysF0
import Derived.Shelf.SlSortCmp.NoneTotal
import Derived.Scope
import Derived.Shelf.Abstract
import Derived.RangeFuncBox
import Derived.RangeFuncLeaves
import Derived.RangeFuncNested
import Derived.RangeFuncBound
import Derived.RangeFuncCalls
import Derived.OwnWalkIn
import Derived.TacticsInMore
import Derived.LoopNIn
import Derived.LoopIn
import Derived.Lib.Tables
import Derived.Laws.Bits64
import Derived.Test.YtgjbnbojjgbmcaaGreatShelf
import Derived.Lib.OthersKept
import Derived.BigCall
import Derived.Laws.CopyOwn
import Derived.Deep.AppendSrc
import Derived.Lib.AppendZeros
import Derived.Laws.MakeOwn
import Derived.Deep.RegionWith
import Derived.BigRegion
import Derived.Tactics
import Derived.Lib.AppendZerosOnto
import Derived.Laws.NewBlocks
import Derived.Deep.RegionLaw
import Derived.Test.YtgjbnbojjgbmcaaGreatRw
import Derived.Test.YtgjbnbojjgbmcaaGreatPk01
import Derived.Test.YtgjbnbojjgbmcaaGreatPk21
import Derived.Test.YtgjbnbojjgbmcaaGreatPk14
import Derived.Test.YtgjbnbojjgbmcaaGreatPk12
import Derived.Test.YtgjbnbojjgbmcaaGreatPk11
import Derived.Test.YtgjbnbojjgbmcaaGreatPk06
import Derived.Test.YtgjbnbojjgbmcaaGreatPk05
import Derived.Test.YtgjbnbojjgbmcaaGreatPk04
import Derived.Test.YtgjbnbojjgbmcaaGreatPk03
import Derived.Test.YtgjbnbojjgbmcaaGreatPk02
import Derived.Test.YtgjbnbojjgbmcaaGreatPk10
import Derived.Test.YtgjbnbojjgbmcaaGreatPk07
import Derived.Test.YtgjbnbojjgbmcaaGreatPk08
import Derived.Test.YtgjbnbojjgbmcaaGreatPk09
import Derived.Test.YtgjbnbojjgbmcaaGreatPk13

namespace Go.Proofs.YtgjbnbojjgbmcaaGreat
open Go.RowKit
theorem Reads.nil (w : World) : Reads w (.slice none 0 0) [] := ⟨by simp, none, 0, rfl, by simp, by simp, fun _ => rfl, .inl rfl⟩
/-- What lies below a number of blocks stays read, where these blocks stay. -/
def Lies (B : Nat) (v : Value) : Prop := ∀ b, v.ownBlock = some b → b < B
theorem Reads.lies {w : World} {v : Value} {xs : List UInt8} (h : Reads w v xs) (hne : xs ≠ []) : Lies w.heap.size v := by
  obtain ⟨_, ao, cap, rfl, _, _, _, h | ⟨b, off, rfl, hb, _⟩⟩ := h
  · exact absurd h hne
  · intro k hk; simp [Value.ownBlock] at hk; omega
theorem Reads.below {w w' : World} {v : Value} {xs : List UInt8} {B : Nat} (h : Reads w v xs) (hb : Below B w w') (hl : xs ≠ [] → Lies B v) : Reads w' v xs := by
  obtain ⟨h1, ao, cap, rfl, h2, h3, h4, h5⟩ := h
  refine ⟨h1, ao, cap, rfl, h2, h3, h4, ?_⟩
  rcases h5 with h5 | ⟨b, off, rfl, hlt, hc⟩
  · exact .inl h5
  · by_cases hx : xs = []
    · exact .inl hx
    · have hB : b < B := hl hx b rfl
      exact .inr ⟨b, off, rfl, Nat.lt_of_lt_of_le hlt hb.size, fun j hj => (hb.cell (p := ⟨b, off + j, none⟩) hB).trans (hc j hj)⟩
/-- A row of the call's own reads as its bytes. -/
theorem Reads.own {w : World} {base : Nat} {e : TypeId} {v : Value} {xs : List UInt8} (h : w.ownsRow base e 1 v xs.length (bs xs)) : Reads w v xs := by
  have hk := h
  obtain ⟨_, hcase⟩ := h
  rcases hcase with ⟨rfl, h0⟩ | ⟨g, cap, cur, rfl, hg, hh, hn, hcap, hsz, htake⟩
  · have : xs = [] := List.length_eq_zero_iff.1 h0
    subst this
    exact Reads.nil w
  · unfold maxLen at hcap
    refine ⟨by omega, some ⟨g, 0, none⟩, cap, rfl, hn, hcap, by simp, .inr ⟨g, 0, rfl, (Array.getElem?_eq_some_iff.1 hh).1, fun j hj => ?_⟩⟩
    rw [Nat.zero_add, hk.cellAt j (by rw [Nat.mul_one]; omega)]
    exact bs_get xs j hj
end Go.Proofs.YtgjbnbojjgbmcaaGreat

namespace Go.Proofs.YtgjbnbojjgbmcaaGreat
open Go.RowKit Go.WideShapes
theorem u8_info : (Tryz.prog.info? 5).map (fun i => (i.zero, i.size, i.bytes)) = some (some (.int .u8 0), 1, 1) := by kernel_rfl
end Go.Proofs.YtgjbnbojjgbmcaaGreat

namespace Go.Proofs.YtgjbnbojjgbmcaaGreat.Edits
open Go.RowKit Go.WideShapes Stamp Go.Proofs.YtgjbnbojjgbmcaaGreat.Place Ops Codes Bags Marks Homes Covers Views
attribute [local go_sem ↓] Go.wp_at_zero Go.wp_at_succ
attribute [local go_sem] yielded_undef
def oz : Opn := ⟨1, 6, 2, [⟨6, 2, 1, by decide, by decide, by decide⟩], 120, by decide, by decide, by decide, by decide⟩
def om : Opn := ⟨2, 6, 2, [⟨6, 2, 1, by decide, by decide, by decide⟩], 0, by decide, by decide, by decide, by decide⟩
end Go.Proofs.YtgjbnbojjgbmcaaGreat.Edits

namespace Go.Proofs.YtgjbnbojjgbmcaaGreat.Edits
open Go.RowKit Go.WideShapes Stamp Go.Proofs.YtgjbnbojjgbmcaaGreat.Place Ops Codes Bags Marks Homes Covers Views
attribute [local go_sem ↓] Go.wp_at_zero Go.wp_at_succ
attribute [local go_sem] yielded_undef
theorem I1_is : insL [] 2 5 z0 0 (Point.pr [120]).1 (Point.pr [120]).2 = [oz] ∧ insE [] 2 5 z0 0 (Point.pr [120]).1 (Point.pr [120]).2 = 0 := by decide +kernel
theorem I2_is : insL [o1] 2 5 z0 2 (Point.pr [120]).1 (Point.pr [120]).2 = [] ∧ insE [o1] 2 5 z0 2 (Point.pr [120]).1 (Point.pr [120]).2 = 2 := by decide +kernel
theorem I3_is : insL [o1] 2 5 z0 0 (Point.pr []).1 (Point.pr []).2 = [] ∧ insE [o1] 2 5 z0 0 (Point.pr []).1 (Point.pr []).2 = 2 := by decide +kernel
theorem I4_is : insL [o1] 2 0 z0 0 (Point.pr [120]).1 (Point.pr [120]).2 = [] ∧ insE [o1] 2 0 z0 0 (Point.pr [120]).1 (Point.pr [120]).2 = 8 := by decide +kernel
theorem I5_is : insL [o1] 2 1073741824 z0 0 (Point.pr [120]).1 (Point.pr [120]).2 = [] ∧ insE [o1] 2 1073741824 z0 0 (Point.pr [120]).1 (Point.pr [120]).2 = 50 := by decide +kernel
theorem S1_is : splL [o1] 2 5 z0 0 = [om] ∧ splE [o1] 2 5 z0 0 = 0 := by decide +kernel
theorem M1_is : merL [o1] 2 5 z0 = [] ∧ merE [o1] 2 5 z0 = 130 := by decide +kernel
def zer : List UInt8 := List.replicate 65 0
theorem made_65 : ∃ Z : Array Value, (∀ w : World, (Instr.makeSlice 35 (.int .i64 65) (.int .i64 65)).run Tryz.prog w = .ok (.slice (some ⟨w.heap.size, 0, none⟩) 65 65) (w.alloc (.cells Z 5))) ∧ ∀ w : World, Reads (w.alloc (.cells Z 5)) (.slice (some ⟨w.heap.size, 0, none⟩) 65 65) zer := by
  obtain ⟨i, hi, hz0, hz1, hz2⟩ := info_parts u8_info
  refine ⟨madeCells (Value.int .u8 0).cells ((65 : Int).toNat * i.size), fun w => ?_, fun w => ?_⟩
  · exact run_makeSlice w 35 5 i _ Tryz.underlying35 hi hz0 .i64 .i64 65 65 (by decide) (by decide) (by rw [hz1]; decide) (by rw [hz2]; decide) (by decide)
  · rw [hz1]
    have hx : (madeCells (Value.int .u8 0).cells ((65 : Int).toNat * 1)).toList = bs zer := by kernel_rfl
    have h := World.ownsRow_lit (base := w.heap.size) (e := 5) (size := 1) w (madeCells (Value.int .u8 0).cells ((65 : Int).toNat * 1)) 65 (Nat.le_refl _) (by decide) (by rw [size_madeCells]; decide)
    rw [hx] at h
    exact Reads.own (xs := zer) h
theorem I6_is : insL [o1] 2 5 z0 0 (Point.pr zer).1 (Point.pr zer).2 = [] ∧ insE [o1] 2 5 z0 0 (Point.pr zer).1 (Point.pr zer).2 = 4 := by decide +kernel
set_option maxRecDepth 100000 in
set_option maxHeartbeats 16000000 in
theorem names_any (w : World) : Calls Tryz.prog 3 #[] w fun e w' => e = .returned (.bool true) ∧ Below w.heap.size w w' := by
  have I1 : Hid (∀ (W : World) (v : Value), OpL W v [] → Calls Tryz.prog 7 #[v, .int .u8 2, .int .u32 5, .agg #[.int .u32 0, .int .u8 0], .int .i64 0, .string ⟨#[120]⟩] W (DoneN [oz] 0 W)) := fun W v h => by
    have := eInsert_any (r := 2) (t := 5) z0 0 ⟨#[120]⟩ h (by decide) (by decide) (by decide) (by decide)
    rwa [show (⟨#[120]⟩ : ByteArray).data.toList = [120] from rfl, I1_is.1, I1_is.2] at this
  have I2 : Hid (∀ (W : World) (v : Value), OpL W v [o1] → Calls Tryz.prog 7 #[v, .int .u8 2, .int .u32 5, .agg #[.int .u32 0, .int .u8 0], .int .i64 2, .string ⟨#[120]⟩] W (DoneN [] 2 W)) := fun W v h => by
    have := eInsert_any (r := 2) (t := 5) z0 2 ⟨#[120]⟩ h (by decide) (by decide) (by decide) (by decide)
    rwa [show (⟨#[120]⟩ : ByteArray).data.toList = [120] from rfl, I2_is.1, I2_is.2] at this
  have I3 : Hid (∀ (W : World) (v : Value), OpL W v [o1] → Calls Tryz.prog 7 #[v, .int .u8 2, .int .u32 5, .agg #[.int .u32 0, .int .u8 0], .int .i64 0, .string ⟨#[]⟩] W (DoneN [] 2 W)) := fun W v h => by
    have := eInsert_any (r := 2) (t := 5) z0 0 ⟨#[]⟩ h (by decide) (by decide) (by decide) (by decide)
    rwa [show (⟨#[]⟩ : ByteArray).data.toList = [] from rfl, I3_is.1, I3_is.2] at this
  have I4 : Hid (∀ (W : World) (v : Value), OpL W v [o1] → Calls Tryz.prog 7 #[v, .int .u8 2, .int .u32 0, .agg #[.int .u32 0, .int .u8 0], .int .i64 0, .string ⟨#[120]⟩] W (DoneN [] 8 W)) := fun W v h => by
    have := eInsert_any (r := 2) (t := 0) z0 0 ⟨#[120]⟩ h (by decide) (by decide) (by decide) (by decide)
    rwa [show (⟨#[120]⟩ : ByteArray).data.toList = [120] from rfl, I4_is.1, I4_is.2] at this
  have I5 : Hid (∀ (W : World) (v : Value), OpL W v [o1] → Calls Tryz.prog 7 #[v, .int .u8 2, .int .u32 1073741824, .agg #[.int .u32 0, .int .u8 0], .int .i64 0, .string ⟨#[120]⟩] W (DoneN [] 50 W)) := fun W v h => by
    have := eInsert_any (r := 2) (t := 1073741824) z0 0 ⟨#[120]⟩ h (by decide) (by decide) (by decide) (by decide)
    rwa [show (⟨#[120]⟩ : ByteArray).data.toList = [120] from rfl, I5_is.1, I5_is.2] at this
  have I6 : Hid (∀ (W : World) (v : Value) (T : ByteArray), T.data.toList = zer → OpL W v [o1] → Calls Tryz.prog 7 #[v, .int .u8 2, .int .u32 5, .agg #[.int .u32 0, .int .u8 0], .int .i64 0, .string T] W (DoneN [] 4 W)) := fun W v T hT h => by
    have hs : T.size = 65 := by
      have h2 : T.data.toList.length = 65 := by rw [hT]; rfl
      exact (Array.length_toList (xs := T.data)).symm.trans h2
    have := eInsert_any (r := 2) (t := 5) z0 0 T h (by decide) (by decide) (by omega) (by decide)
    rwa [hT, I6_is.1, I6_is.2] at this
  have S1 : Hid (∀ (W : World) (v : Value), OpL W v [o1] → Calls Tryz.prog 8 #[v, .int .u8 2, .int .u32 5, .agg #[.int .u32 0, .int .u8 0], .int .i64 0] W (DoneN [om] 0 W)) := fun W v h => by
    have := eSplit_any (r := 2) (t := 5) z0 0 h (by decide) (by decide) (by decide)
    rwa [S1_is.1, S1_is.2] at this
  have M1 : Hid (∀ (W : World) (v : Value), OpL W v [o1] → Calls Tryz.prog 10 #[v, .int .u8 2, .int .u32 5, .agg #[.int .u32 0, .int .u8 0]] W (DoneN [] 130 W)) := fun W v h => by
    have := eMerge_any (r := 2) (t := 5) z0 h (by decide) (by decide)
    rwa [M1_is.1, M1_is.2] at this
  have SA : Hid (∀ (W : World) (u v : Value) (q : List Opn), OpL W u q → OpL W v q → Calls Tryz.prog 11 #[u, v] W fun e w' => e = .returned (.bool true) ∧ Below W.heap.size W w') := fun W u v q h h2 => by
    have := sameL_any h h2
    rwa [decide_eq_true rfl] at this
  obtain ⟨Z, hmk, hrz⟩ := made_65
  have HRZ := Lib.hid hrz
  clear hrz
  have B_0 : Hid (Below w.heap.size w w) := Below.refl _ _
  go_enter Tryz.func3, Tryz.ntmps3
  go_wp2_with fail
  refine (I1.out _ _ (Seq.nil _ _)).mono ?_
  rintro e w1 ⟨v1, rfl, o1, b1⟩
  have B_1 := Lib.hid (bt B_0.out b1)
  clear B_0
  have A_2 := Lib.hid (o1.opl)
  clear b1 o1
  clear I1
  go_wp2_with fail
  refine (one16_any _).mono ?_
  rintro e w2 ⟨g2, h2, rfl, -, -, o2, b2⟩
  have B_3 := Lib.hid (bt B_1.out b2)
  clear B_1
  have A_4 := Lib.hid (A_2.out.keeps b2)
  clear A_2
  have O_5 := Lib.hid (o2)
  clear b2 o2
  go_wp2_with fail
  refine (S1.out _ _ O_5.out).mono ?_
  rintro e w3 ⟨v3, rfl, o3, b3⟩
  have B_6 := Lib.hid (bt B_3.out b3)
  clear B_3
  have A_7 := Lib.hid (A_4.out.keeps b3)
  clear A_4
  have O_8 := Lib.hid (O_5.out.keeps b3)
  clear O_5
  have C_9 := Lib.hid (o3.opl)
  clear b3 o3
  clear O_8
  clear S1
  have b := (Below.refl w3.heap.size w3).alloc (Nat.le_refl _) (.cells #[.int .u32 6, .int .u8 2, .int .i64 1] 32)
  have B_10 := Lib.hid (bt B_6.out b)
  clear B_6
  have A_11 := Lib.hid (A_7.out.keeps b)
  clear A_7
  have C_12 := Lib.hid (C_9.out.keeps b)
  clear C_9
  have R_13 : Hid (Runs (w3.alloc (.cells #[.int .u32 6, .int .u8 2, .int .i64 1] 32)) (.slice (some ⟨w3.heap.size, 0, none⟩) 1 1) oz.pl) := runs_new w3 oz.pl 1 rfl (by decide) 32 (0, 0)
  obtain ⟨ra, hra⟩ : ∃ x, x = w3.heap.size := ⟨_, rfl⟩
  rw [← hra] at R_13
  have HRA := Lib.hid hra
  clear hra b
  go_wp2_with fail
  rw [← HRA.out]
  refine (one16_any _).mono ?_
  rintro e w4 ⟨g4, h4, rfl, -, -, o4, b4⟩
  have B_14 := Lib.hid (bt B_10.out b4)
  clear B_10
  have A_15 := Lib.hid (A_11.out.keeps b4)
  clear A_11
  have C_16 := Lib.hid (C_12.out.keeps b4)
  clear C_12
  have R_17 := Lib.hid (R_13.out.keeps b4)
  clear R_13
  have O_18 := Lib.hid (o4)
  clear b4 o4 HRA
  go_wp2_with fail
  refine (I2.out _ _ O_18.out).mono ?_
  rintro e w5 ⟨v5, rfl, -, b5⟩
  have B_19 := Lib.hid (bt B_14.out b5)
  clear B_14
  have A_20 := Lib.hid (A_15.out.keeps b5)
  clear A_15
  have C_21 := Lib.hid (C_16.out.keeps b5)
  clear C_16
  have R_22 := Lib.hid (R_17.out.keeps b5)
  clear R_17
  have O_23 := Lib.hid (O_18.out.keeps b5)
  clear O_18
  clear b5
  clear O_23
  clear I2
  go_wp2_with fail
  refine (one16_any _).mono ?_
  rintro e w6 ⟨g6, h6, rfl, -, -, o6, b6⟩
  have B_24 := Lib.hid (bt B_19.out b6)
  clear B_19
  have A_25 := Lib.hid (A_20.out.keeps b6)
  clear A_20
  have C_26 := Lib.hid (C_21.out.keeps b6)
  clear C_21
  have R_27 := Lib.hid (R_22.out.keeps b6)
  clear R_22
  have O_28 := Lib.hid (o6)
  clear b6 o6
  go_wp2_with fail
  refine (I3.out _ _ O_28.out).mono ?_
  rintro e w7 ⟨v7, rfl, -, b7⟩
  have B_29 := Lib.hid (bt B_24.out b7)
  clear B_24
  have A_30 := Lib.hid (A_25.out.keeps b7)
  clear A_25
  have C_31 := Lib.hid (C_26.out.keeps b7)
  clear C_26
  have R_32 := Lib.hid (R_27.out.keeps b7)
  clear R_27
  have O_33 := Lib.hid (O_28.out.keeps b7)
  clear O_28
  clear b7
  clear O_33
  clear I3
  go_wp2_with fail
  refine (one16_any _).mono ?_
  rintro e w8 ⟨g8, h8, rfl, -, -, o8, b8⟩
  have B_34 := Lib.hid (bt B_29.out b8)
  clear B_29
  have A_35 := Lib.hid (A_30.out.keeps b8)
  clear A_30
  have C_36 := Lib.hid (C_31.out.keeps b8)
  clear C_31
  have R_37 := Lib.hid (R_32.out.keeps b8)
  clear R_32
  have O_38 := Lib.hid (o8)
  clear b8 o8
  go_wp2_with fail
  refine (M1.out _ _ O_38.out).mono ?_
  rintro e w9 ⟨v9, rfl, -, b9⟩
  have B_39 := Lib.hid (bt B_34.out b9)
  clear B_34
  have A_40 := Lib.hid (A_35.out.keeps b9)
  clear A_35
  have C_41 := Lib.hid (C_36.out.keeps b9)
  clear C_36
  have R_42 := Lib.hid (R_37.out.keeps b9)
  clear R_37
  have O_43 := Lib.hid (O_38.out.keeps b9)
  clear O_38
  clear b9
  clear O_43
  clear M1
  go_wp2_with fail
  refine (one16_any _).mono ?_
  rintro e w10 ⟨g10, h10, rfl, -, -, o10, b10⟩
  have B_44 := Lib.hid (bt B_39.out b10)
  clear B_39
  have A_45 := Lib.hid (A_40.out.keeps b10)
  clear A_40
  have C_46 := Lib.hid (C_41.out.keeps b10)
  clear C_41
  have R_47 := Lib.hid (R_42.out.keeps b10)
  clear R_42
  have O_48 := Lib.hid (o10)
  clear b10 o10
  go_wp2_with fail
  refine (I4.out _ _ O_48.out).mono ?_
  rintro e w11 ⟨v11, rfl, -, b11⟩
  have B_49 := Lib.hid (bt B_44.out b11)
  clear B_44
  have A_50 := Lib.hid (A_45.out.keeps b11)
  clear A_45
  have C_51 := Lib.hid (C_46.out.keeps b11)
  clear C_46
  have R_52 := Lib.hid (R_47.out.keeps b11)
  clear R_47
  have O_53 := Lib.hid (O_48.out.keeps b11)
  clear O_48
  clear b11
  clear O_53
  clear I4
  go_wp2_with fail
  refine (one16_any _).mono ?_
  rintro e w12 ⟨g12, h12, rfl, -, -, o12, b12⟩
  have B_54 := Lib.hid (bt B_49.out b12)
  clear B_49
  have A_55 := Lib.hid (A_50.out.keeps b12)
  clear A_50
  have C_56 := Lib.hid (C_51.out.keeps b12)
  clear C_51
  have R_57 := Lib.hid (R_52.out.keeps b12)
  clear R_52
  have O_58 := Lib.hid (o12)
  clear b12 o12
  go_wp2_with fail
  refine (I5.out _ _ O_58.out).mono ?_
  rintro e w13 ⟨v13, rfl, -, b13⟩
  have B_59 := Lib.hid (bt B_54.out b13)
  clear B_54
  have A_60 := Lib.hid (A_55.out.keeps b13)
  clear A_55
  have C_61 := Lib.hid (C_56.out.keeps b13)
  clear C_56
  have R_62 := Lib.hid (R_57.out.keeps b13)
  clear R_57
  have O_63 := Lib.hid (O_58.out.keeps b13)
  clear O_58
  clear b13
  clear O_63
  clear I5
  go_upto_region 1 with fail
  refine wp_region_held_drew (S := fun w' => Below w13.heap.size w13 w') (by kernel_rfl) (drew1 _) (fun hHeld => ?_)
  generalize w13.drew = wd at hHeld ⊢
  refine rN 1 ?_
  refine wpAnyH_ready (rs := [0, 2]) (by kernel_rfl) (by simp) ?_
  refine AllReadyH.cons rfl (fun K hK => ?_) ?za0
  case za0 =>
    refine AllReadyH.cons rfl (fun K hK => ?_) AllReadyH.nil
    go_simp
    have bm := (Below.refl _ _).alloc (Nat.le_refl _) (.cells Z 5) (w := wd)
    have RZb := Lib.hid (HRZ.out wd)
    refine hK.out _ _ (bt hHeld bm) (fun hNew => ?_)
    clear hHeld
    have hHeld := hNew
    clear hNew hK K
    refine rX ?_
    clear bm
    refine wpAnyH_ready (rs := [0, 3]) (by kernel_rfl) (by simp) ?_
    refine AllReadyH.cons rfl (fun K hK => ?_) ?zb0
    case zb0 =>
      refine AllReadyH.cons rfl (fun K hK => ?_) AllReadyH.nil
      have hcs := run_string RZb.out
      go_simp
      clear hcs
      refine hK.out _ _ (hHeld) (fun hNew => ?_)
      clear hHeld
      have hHeld := hNew
      clear hNew hK K
      refine rX ?_
      refine wpAnyH_ready (rs := [0]) (by kernel_rfl) (by simp) ?_
      refine AllReadyH.cons rfl (fun K hK => ?_) AllReadyH.nil
      go_simp
      refine (one16_any _).mono ?_
      rintro e wco ⟨gc, hc, rfl, -, -, oc, bco⟩
      have Oc := Lib.hid oc
      refine hK.out _ _ (bt hHeld bco) (fun hNew => ?_)
      clear hHeld
      have hHeld := hNew
      clear hNew hK K
      refine rX ?_
      clear oc bco
      refine wpAnyH_ready (rs := [4]) (by kernel_rfl) (by simp) ?_
      refine AllReadyH.cons rfl (fun K hK => ?_) AllReadyH.nil
      go_simp
      refine (I6.out _ _ (str zer) rfl Oc.out).mono ?_
      rintro e wfc ⟨vfc, rfl, -, bc⟩
      refine hK.out _ _ (bt hHeld bc) (fun hNew => ?_)
      clear hHeld
      have hHeld := hNew
      clear hNew hK K
      refine rX ?_
      clear bc
      refine rN 5 ?_
      refine rN 6 ?_
      refine rN 7 ?_
      refine rN 8 ?_
      refine rN 9 ?_
      refine wpAnyH_done (by kernel_rfl) ?_ _
      have B1 := Lib.hid (bt B_59.out hHeld)
      have A1 := Lib.hid (A_60.out.keeps hHeld)
      have C1 := Lib.hid (C_61.out.keeps hHeld)
      have R1 := Lib.hid (R_62.out.keeps hHeld)
      clear hHeld B_59 A_60 C_61 R_62 I6
      have bo := (Below.refl wfc.heap.size wfc).alloc (Nat.le_refl _) (.cells #[.int .u8 1, .int .u32 6, .int .u8 2, .slice (some ⟨ra, 0, none⟩) 1 1, .int .i64 120] 38)
      have X := Lib.hid (opl_one (o := oz) (w := wfc) (u := .slice (some ⟨ra, 0, none⟩) 1 1) (c0 := .int .u8 1) (c1 := .int .u32 6) (c2 := .int .u8 2) (c4 := .int .i64 120) rfl rfl rfl rfl R1.out)
      have B2 := Lib.hid (bt B1.out bo)
      have A2 := Lib.hid (A1.out.keeps bo)
      have C2 := Lib.hid (C1.out.keeps bo)
      have R2 := Lib.hid (R1.out.keeps bo)
      clear bo B1 A1 C1 R1
      go_wp2_with fail
      refine (SA.out _ _ _ _ A2.out X.out).mono ?_
      rintro e wgc ⟨rfl, b⟩
      have B3 := Lib.hid (bt B2.out b)
      have C3 := Lib.hid (C2.out.keeps b)
      have R3 := Lib.hid (R2.out.keeps b)
      clear b B2 A2 C2 R2 X
      have bo := (Below.refl wgc.heap.size wgc).alloc (Nat.le_refl _) (.cells #[.int .u8 2, .int .u32 6, .int .u8 2, .slice (some ⟨ra, 0, none⟩) 1 1, .int .i64 0] 38)
      have X := Lib.hid (opl_one (o := om) (w := wgc) (u := .slice (some ⟨ra, 0, none⟩) 1 1) (c0 := .int .u8 2) (c1 := .int .u32 6) (c2 := .int .u8 2) (c4 := .int .i64 0) rfl rfl rfl rfl R3.out)
      have B4 := Lib.hid (bt B3.out bo)
      have C4 := Lib.hid (C3.out.keeps bo)
      clear bo B3 C3 R3
      go_wp2_with fail
      refine (SA.out _ _ _ _ C4.out X.out).mono ?_
      rintro e whc ⟨rfl, b⟩
      have B5 := Lib.hid (bt B4.out b)
      clear b B4 C4 X SA
      go_wp2_with fail
      refine (alive16_any _).mono ?_
      rintro e wic ⟨rfl, b⟩
      have B6 := Lib.hid (bt B5.out b)
      clear b B5
      go_wp2
      go_ret
      exact ⟨rfl, B6.out⟩
    go_simp
    refine (one16_any _).mono ?_
    rintro e wbo ⟨gb, hb, rfl, -, -, ob, bbo⟩
    have Ob := Lib.hid ob
    have RZbo := Lib.hid (RZb.out.below bbo (fun _ => RZb.out.lies (by decide)))
    refine hK.out _ _ (bt hHeld bbo) (fun hNew => ?_)
    clear hHeld
    have hHeld := hNew
    clear hNew hK K
    refine rX ?_
    clear ob bbo
    refine wpAnyH_ready (rs := [3]) (by kernel_rfl) (by simp) ?_
    refine AllReadyH.cons rfl (fun K hK => ?_) AllReadyH.nil
    have hcs := run_string RZbo.out
    go_simp
    clear hcs
    refine hK.out _ _ (hHeld) (fun hNew => ?_)
    clear hHeld
    have hHeld := hNew
    clear hNew hK K
    refine rX ?_
    refine wpAnyH_ready (rs := [4]) (by kernel_rfl) (by simp) ?_
    refine AllReadyH.cons rfl (fun K hK => ?_) AllReadyH.nil
    go_simp
    refine (I6.out _ _ (str zer) rfl Ob.out).mono ?_
    rintro e wfb ⟨vfb, rfl, -, bb⟩
    refine hK.out _ _ (bt hHeld bb) (fun hNew => ?_)
    clear hHeld
    have hHeld := hNew
    clear hNew hK K
    refine rX ?_
    clear bb
    refine rN 5 ?_
    refine rN 6 ?_
    refine rN 7 ?_
    refine rN 8 ?_
    refine rN 9 ?_
    refine wpAnyH_done (by kernel_rfl) ?_ _
    have B1 := Lib.hid (bt B_59.out hHeld)
    have A1 := Lib.hid (A_60.out.keeps hHeld)
    have C1 := Lib.hid (C_61.out.keeps hHeld)
    have R1 := Lib.hid (R_62.out.keeps hHeld)
    clear hHeld B_59 A_60 C_61 R_62 I6
    have bo := (Below.refl wfb.heap.size wfb).alloc (Nat.le_refl _) (.cells #[.int .u8 1, .int .u32 6, .int .u8 2, .slice (some ⟨ra, 0, none⟩) 1 1, .int .i64 120] 38)
    have X := Lib.hid (opl_one (o := oz) (w := wfb) (u := .slice (some ⟨ra, 0, none⟩) 1 1) (c0 := .int .u8 1) (c1 := .int .u32 6) (c2 := .int .u8 2) (c4 := .int .i64 120) rfl rfl rfl rfl R1.out)
    have B2 := Lib.hid (bt B1.out bo)
    have A2 := Lib.hid (A1.out.keeps bo)
    have C2 := Lib.hid (C1.out.keeps bo)
    have R2 := Lib.hid (R1.out.keeps bo)
    clear bo B1 A1 C1 R1
    go_wp2_with fail
    refine (SA.out _ _ _ _ A2.out X.out).mono ?_
    rintro e wgb ⟨rfl, b⟩
    have B3 := Lib.hid (bt B2.out b)
    have C3 := Lib.hid (C2.out.keeps b)
    have R3 := Lib.hid (R2.out.keeps b)
    clear b B2 A2 C2 R2 X
    have bo := (Below.refl wgb.heap.size wgb).alloc (Nat.le_refl _) (.cells #[.int .u8 2, .int .u32 6, .int .u8 2, .slice (some ⟨ra, 0, none⟩) 1 1, .int .i64 0] 38)
    have X := Lib.hid (opl_one (o := om) (w := wgb) (u := .slice (some ⟨ra, 0, none⟩) 1 1) (c0 := .int .u8 2) (c1 := .int .u32 6) (c2 := .int .u8 2) (c4 := .int .i64 0) rfl rfl rfl rfl R3.out)
    have B4 := Lib.hid (bt B3.out bo)
    have C4 := Lib.hid (C3.out.keeps bo)
    clear bo B3 C3 R3
    go_wp2_with fail
    refine (SA.out _ _ _ _ C4.out X.out).mono ?_
    rintro e whb ⟨rfl, b⟩
    have B5 := Lib.hid (bt B4.out b)
    clear b B4 C4 X SA
    go_wp2_with fail
    refine (alive16_any _).mono ?_
    rintro e wib ⟨rfl, b⟩
    have B6 := Lib.hid (bt B5.out b)
    clear b B5
    go_wp2
    go_ret
    exact ⟨rfl, B6.out⟩
  go_simp
  refine (one16_any _).mono ?_
  rintro e wao ⟨ga, ha, rfl, -, -, oa, bao⟩
  have Oa := Lib.hid oa
  refine hK.out _ _ (bt hHeld bao) (fun hNew => ?_)
  clear hHeld
  have hHeld := hNew
  clear hNew hK K
  refine rX ?_
  clear oa bao
  refine wpAnyH_ready (rs := [2]) (by kernel_rfl) (by simp) ?_
  refine AllReadyH.cons rfl (fun K hK => ?_) AllReadyH.nil
  go_simp
  have bm := (Below.refl _ _).alloc (Nat.le_refl _) (.cells Z 5) (w := (wao))
  have RZa := Lib.hid (HRZ.out (wao))
  have Oam := Lib.hid (Oa.out.keeps bm)
  refine hK.out _ _ (bt hHeld bm) (fun hNew => ?_)
  clear hHeld
  have hHeld := hNew
  clear hNew hK K
  refine rX ?_
  clear bm
  refine wpAnyH_ready (rs := [3]) (by kernel_rfl) (by simp) ?_
  refine AllReadyH.cons rfl (fun K hK => ?_) AllReadyH.nil
  have hcs := run_string RZa.out
  go_simp
  clear hcs
  refine hK.out _ _ (hHeld) (fun hNew => ?_)
  clear hHeld
  have hHeld := hNew
  clear hNew hK K
  refine rX ?_
  refine wpAnyH_ready (rs := [4]) (by kernel_rfl) (by simp) ?_
  refine AllReadyH.cons rfl (fun K hK => ?_) AllReadyH.nil
  go_simp
  refine (I6.out _ _ (str zer) rfl Oam.out).mono ?_
  rintro e wfa ⟨vfa, rfl, -, ba⟩
  refine hK.out _ _ (bt hHeld ba) (fun hNew => ?_)
  clear hHeld
  have hHeld := hNew
  clear hNew hK K
  refine rX ?_
  clear ba
  refine rN 5 ?_
  refine rN 6 ?_
  refine rN 7 ?_
  refine rN 8 ?_
  refine rN 9 ?_
  refine wpAnyH_done (by kernel_rfl) ?_ _
  have B1 := Lib.hid (bt B_59.out hHeld)
  have A1 := Lib.hid (A_60.out.keeps hHeld)
  have C1 := Lib.hid (C_61.out.keeps hHeld)
  have R1 := Lib.hid (R_62.out.keeps hHeld)
  clear hHeld B_59 A_60 C_61 R_62 I6
  have bo := (Below.refl wfa.heap.size wfa).alloc (Nat.le_refl _) (.cells #[.int .u8 1, .int .u32 6, .int .u8 2, .slice (some ⟨ra, 0, none⟩) 1 1, .int .i64 120] 38)
  have X := Lib.hid (opl_one (o := oz) (w := wfa) (u := .slice (some ⟨ra, 0, none⟩) 1 1) (c0 := .int .u8 1) (c1 := .int .u32 6) (c2 := .int .u8 2) (c4 := .int .i64 120) rfl rfl rfl rfl R1.out)
  have B2 := Lib.hid (bt B1.out bo)
  have A2 := Lib.hid (A1.out.keeps bo)
  have C2 := Lib.hid (C1.out.keeps bo)
  have R2 := Lib.hid (R1.out.keeps bo)
  clear bo B1 A1 C1 R1
  go_wp2_with fail
  refine (SA.out _ _ _ _ A2.out X.out).mono ?_
  rintro e wga ⟨rfl, b⟩
  have B3 := Lib.hid (bt B2.out b)
  have C3 := Lib.hid (C2.out.keeps b)
  have R3 := Lib.hid (R2.out.keeps b)
  clear b B2 A2 C2 R2 X
  have bo := (Below.refl wga.heap.size wga).alloc (Nat.le_refl _) (.cells #[.int .u8 2, .int .u32 6, .int .u8 2, .slice (some ⟨ra, 0, none⟩) 1 1, .int .i64 0] 38)
  have X := Lib.hid (opl_one (o := om) (w := wga) (u := .slice (some ⟨ra, 0, none⟩) 1 1) (c0 := .int .u8 2) (c1 := .int .u32 6) (c2 := .int .u8 2) (c4 := .int .i64 0) rfl rfl rfl rfl R3.out)
  have B4 := Lib.hid (bt B3.out bo)
  have C4 := Lib.hid (C3.out.keeps bo)
  clear bo B3 C3 R3
  go_wp2_with fail
  refine (SA.out _ _ _ _ C4.out X.out).mono ?_
  rintro e wha ⟨rfl, b⟩
  have B5 := Lib.hid (bt B4.out b)
  clear b B4 C4 X SA
  go_wp2_with fail
  refine (alive16_any _).mono ?_
  rintro e wia ⟨rfl, b⟩
  have B6 := Lib.hid (bt B5.out b)
  clear b B5
  go_wp2
  go_ret
  exact ⟨rfl, B6.out⟩
end Go.Proofs.YtgjbnbojjgbmcaaGreat.Edits
