/- Runs of stamps (places), and slices of them: what a slice value holds. Conditions: none. What the landed bag's walks come to: two bags gone through side by side, where a stamp stands or would. Conditions: none. octavolaw11.one, put, alive: what each answers. Conditions: the slices' cells are operations. octavolaw16.one, alive: what each answers. Conditions: none. -/
import Derived.Test.YtgjbnbojjgbmcaaGreatChecked
import Derived.WalkKit
import Derived.WalkSpells
import Derived.WalkLawsBesides
import Derived.Laws.BytesArg
import Derived.Lib.Hide
import Derived.Deep.LoopGhost
import Derived.Laws.AppendOwnNone
import Derived.Laws.OwnMore
import Derived.WideShapes
import Derived.Maps.AppendAt
import Derived.RegionTactic
import Derived.Deep.RegionHeld3
import Derived.Deep.DrawnRows
import Derived.Deep.QuietTactic
import Derived.BigQuiet
import Derived.IntWalk
import Derived.Deep.DeepCutAuto
import Derived.ScopeJumps
import Derived.Test.YtgjbnbojjgbmcaaGreatProg
import Derived.LoopTactic
import Derived.Laws.EntriesVeiled
import Derived.RowKit
import Derived.Shelf.Abstract
import Derived.Laws.CopyOwn
import Derived.Deep.AppendSrc
import Derived.Lib.AppendZeros
import Derived.Laws.MakeOwn
import Derived.RangeFuncBox
import Derived.RangeFuncLeaves
import Derived.RangeFuncNested
import Derived.RangeFuncBound
import Derived.RangeFuncCalls
import Derived.OwnWalkIn
import Derived.TacticsInMore
import Derived.LoopNIn
import Derived.LoopIn
import Derived.Maps.Own
import Derived.Maps.OwnOps
import Derived.Maps.Views
import Derived.Lib.Tables
import Derived.Laws.Bits64
import Derived.Lib.AppendZerosOnto
import Derived.Laws.NewBlocks
import Derived.Deep.RegionLaw
import Derived.Scope
import Derived.Lib.DecodeN
import Derived.Lib.RuneBytes
import Derived.Maps.OwnSet
import Derived.DeepKeys4
import Derived.Shelf.SlSortCmp.InsertionK
import Derived.Calls
import Derived.StepT
import Derived.Below
import Derived.Sort.Grow
import Derived.Deep.Draws
import Derived.Shelf.SlLaysF0
import Derived.Shelf.SlSortCmp.NoneTotal
import Derived.Test.YtgjbnbojjgbmcaaGreatShelf
import Derived.Lib.OthersKept
import Derived.BigCall
import Derived.Deep.RegionWith
import Derived.BigRegion
import Derived.Tactics
import Derived.Test.YtgjbnbojjgbmcaaGreatPk01
import Derived.Test.YtgjbnbojjgbmcaaGreatPk04
import Derived.Test.YtgjbnbojjgbmcaaGreatPk03
import Derived.Test.YtgjbnbojjgbmcaaGreatPk02
import Derived.Test.YtgjbnbojjgbmcaaGreatPk09
import Derived.Test.YtgjbnbojjgbmcaaGreatPk11
import Derived.Test.YtgjbnbojjgbmcaaGreatPk12
import Derived.Test.YtgjbnbojjgbmcaaGreatPk06
import Derived.Test.YtgjbnbojjgbmcaaGreatPk05
import Derived.Test.YtgjbnbojjgbmcaaGreatPk10
import Derived.Test.YtgjbnbojjgbmcaaGreatPk07
import Derived.Test.YtgjbnbojjgbmcaaGreatPk08
import Derived.Test.YtgjbnbojjgbmcaaGreatPk13

namespace Go.Proofs.YtgjbnbojjgbmcaaGreat
open Go.RowKit Go.WideShapes
theorem runs_new (w : World) (l : List Run) (n : Nat) (hn : n = l.length) (hl : l.length ≤ 1000000) (e : TypeId) (fr : Nat × Nat) : Runs (w.alloc (.cells (runs l).toArray e fr)) (.slice (some ⟨w.heap.size, 0, none⟩) n n) l := by
  subst hn
  exact sees_new w (runs l) 3 l.length (runs_len l) hl _ _
end Go.Proofs.YtgjbnbojjgbmcaaGreat

namespace Go.Proofs.YtgjbnbojjgbmcaaGreat.Bags
open Ops Stamp
def lessI (x : Opn) (a : Id) : Prop := x.t < a.t ∨ x.t = a.t ∧ x.r < a.r
instance (x : Opn) (a : Id) : Decidable (lessI x a) := inferInstanceAs (Decidable (_ ∨ _))
def moreI (x : Opn) (a : Id) : Prop := a.t < x.t ∨ a.t = x.t ∧ a.r < x.r
instance (x : Opn) (a : Id) : Decidable (moreI x a) := inferInstanceAs (Decidable (_ ∨ _))
end Go.Proofs.YtgjbnbojjgbmcaaGreat.Bags

namespace Go.Proofs.YtgjbnbojjgbmcaaGreat.Bags
open Go.RowKit Go.WideShapes Stamp Go.Proofs.YtgjbnbojjgbmcaaGreat.Place Ops Codes
attribute [local go_sem ↓] Go.wp_at_zero Go.wp_at_succ
attribute [local go_sem] yielded_undef
theorem seq_lit {w : World} {cs : List Value} {l : List Opn} (n : Nat) (hn : n = l.length) (hl : n ≤ 1000) (h : opE.rows w cs l) : OpL (w.alloc (.cells cs.toArray 38)) (.slice (some ⟨w.heap.size, 0, none⟩) n n) l := by
  subst hn
  refine ⟨cs, sees_new w cs 5 l.length (Enc.rows_len h) (by omega) 38 (0, 0), Enc.rows_keep ((Below.refl _ _).alloc (Nat.le_refl _) _) h⟩
end Go.Proofs.YtgjbnbojjgbmcaaGreat.Bags

namespace Go.Proofs.YtgjbnbojjgbmcaaGreat.Edits
open Go.RowKit Go.WideShapes Stamp Go.Proofs.YtgjbnbojjgbmcaaGreat.Place Ops Codes Bags Marks Homes Covers Views
attribute [local go_sem ↓] Go.wp_at_zero Go.wp_at_succ
attribute [local go_sem] yielded_undef
def o1 : Opn := ⟨1, 1, 0, [⟨1, 0, 1, by decide, by decide, by decide⟩], 65, by decide, by decide, by decide, by decide⟩
def ox : Opn := ⟨1, 6, 2, [⟨1, 0, 1, by decide, by decide, by decide⟩, ⟨6, 2, 1, by decide, by decide, by decide⟩], 120, by decide, by decide, by decide, by decide⟩
def oy : Opn := ⟨1, 7, 2, [⟨1, 0, 1, by decide, by decide, by decide⟩, ⟨6, 2, 2, by decide, by decide, by decide⟩], 121, by decide, by decide, by decide, by decide⟩
def od : Opn := ⟨3, 6, 2, [⟨1, 0, 1, by decide, by decide, by decide⟩], 0, by decide, by decide, by decide, by decide⟩
def z0 : Id := ⟨0, 0, by decide, by decide⟩
theorem ins_xy : insL [o1] 2 5 z0 1 (Point.pr [120, 121]).1 (Point.pr [120, 121]).2 = [ox, oy] ∧ insE [o1] 2 5 z0 1 (Point.pr [120, 121]).1 (Point.pr [120, 121]).2 = 0 := by decide +kernel
theorem del_01 : delL [o1] 2 5 z0 0 1 = [od] ∧ delE [o1] 2 5 z0 0 1 = 0 := by decide +kernel
/-- The chapter's bag. -/
def OneB (w : World) (e : Ending) (w' : World) : Prop := ∃ g h, e = .returned (.slice (some ⟨g, 0, none⟩) 1 1) ∧ Runs w' (.slice (some ⟨h, 0, none⟩) 1 1) o1.pl ∧ Hid (w'.heap[g]? = some (.cells #[.int .u8 1, .int .u32 1, .int .u8 0, .slice (some ⟨h, 0, none⟩) 1 1, .int .i64 65] 38)) ∧ OpL w' (.slice (some ⟨g, 0, none⟩) 1 1) [o1] ∧ Below w.heap.size w w'
set_option maxRecDepth 100000 in
set_option maxHeartbeats 4000000 in
theorem one16_any (w : World) : Calls Tryz.prog 9 #[] w (OneB w) := by
  obtain ⟨W1, e1⟩ : ∃ W, W = w.alloc (.cells #[.int .u32 1, .int .u8 0, .int .i64 1] 32) := ⟨_, rfl⟩
  have s1 : W1.heap.size = w.heap.size + 1 := by rw [e1]; exact Array.size_push _
  have b1 : Below w.heap.size w W1 := by rw [e1]; exact (Below.refl _ _).alloc (Nat.le_refl _) _
  have r1 : Runs W1 (.slice (some ⟨w.heap.size, 0, none⟩) 1 1) o1.pl := by rw [e1]; exact runs_new w o1.pl 1 rfl (by decide) 32 (0, 0)
  have b2 : Below W1.heap.size W1 (W1.alloc (.cells #[.int .u8 1, .int .u32 1, .int .u8 0, .slice (some ⟨w.heap.size, 0, none⟩) 1 1, .int .i64 65] 38)) := (Below.refl _ _).alloc (Nat.le_refl _) _
  have R := opl_one (o := o1) (w := W1) (u := .slice (some ⟨w.heap.size, 0, none⟩) 1 1) (c0 := .int .u8 1) (c1 := .int .u32 1) (c2 := .int .u8 0) (c4 := .int .i64 65) rfl rfl rfl rfl r1
  have X : Hid ((W1.alloc (.cells #[.int .u8 1, .int .u32 1, .int .u8 0, .slice (some ⟨w.heap.size, 0, none⟩) 1 1, .int .i64 65] 38)).heap[W1.heap.size]? = some (.cells #[.int .u8 1, .int .u32 1, .int .u8 0, .slice (some ⟨w.heap.size, 0, none⟩) 1 1, .int .i64 65] 38)) := blk_new rfl
  rw [s1] at R X
  have RH := Lib.hid (r1.keeps b2)
  have BH := Lib.hid (bt b1 b2)
  have R := Lib.hid R
  clear r1 b1 b2 s1
  subst e1
  go_enter Tryz.func9, Tryz.ntmps9
  go_wp2
  exact bodyPost_ret (v := .slice (some ⟨w.heap.size + 1, 0, none⟩) 1 1) (by simp [results, Tryz.results9, go_sem]) rfl ⟨_, _, rfl, RH.out, X, R.out, BH.out⟩
theorem rows_xy {w : World} {g1 g2 : Nat} (h1 : Runs w (.slice (some ⟨g1, 0, none⟩) 2 2) ox.pl) (h2 : Runs w (.slice (some ⟨g2, 0, none⟩) 2 2) oy.pl) : opE.rows w [.int .u8 1, .int .u32 6, .int .u8 2, .slice (some ⟨g1, 0, none⟩) 2 2, .int .i64 120, .int .u8 1, .int .u32 7, .int .u8 2, .slice (some ⟨g2, 0, none⟩) 2 2, .int .i64 121] [ox, oy] := ⟨[.int .u8 1, .int .u32 6, .int .u8 2, .slice (some ⟨g1, 0, none⟩) 2 2, .int .i64 120], _, rfl, ⟨_, rfl, h1⟩, [.int .u8 1, .int .u32 7, .int .u8 2, .slice (some ⟨g2, 0, none⟩) 2 2, .int .i64 121], [], rfl, ⟨_, rfl, h2⟩, rfl⟩
set_option maxRecDepth 100000 in
set_option maxHeartbeats 8000000 in
theorem alive16_any (w : World) : Calls Tryz.prog 12 #[] w fun e w' => e = .returned (.bool true) ∧ Below w.heap.size w w' := by
  have CI : Hid (∀ (W : World) (v : Value), OpL W v [o1] → Calls Tryz.prog 7 #[v, .int .u8 2, .int .u32 5, .agg #[.int .u32 0, .int .u8 0], .int .i64 1, .string ⟨#[120, 121]⟩] W (DoneN [ox, oy] 0 W)) := fun W v h => by
    have := eInsert_any (r := 2) (t := 5) z0 1 ⟨#[120, 121]⟩ h (by decide) (by decide) (by decide) (by decide)
    rwa [show (⟨#[120, 121]⟩ : ByteArray).data.toList = [120, 121] from rfl, ins_xy.1, ins_xy.2] at this
  have CD : Hid (∀ (W : World) (v : Value), OpL W v [o1] → Calls Tryz.prog 16 #[v, .int .u8 2, .int .u32 5, .agg #[.int .u32 0, .int .u8 0], .int .i64 0, .int .i64 1] W (DoneN [od] 0 W)) := fun W v h => by
    have := eDelete_any (r := 2) (t := 5) z0 0 1 h (by decide) (by decide) (by decide)
    rwa [del_01.1, del_01.2] at this
  have SA : Hid (∀ (W : World) (u v : Value) (q : List Opn), OpL W u q → OpL W v q → Calls Tryz.prog 11 #[u, v] W fun e w' => e = .returned (.bool true) ∧ Below W.heap.size W w') := fun W u v q h h2 => by
    have := sameL_any h h2
    rwa [decide_eq_true rfl] at this
  go_enter Tryz.func12, Tryz.ntmps12
  go_wp2_with fail
  refine (one16_any _).mono ?_
  rintro e w1 ⟨g1, h1, rfl, -, -, o1', b1⟩
  have B1 := Lib.hid b1
  have O1 := Lib.hid o1'
  clear o1' b1
  go_wp2_with fail
  refine (CI.out _ _ O1.out).mono ?_
  rintro e w2 ⟨v2, rfl, o2, b2⟩
  have B2 := Lib.hid (bt B1.out b2)
  have O2 := Lib.hid o2.opl
  clear o2 b2 B1 O1 CI
  go_wp2_with fail
  refine (one16_any _).mono ?_
  rintro e w3 ⟨g3, h3, rfl, -, -, o3, b3⟩
  have B3 := Lib.hid (bt B2.out b3)
  have P3 := Lib.hid (O2.out.keeps b3)
  have O3 := Lib.hid o3
  clear o3 b3 O2 B2
  go_wp2_with fail
  refine (CD.out _ _ O3.out).mono ?_
  rintro e w4 ⟨v4, rfl, o4, b4⟩
  have B4 := Lib.hid (bt B3.out b4)
  have P4 := Lib.hid (P3.out.keeps b4)
  have O4 := Lib.hid o4.opl
  clear o4 b4 P3 B3 O3 CD
  obtain ⟨W1, e1⟩ : ∃ W, W = w4.alloc (.cells #[.int .u32 1, .int .u8 0, .int .i64 1, .int .u32 6, .int .u8 2, .int .i64 1] 32) := ⟨_, rfl⟩
  obtain ⟨W2, e2⟩ : ∃ W, W = W1.alloc (.cells #[.int .u32 1, .int .u8 0, .int .i64 1, .int .u32 6, .int .u8 2, .int .i64 2] 32) := ⟨_, rfl⟩
  obtain ⟨W3, e3⟩ : ∃ W, W = W2.alloc (.cells #[.int .u8 1, .int .u32 6, .int .u8 2, .slice (some ⟨w4.heap.size, 0, none⟩) 2 2, .int .i64 120, .int .u8 1, .int .u32 7, .int .u8 2, .slice (some ⟨w4.heap.size + 1, 0, none⟩) 2 2, .int .i64 121] 38) := ⟨_, rfl⟩
  have s1 : W1.heap.size = w4.heap.size + 1 := by rw [e1]; exact Array.size_push _
  have s2 : W2.heap.size = w4.heap.size + 1 + 1 := by rw [← s1, e2]; exact Array.size_push _
  have b1 : Below w4.heap.size w4 W1 := by rw [e1]; exact (Below.refl _ _).alloc (Nat.le_refl _) _
  have b2 : Below W1.heap.size W1 W2 := by rw [e2]; exact (Below.refl _ _).alloc (Nat.le_refl _) _
  have b3 : Below W2.heap.size W2 W3 := by rw [e3]; exact (Below.refl _ _).alloc (Nat.le_refl _) _
  have r1 : Runs W1 (.slice (some ⟨w4.heap.size, 0, none⟩) 2 2) ox.pl := by rw [e1]; exact runs_new w4 ox.pl 2 rfl (by decide) 32 (0, 0)
  have r2 : Runs W2 (.slice (some ⟨w4.heap.size + 1, 0, none⟩) 2 2) oy.pl := by rw [e2, ← s1]; exact runs_new W1 oy.pl 2 rfl (by decide) 32 (0, 0)
  have sq := seq_lit (w := W2) 2 rfl (by omega) (rows_xy (r1.keeps b2) r2)
  have b := bt (bt b1 b2) b3
  have B5 := Lib.hid (bt B4.out b)
  have P5 := Lib.hid (P4.out.keeps b)
  have O5 := Lib.hid (O4.out.keeps b)
  have R : Hid (OpL W3 (.slice (some ⟨w4.heap.size + 1 + 1, 0, none⟩) 2 2) [ox, oy]) := by rw [e3, ← s2]; exact sq
  clear sq r1 r2 b1 b2 b3 b s1 s2 B4 P4 O4
  subst e3 e2 e1
  go_wp2_with fail
  refine (SA.out _ _ _ _ P5.out R.out).mono ?_
  rintro e w6 ⟨rfl, b6⟩
  have B6 := Lib.hid (bt B5.out b6)
  have O6 := Lib.hid (O5.out.keeps b6)
  clear b6 B5 O5 P5 R
  go_wp2_with fail
  refine (one16_any _).mono ?_
  rintro e w7 ⟨g7, h7, rfl, r7, x7, -, b7⟩
  have B7 := Lib.hid (bt B6.out b7)
  have O7 := Lib.hid (O6.out.keeps b7)
  have R7 := Lib.hid r7
  have c3 := cell_of_row _ _ 3 _ _ _ x7.out
  clear r7 x7 b7 B6 O6
  have bo : Below w7.heap.size w7 (w7.alloc (.cells #[.int .u8 3, .int .u32 6, .int .u8 2, .slice (some ⟨h7, 0, none⟩) 1 1, .int .i64 0] 38)) := (Below.refl _ _).alloc (Nat.le_refl _) _
  have B8 := Lib.hid (bt B7.out bo)
  have O8 := Lib.hid (O7.out.keeps bo)
  have R8 := Lib.hid (opl_one (o := od) (w := w7) (u := .slice (some ⟨h7, 0, none⟩) 1 1) (c0 := .int .u8 3) (c1 := .int .u32 6) (c2 := .int .u8 2) (c4 := .int .i64 0) rfl rfl rfl rfl R7.out)
  clear bo B7 O7 R7
  go_wp2_with fail
  refine (SA.out _ _ _ _ O8.out R8.out).mono ?_
  rintro e w9 ⟨rfl, b9⟩
  have B9 := Lib.hid (bt B8.out b9)
  clear b9 B8 O8 R8 SA
  go_wp2
  go_ret
  exact ⟨rfl, B9.out⟩
end Go.Proofs.YtgjbnbojjgbmcaaGreat.Edits
