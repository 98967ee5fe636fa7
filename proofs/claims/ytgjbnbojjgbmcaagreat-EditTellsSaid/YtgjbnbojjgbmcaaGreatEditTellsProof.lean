/- EditTells answers true for every input, and changes nothing that was there. Conditions: none. -/
import Derived.Test.YtgjbnbojjgbmcaaGreatChecked
import Derived.WalkKit
import Derived.WalkSpells
import Derived.WalkLawsBesides
import Derived.Laws.BytesArg
import Derived.Lib.Hide
import Derived.Test.YtgjbnbojjgbmcaaGreatRows
import Derived.ProofKit
import Derived.SizedLaws
import Derived.Deep.LoopGhost
import Derived.Laws.AppendOwnNone
import Derived.Laws.OwnMore
import Derived.WideShapes
import Derived.Lib.SmallJoins
import Derived.Maps.AppendAt
import Derived.RegionTactic
import Derived.Deep.RegionHeld3
import Derived.Deep.DrawnRows
import Derived.Deep.QuietTactic
import Derived.BigQuiet
import Derived.IntWalk
import Derived.Deep.DeepCutAuto
import Derived.ScopeJumps
import Derived.Test.YtgjbnbojjgbmcaaGreatProg
import Derived.LoopTactic
import Derived.Laws.EntriesVeiled
import Derived.RowKit
import Derived.Lib.DecodeN
import Derived.Lib.RuneBytes
import Derived.Maps.Own
import Derived.Maps.OwnOps
import Derived.Maps.OwnSet
import Derived.Maps.Views
import Derived.DeepKeys4
import Derived.Shelf.SlSortCmp.InsertionK
import Derived.Calls
import Derived.StepT
import Derived.Below
import Derived.Sort.Grow
import Derived.Deep.Draws
import Derived.Shelf.SlLaysF0
import Derived.Shelf.SlSortCmp.NoneTotal
import Derived.Scope
import Derived.Shelf.Abstract
import Derived.RangeFuncBox
import Derived.RangeFuncLeaves
import Derived.RangeFuncNested
import Derived.RangeFuncBound
import Derived.RangeFuncCalls
import Derived.OwnWalkIn
import Derived.TacticsInMore
import Derived.LoopNIn
import Derived.LoopIn
import Derived.Lib.Tables
import Derived.Laws.Bits64
import Derived.Test.YtgjbnbojjgbmcaaGreatShelf
import Derived.Lib.OthersKept
import Derived.BigCall
import Derived.Laws.CopyOwn
import Derived.Deep.AppendSrc
import Derived.Lib.AppendZeros
import Derived.Laws.MakeOwn
import Derived.Deep.RegionWith
import Derived.BigRegion
import Derived.Tactics
import Derived.ChangeMaps5
import Derived.Test.YtgjbnbojjgbmcaaGreatPk01
import Derived.Test.YtgjbnbojjgbmcaaGreatPk15
import Derived.Test.YtgjbnbojjgbmcaaGreatPk21
import Derived.Test.YtgjbnbojjgbmcaaGreatPk33
import Derived.Test.YtgjbnbojjgbmcaaGreatPk20
import Derived.Test.YtgjbnbojjgbmcaaGreatPk03
import Derived.Test.YtgjbnbojjgbmcaaGreatPk02
import Derived.Test.YtgjbnbojjgbmcaaGreatPk34
import Derived.Test.YtgjbnbojjgbmcaaGreatPk04
import Derived.Test.YtgjbnbojjgbmcaaGreatPk19
import Derived.Test.YtgjbnbojjgbmcaaGreatPk42
import Derived.Test.YtgjbnbojjgbmcaaGreatPk12
import Derived.Test.YtgjbnbojjgbmcaaGreatPk11
import Derived.Test.YtgjbnbojjgbmcaaGreatPk06
import Derived.Test.YtgjbnbojjgbmcaaGreatPk05
import Derived.Test.YtgjbnbojjgbmcaaGreatPk35
import Derived.Test.YtgjbnbojjgbmcaaGreatPk10
import Derived.Test.YtgjbnbojjgbmcaaGreatPk38
import Derived.Test.YtgjbnbojjgbmcaaGreatPk37
import Derived.Test.YtgjbnbojjgbmcaaGreatPk36
import Derived.Test.YtgjbnbojjgbmcaaGreatPk39
import Derived.Test.YtgjbnbojjgbmcaaGreatPk07
import Derived.Test.YtgjbnbojjgbmcaaGreatPk08
import Derived.Test.YtgjbnbojjgbmcaaGreatPk09
import Derived.Test.YtgjbnbojjgbmcaaGreatPk40
import Derived.Test.YtgjbnbojjgbmcaaGreatPk13
import Derived.Test.YtgjbnbojjgbmcaaGreatPk41
namespace Go.Proofs.YtgjbnbojjgbmcaaGreat
open Go.ChangeShapes Go.WideShapes Go.ChangeAt Go.RowKit

set_option maxRecDepth 100000 in
theorem editTells_lifted (os : Os) (started : os.Started) (H : Type) (enc : TypeId × Value → H) :
    ReturnsInHanded {} Tryz.checked os 4 .any (Rows.editTellsSpec.pre6 enc Tryz.prog Tryz.f4 Rows.editTellsRow.domain false) (Rows.editTellsSpec.post enc Tryz.prog Tryz.f4 false true false false) := by
  refine returnsInHanded_of_change_sized (C := Tryz.checked) kit_own started (by kernel_rfl) Tryz.func4
    (ChangeSpec.witness6 (enc := enc) (C := Tryz.checked) false ⟨#[], #[.slice none 0 0, .int .u8 0, .int .u32 0, .agg #[.int .u32 0, .int .u8 0], .int .i64 0, .int .i64 0, .string ⟨#[]⟩], []⟩ 8 (by kernel_rfl) (by kernel_rfl) (by kernel_rfl) (by kernel_rfl)) ?_
  intro W base args ds gs before hval0 hW hcnd hsz _
  have hval : ∀ (j : Nat) t v, Tryz.f4.params[j]? = some t → args[j]? = some v → Value.okWide Tryz.prog W .any base t v := hval0
  have hW' := hW
  obtain ⟨p, q, hA0, hV, rfl, hfz, hnd⟩ := hW
  have hA : DataW.TrodAll enc Tryz.prog W 0 (fun _ => true) true Tryz.f4.params.toList args.toList ds p := hA0
  rw [Tryz.params4] at hA hval hsz
  obtain ⟨v0, v1, v2, v3, v4, v5, v6, d0, d1, d2, d3, d4, d5, d6, p0, p1, p2, p3, p4, p5, p6, rfl, rfl, rfl, h0, h1, h2, h3, h4, h5, h6⟩ := trodAll_seven hA
  obtain ⟨rfl, rfl⟩ := trodVars_none hV
  clear hA0 hval0
  simp only [List.append_nil] at hW'
  have hltA := fun x hx => hW'.lt x hx
  have hlt0 : ∀ x ∈ p0, x.block < W.heap.size := fun x hx => by simpa using hltA x (by simp [hx])
  have k0 := h0
  have hlt1 : ∀ x ∈ p1, x.block < W.heap.size := fun x hx => by simpa using hltA x (by simp [hx])
  have k1 := h1
  have hlt2 : ∀ x ∈ p2, x.block < W.heap.size := fun x hx => by simpa using hltA x (by simp [hx])
  have k2 := h2
  have hlt3 : ∀ x ∈ p3, x.block < W.heap.size := fun x hx => by simpa using hltA x (by simp [hx])
  have k3 := h3
  have hlt4 : ∀ x ∈ p4, x.block < W.heap.size := fun x hx => by simpa using hltA x (by simp [hx])
  have k4 := h4
  have hlt5 : ∀ x ∈ p5, x.block < W.heap.size := fun x hx => by simpa using hltA x (by simp [hx])
  have k5 := h5
  have hlt6 : ∀ x ∈ p6, x.block < W.heap.size := fun x hx => by simpa using hltA x (by simp [hx])
  have k6 := h6
  obtain ⟨ao0, cap0, xs0, rfl, hr0, hs0⟩ := ops_of (hval 0 22 v0 rfl rfl) h0
  have hz0 := hs0 (fun n hn => of_decide_eq_true (List.all_eq_true.1 hsz n (DataW.weights_mem_each (j := 0) (t := 22) rfl rfl n hn)))
  obtain ⟨a1, rfl, rfl, rfl, wa1⟩ := open_int Tryz.underlying5 (hval 1 5 v1 rfl rfl) h1
  obtain ⟨a2, rfl, rfl, rfl, wa2⟩ := open_int Tryz.underlying26 (hval 2 26 v2 rfl rfl) h2
  obtain ⟨a3, rfl⟩ := id_of (hval 3 28 v3 rfl rfl) h3
  obtain ⟨a4, rfl, rfl, rfl, wa4⟩ := open_int Tryz.underlying3 (hval 4 3 v4 rfl rfl) h4
  obtain ⟨a5, rfl, rfl, rfl, wa5⟩ := open_int Tryz.underlying3 (hval 5 3 v5 rfl rfl) h5
  obtain ⟨s6, rfl, rfl, rfl, hs6⟩ := Go.ChangeMaps.open_string Tryz.underlying9 (hval 6 9 v6 rfl rfl) h6
  obtain ⟨n1, rfl, hn1⟩ := wf_u8 wa1
  obtain ⟨n2, rfl, hn2⟩ := wf_u32s wa2
  refine (Edits.tells_walk a3 a4 a5 s6 hr0 hz0.2 hn1 hn2 (Edits.wf_k wa4)).mono fun e W' ⟨he, hb⟩ => ?_
  subst he
  exact ⟨_, rfl, _, _, _, [], _, [], hW', trodAll_mk1 (shut_bool Tryz.underlying4 _), trodAll_mk7 (Below.trod kit_laidOut (by kernel_rfl) (of_decide_eq_true (by kernel_rfl)) k0 hb hlt0) (Below.trod kit_laidOut (by kernel_rfl) (of_decide_eq_true (by kernel_rfl)) k1 hb hlt1) (Below.trod kit_laidOut (by kernel_rfl) (of_decide_eq_true (by kernel_rfl)) k2 hb hlt2) (Below.trod kit_laidOut (by kernel_rfl) (of_decide_eq_true (by kernel_rfl)) k3 hb hlt3) (Below.trod kit_laidOut (by kernel_rfl) (of_decide_eq_true (by kernel_rfl)) k4 hb hlt4) (Below.trod kit_laidOut (by kernel_rfl) (of_decide_eq_true (by kernel_rfl)) k5 hb hlt5) (Below.trod kit_laidOut (by kernel_rfl) (of_decide_eq_true (by kernel_rfl)) k6 hb hlt6), rfl, hb.frame _, fun h => by cases h⟩

theorem editTells_holds : Rows.EditTellsSaid :=
  OpenClaim.holds_of_wide 4 Tryz.f4 rfl rfl rfl rfl rfl rfl rfl ⟨rfl, rfl, rfl, rfl, rfl⟩ rfl rfl rfl rfl rfl (by kernel_rfl) Tryz.func4 (by kernel_rfl)
    (of_decide_eq_true (by kernel_rfl)) (by unfold Func.isWrapper; first | (rw [if_pos (by decide +kernel)]; kernel_rfl) | (rw [if_neg (by decide +kernel)]; exact ⟨rfl, rfl⟩))
    (fun os started H enc _ => editTells_lifted os started H enc)
end Go.Proofs.YtgjbnbojjgbmcaaGreat
