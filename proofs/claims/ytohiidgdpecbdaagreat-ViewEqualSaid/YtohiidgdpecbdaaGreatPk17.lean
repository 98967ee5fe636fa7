/- octavolaw15.four, shows, alive: what each answers. Conditions: none. octavolaw15.alike: what it answers. Conditions: the slices' cells are operations. -/
import Derived.Test.YtohiidgdpecbdaaGreatChecked
import Derived.WalkKit
import Derived.WalkSpells
import Derived.WalkLawsBesides
import Derived.Laws.BytesArg
import Derived.Lib.Hide
import Derived.Deep.LoopGhost
import Derived.Laws.AppendOwnNone
import Derived.Laws.OwnMore
import Derived.WideShapes
import Derived.Maps.AppendAt
import Derived.RegionTactic
import Derived.Deep.RegionHeld3
import Derived.Deep.DrawnRows
import Derived.Deep.QuietTactic
import Derived.BigQuiet
import Derived.IntWalk
import Derived.Deep.DeepCutAuto
import Derived.ScopeJumps
import Derived.Test.YtohiidgdpecbdaaGreatProg
import Derived.LoopTactic
import Derived.Laws.EntriesVeiled
import Derived.RowKit
import Derived.Lib.DecodeN
import Derived.Lib.RuneBytes
import Derived.Maps.Own
import Derived.Maps.OwnOps
import Derived.Maps.OwnSet
import Derived.Maps.Views
import Derived.DeepKeys4
import Derived.Shelf.SlSortCmp.InsertionK
import Derived.Calls
import Derived.StepT
import Derived.Below
import Derived.Sort.Grow
import Derived.Deep.Draws
import Derived.Shelf.SlLaysF0
import Derived.Shelf.SlSortCmp.NoneTotal
import Derived.Scope
import Derived.Shelf.Abstract
import Derived.RangeFuncBox
import Derived.RangeFuncLeaves
import Derived.RangeFuncNested
import Derived.RangeFuncBound
import Derived.RangeFuncCalls
import Derived.OwnWalkIn
import Derived.TacticsInMore
import Derived.LoopNIn
import Derived.LoopIn
import Derived.Lib.Tables
import Derived.Laws.Bits64
import Derived.Test.YtohiidgdpecbdaaGreatShelf
import Derived.Lib.OthersKept
import Derived.BigCall
import Derived.Laws.CopyOwn
import Derived.Deep.AppendSrc
import Derived.Lib.AppendZeros
import Derived.Laws.MakeOwn
import Derived.Lib.AppendZerosOnto
import Derived.Laws.NewBlocks
import Derived.Deep.RegionLaw
import Derived.Test.YtohiidgdpecbdaaGreatRw
import Derived.Test.YtohiidgdpecbdaaGreatPk09
import Derived.Test.YtohiidgdpecbdaaGreatPk06
import Derived.Test.YtohiidgdpecbdaaGreatPk05
import Derived.Test.YtohiidgdpecbdaaGreatPk10
import Derived.Test.YtohiidgdpecbdaaGreatPk04
import Derived.Test.YtohiidgdpecbdaaGreatPk03
import Derived.Test.YtohiidgdpecbdaaGreatPk02
import Derived.Test.YtohiidgdpecbdaaGreatPk01
import Derived.Test.YtohiidgdpecbdaaGreatPk16
import Derived.Test.YtohiidgdpecbdaaGreatPk07
import Derived.Test.YtohiidgdpecbdaaGreatPk08
import Derived.Test.YtohiidgdpecbdaaGreatPk11
import Derived.Test.YtohiidgdpecbdaaGreatPk12
import Derived.Test.YtohiidgdpecbdaaGreatPk13
import Derived.Test.YtohiidgdpecbdaaGreatPk14
import Derived.Test.YtohiidgdpecbdaaGreatPk15

namespace Go.Proofs.YtohiidgdpecbdaaGreat.Views
open Go.RowKit Go.WideShapes Stamp Go.Proofs.YtohiidgdpecbdaaGreat.Place Ops Codes Bags Marks Homes Covers
attribute [local go_sem ↓] Go.wp_at_zero Go.wp_at_succ
attribute [local go_sem] yielded_undef
def oa : Opn := ⟨1, 1, 0, [⟨1, 0, 1, by decide, by decide, by decide⟩], 65, by decide, by decide, by decide, by decide⟩
def ob : Opn := ⟨1, 2, 0, [⟨1, 0, 2, by decide, by decide, by decide⟩], 66, by decide, by decide, by decide, by decide⟩
def oc : Opn := ⟨1, 9, 1, [⟨1, 0, 1, by decide, by decide, by decide⟩, ⟨9, 1, 1, by decide, by decide, by decide⟩], 67, by decide, by decide, by decide, by decide⟩
def od : Opn := ⟨3, 10, 1, [⟨1, 0, 2, by decide, by decide, by decide⟩], 0, by decide, by decide, by decide, by decide⟩
/-- One more behind a list: what its cells hold. -/
theorem four_hold {W w5 : World} {base m n : Nat} {v u : Value} {cs : List Value} {l : List Opn} (o : Opn) {xs ys : Array Value} (hx : xs.toList = runs o.pl) (hn : n = o.pl.length) (hu : u = .slice (some ⟨W.heap.size, 0, none⟩) n n) (hm : xs.size = n * 3) (h47 : n ≤ 1000) (hb : base ≤ W.heap.size)
    (h1 : W.ownsRow base 62 5 v m cs) (h2 : HoldP W base cs l) (g5 : ((W.alloc (.cells xs 52)).alloc (.cells ys 62)).grownBy w5 v.ownBlock) :
    HoldP w5 base (cs ++ [.int .u8 (o.k : Int), .int .u32 (o.t : Int), .int .u8 (o.r : Int), u, .int .i64 o.p]) (l ++ [o]) := by
  subst hu
  have b1 : Below W.heap.size W (W.alloc (.cells xs 52)) := (Below.refl _ _).alloc (Nat.le_refl _) _
  have b2 : Below (W.alloc (.cells xs 52)).heap.size (W.alloc (.cells xs 52)) ((W.alloc (.cells xs 52)).alloc (.cells ys 62)) := (Below.refl _ _).alloc (Nat.le_refl _) _
  have hy := own_stays (own_stays h1 b1) b2
  have hr : (W.alloc (.cells xs 52)).ownsRow base 52 3 (.slice (some ⟨W.heap.size, 0, none⟩) n n) n (runs o.pl) := by
    rw [← hx]
    exact World.ownsRow_lit (base := base) (e := 52) (size := 3) W xs n hb (by have : maxLen = 9223372036854775807 := rfl; omega) hm
  rw [hn] at hr
  refine HoldP.append (HoldP.grown g5 hy ((h2.keeps b1).keeps b2)) ?_
  exact HoldP.grown g5 hy ⟨_, [], rfl, by rw [hn]; exact own_stays hr b2, rfl⟩
set_option maxRecDepth 100000 in
set_option maxHeartbeats 8000000 in
theorem tttf_any (w : World) : Calls Tryz.prog 43 #[.bool true, .bool true, .bool true, .bool false] w fun e w' => ∃ v, e = .returned v ∧ OwnL w' w.heap.size v [oa, ob, oc] ∧ Below w.heap.size w w' := by
  have LO0 : Hid (w.ownsRow w.heap.size 62 5 (.slice none 0 0) 0 []) := World.ownsRow_nil _ _ _ _
  have LH0 : Hid (HoldP w w.heap.size [] []) := rfl
  have B0 : Hid (Below w.heap.size w w) := Below.refl _ _
  go_enter Tryz.func43, Tryz.ntmps43
  have BX : Hid (Below w.heap.size w ((w.alloc (.cells #[.int .u32 1, .int .u8 0, .int .i64 1] 52)).alloc (.cells #[.int .u8 1, .int .u32 1, .int .u8 0, .slice (some ⟨w.heap.size, 0, none⟩) 1 1, .int .i64 65] 62))) := ((Below.refl _ _).alloc (Nat.le_refl _) _).alloc (by simp) _
  have OA := Lib.hid (own_stays LO0.out BX.out)
  have SE : Hid (Sees ((w.alloc (.cells #[.int .u32 1, .int .u8 0, .int .i64 1] 52)).alloc (.cells #[.int .u8 1, .int .u32 1, .int .u8 0, .slice (some ⟨w.heap.size, 0, none⟩) 1 1, .int .i64 65] 62)) (.slice (some ⟨w.heap.size + 1, 0, none⟩) 1 1) 5 1 [.int .u8 1, .int .u32 1, .int .u8 0, .slice (some ⟨w.heap.size, 0, none⟩) 1 1, .int .i64 65]) := by
    have h := sees_new (w.alloc (.cells #[.int .u32 1, .int .u8 0, .int .i64 1] 52)) [.int .u8 1, .int .u32 1, .int .u8 0, .slice (some ⟨w.heap.size, 0, none⟩) 1 1, .int .i64 65] 5 1 rfl (by omega) 62 (0, 0)
    rwa [show (w.alloc (.cells #[.int .u32 1, .int .u8 0, .int .i64 1] 52)).heap.size = w.heap.size + 1 from Array.size_push _] at h
  have FO : Hid (∀ z ∈ ([.int .u8 1, .int .u32 1, .int .u8 0, .slice (some ⟨w.heap.size, 0, none⟩) 1 1, .int .i64 65] : List Value), z.oneCell' = true) := fun z hz => by
    simp only [List.mem_cons, List.not_mem_nil, or_false] at hz
    rcases hz with rfl | rfl | rfl | rfl | rfl <;> rfl
  have BW := Lib.hid (bt B0.out BX.out)
  go_wp2_with (at_builtin; refine wpList_append_sees rfl (.tmp 11) (.tmp 16) 22 62 rfl Tryz.underlying22 op_info rfl (by decide) w.heap.size _ 0 [] rfl OA.out _ 1 [.int .u8 1, .int .u32 1, .int .u8 0, .slice (some ⟨w.heap.size, 0, none⟩) 1 1, .int .i64 65] rfl SE.out FO.out ?k1 ?k2 ?k3 ?_)
  case k1 => omega
  case k2 => omega
  case k3 => exact BW.out.size
  rintro v1 w1 o1 g1 b1
  have LO1 : Hid (w1.ownsRow w.heap.size 62 5 v1 1 [.int .u8 1, .int .u32 1, .int .u8 0, .slice (some ⟨w.heap.size, 0, none⟩) 1 1, .int .i64 65]) := o1
  have LH1 : Hid (HoldP w1 w.heap.size [.int .u8 1, .int .u32 1, .int .u8 0, .slice (some ⟨w.heap.size, 0, none⟩) 1 1, .int .i64 65] [oa]) := four_hold oa (xs := #[.int .u32 1, .int .u8 0, .int .i64 1]) (ys := #[.int .u8 1, .int .u32 1, .int .u8 0, .slice (some ⟨w.heap.size, 0, none⟩) 1 1, .int .i64 65]) (n := 1) rfl rfl rfl rfl (by omega) B0.out.size LO0.out LH0.out g1
  have B1 := Lib.hid (BW.out.trans b1)
  obtain ⟨a1, c1, rfl⟩ : ∃ ao cap, v1 = .slice ao 1 cap := Sees.shape (Sees.own o1)
  clear o1 g1 b1 BX OA SE FO BW LO0 LH0 B0
  have BX : Hid (Below w1.heap.size w1 ((w1.alloc (.cells #[.int .u32 1, .int .u8 0, .int .i64 2] 52)).alloc (.cells #[.int .u8 1, .int .u32 2, .int .u8 0, .slice (some ⟨w1.heap.size, 0, none⟩) 1 1, .int .i64 66] 62))) := ((Below.refl _ _).alloc (Nat.le_refl _) _).alloc (by simp) _
  have OA := Lib.hid (own_stays LO1.out BX.out)
  have SE : Hid (Sees ((w1.alloc (.cells #[.int .u32 1, .int .u8 0, .int .i64 2] 52)).alloc (.cells #[.int .u8 1, .int .u32 2, .int .u8 0, .slice (some ⟨w1.heap.size, 0, none⟩) 1 1, .int .i64 66] 62)) (.slice (some ⟨w1.heap.size + 1, 0, none⟩) 1 1) 5 1 [.int .u8 1, .int .u32 2, .int .u8 0, .slice (some ⟨w1.heap.size, 0, none⟩) 1 1, .int .i64 66]) := by
    have h := sees_new (w1.alloc (.cells #[.int .u32 1, .int .u8 0, .int .i64 2] 52)) [.int .u8 1, .int .u32 2, .int .u8 0, .slice (some ⟨w1.heap.size, 0, none⟩) 1 1, .int .i64 66] 5 1 rfl (by omega) 62 (0, 0)
    rwa [show (w1.alloc (.cells #[.int .u32 1, .int .u8 0, .int .i64 2] 52)).heap.size = w1.heap.size + 1 from Array.size_push _] at h
  have FO : Hid (∀ z ∈ ([.int .u8 1, .int .u32 2, .int .u8 0, .slice (some ⟨w1.heap.size, 0, none⟩) 1 1, .int .i64 66] : List Value), z.oneCell' = true) := fun z hz => by
    simp only [List.mem_cons, List.not_mem_nil, or_false] at hz
    rcases hz with rfl | rfl | rfl | rfl | rfl <;> rfl
  have BW := Lib.hid (bt B1.out BX.out)
  go_wp2_with (at_builtin; refine wpList_append_sees rfl (.tmp 19) (.tmp 24) 22 62 rfl Tryz.underlying22 op_info rfl (by decide) w.heap.size _ 1 [.int .u8 1, .int .u32 1, .int .u8 0, .slice (some ⟨w.heap.size, 0, none⟩) 1 1, .int .i64 65] rfl OA.out _ 1 [.int .u8 1, .int .u32 2, .int .u8 0, .slice (some ⟨w1.heap.size, 0, none⟩) 1 1, .int .i64 66] rfl SE.out FO.out ?k1 ?k2 ?k3 ?_)
  case k1 => omega
  case k2 => omega
  case k3 => exact BW.out.size
  rintro v2 w2 o2 g2 b2
  have LO2 : Hid (w2.ownsRow w.heap.size 62 5 v2 2 [.int .u8 1, .int .u32 1, .int .u8 0, .slice (some ⟨w.heap.size, 0, none⟩) 1 1, .int .i64 65, .int .u8 1, .int .u32 2, .int .u8 0, .slice (some ⟨w1.heap.size, 0, none⟩) 1 1, .int .i64 66]) := o2
  have LH2 : Hid (HoldP w2 w.heap.size [.int .u8 1, .int .u32 1, .int .u8 0, .slice (some ⟨w.heap.size, 0, none⟩) 1 1, .int .i64 65, .int .u8 1, .int .u32 2, .int .u8 0, .slice (some ⟨w1.heap.size, 0, none⟩) 1 1, .int .i64 66] [oa, ob]) := four_hold ob (xs := #[.int .u32 1, .int .u8 0, .int .i64 2]) (ys := #[.int .u8 1, .int .u32 2, .int .u8 0, .slice (some ⟨w1.heap.size, 0, none⟩) 1 1, .int .i64 66]) (n := 1) rfl rfl rfl rfl (by omega) B1.out.size LO1.out LH1.out g2
  have B2 := Lib.hid (BW.out.trans b2)
  obtain ⟨a2, c2, rfl⟩ : ∃ ao cap, v2 = .slice ao 2 cap := Sees.shape (Sees.own o2)
  clear o2 g2 b2 BX OA SE FO BW LO1 LH1 B1
  have BX : Hid (Below w2.heap.size w2 ((w2.alloc (.cells #[.int .u32 1, .int .u8 0, .int .i64 1, .int .u32 9, .int .u8 1, .int .i64 1] 52)).alloc (.cells #[.int .u8 1, .int .u32 9, .int .u8 1, .slice (some ⟨w2.heap.size, 0, none⟩) 2 2, .int .i64 67] 62))) := ((Below.refl _ _).alloc (Nat.le_refl _) _).alloc (by simp) _
  have OA := Lib.hid (own_stays LO2.out BX.out)
  have SE : Hid (Sees ((w2.alloc (.cells #[.int .u32 1, .int .u8 0, .int .i64 1, .int .u32 9, .int .u8 1, .int .i64 1] 52)).alloc (.cells #[.int .u8 1, .int .u32 9, .int .u8 1, .slice (some ⟨w2.heap.size, 0, none⟩) 2 2, .int .i64 67] 62)) (.slice (some ⟨w2.heap.size + 1, 0, none⟩) 1 1) 5 1 [.int .u8 1, .int .u32 9, .int .u8 1, .slice (some ⟨w2.heap.size, 0, none⟩) 2 2, .int .i64 67]) := by
    have h := sees_new (w2.alloc (.cells #[.int .u32 1, .int .u8 0, .int .i64 1, .int .u32 9, .int .u8 1, .int .i64 1] 52)) [.int .u8 1, .int .u32 9, .int .u8 1, .slice (some ⟨w2.heap.size, 0, none⟩) 2 2, .int .i64 67] 5 1 rfl (by omega) 62 (0, 0)
    rwa [show (w2.alloc (.cells #[.int .u32 1, .int .u8 0, .int .i64 1, .int .u32 9, .int .u8 1, .int .i64 1] 52)).heap.size = w2.heap.size + 1 from Array.size_push _] at h
  have FO : Hid (∀ z ∈ ([.int .u8 1, .int .u32 9, .int .u8 1, .slice (some ⟨w2.heap.size, 0, none⟩) 2 2, .int .i64 67] : List Value), z.oneCell' = true) := fun z hz => by
    simp only [List.mem_cons, List.not_mem_nil, or_false] at hz
    rcases hz with rfl | rfl | rfl | rfl | rfl <;> rfl
  have BW := Lib.hid (bt B2.out BX.out)
  go_wp2_with (at_builtin; refine wpList_append_sees rfl (.tmp 27) (.tmp 33) 22 62 rfl Tryz.underlying22 op_info rfl (by decide) w.heap.size _ 2 [.int .u8 1, .int .u32 1, .int .u8 0, .slice (some ⟨w.heap.size, 0, none⟩) 1 1, .int .i64 65, .int .u8 1, .int .u32 2, .int .u8 0, .slice (some ⟨w1.heap.size, 0, none⟩) 1 1, .int .i64 66] rfl OA.out _ 1 [.int .u8 1, .int .u32 9, .int .u8 1, .slice (some ⟨w2.heap.size, 0, none⟩) 2 2, .int .i64 67] rfl SE.out FO.out ?k1 ?k2 ?k3 ?_)
  case k1 => omega
  case k2 => omega
  case k3 => exact BW.out.size
  rintro v3 w3 o3 g3 b3
  have LO3 : Hid (w3.ownsRow w.heap.size 62 5 v3 3 [.int .u8 1, .int .u32 1, .int .u8 0, .slice (some ⟨w.heap.size, 0, none⟩) 1 1, .int .i64 65, .int .u8 1, .int .u32 2, .int .u8 0, .slice (some ⟨w1.heap.size, 0, none⟩) 1 1, .int .i64 66, .int .u8 1, .int .u32 9, .int .u8 1, .slice (some ⟨w2.heap.size, 0, none⟩) 2 2, .int .i64 67]) := o3
  have LH3 : Hid (HoldP w3 w.heap.size [.int .u8 1, .int .u32 1, .int .u8 0, .slice (some ⟨w.heap.size, 0, none⟩) 1 1, .int .i64 65, .int .u8 1, .int .u32 2, .int .u8 0, .slice (some ⟨w1.heap.size, 0, none⟩) 1 1, .int .i64 66, .int .u8 1, .int .u32 9, .int .u8 1, .slice (some ⟨w2.heap.size, 0, none⟩) 2 2, .int .i64 67] [oa, ob, oc]) := four_hold oc (xs := #[.int .u32 1, .int .u8 0, .int .i64 1, .int .u32 9, .int .u8 1, .int .i64 1]) (ys := #[.int .u8 1, .int .u32 9, .int .u8 1, .slice (some ⟨w2.heap.size, 0, none⟩) 2 2, .int .i64 67]) (n := 2) rfl rfl rfl rfl (by omega) B2.out.size LO2.out LH2.out g3
  have B3 := Lib.hid (BW.out.trans b3)
  obtain ⟨a3, c3, rfl⟩ : ∃ ao cap, v3 = .slice ao 3 cap := Sees.shape (Sees.own o3)
  clear o3 g3 b3 BX OA SE FO BW LO2 LH2 B2
  go_wp2
  go_ret
  exact ⟨_, rfl, ⟨_, LO3.out, LH3.out⟩, B3.out⟩
set_option maxRecDepth 100000 in
set_option maxHeartbeats 8000000 in
theorem tttt_any (w : World) : Calls Tryz.prog 43 #[.bool true, .bool true, .bool true, .bool true] w fun e w' => ∃ v, e = .returned v ∧ OwnL w' w.heap.size v [oa, ob, oc, od] ∧ Below w.heap.size w w' := by
  have LO0 : Hid (w.ownsRow w.heap.size 62 5 (.slice none 0 0) 0 []) := World.ownsRow_nil _ _ _ _
  have LH0 : Hid (HoldP w w.heap.size [] []) := rfl
  have B0 : Hid (Below w.heap.size w w) := Below.refl _ _
  go_enter Tryz.func43, Tryz.ntmps43
  have BX : Hid (Below w.heap.size w ((w.alloc (.cells #[.int .u32 1, .int .u8 0, .int .i64 1] 52)).alloc (.cells #[.int .u8 1, .int .u32 1, .int .u8 0, .slice (some ⟨w.heap.size, 0, none⟩) 1 1, .int .i64 65] 62))) := ((Below.refl _ _).alloc (Nat.le_refl _) _).alloc (by simp) _
  have OA := Lib.hid (own_stays LO0.out BX.out)
  have SE : Hid (Sees ((w.alloc (.cells #[.int .u32 1, .int .u8 0, .int .i64 1] 52)).alloc (.cells #[.int .u8 1, .int .u32 1, .int .u8 0, .slice (some ⟨w.heap.size, 0, none⟩) 1 1, .int .i64 65] 62)) (.slice (some ⟨w.heap.size + 1, 0, none⟩) 1 1) 5 1 [.int .u8 1, .int .u32 1, .int .u8 0, .slice (some ⟨w.heap.size, 0, none⟩) 1 1, .int .i64 65]) := by
    have h := sees_new (w.alloc (.cells #[.int .u32 1, .int .u8 0, .int .i64 1] 52)) [.int .u8 1, .int .u32 1, .int .u8 0, .slice (some ⟨w.heap.size, 0, none⟩) 1 1, .int .i64 65] 5 1 rfl (by omega) 62 (0, 0)
    rwa [show (w.alloc (.cells #[.int .u32 1, .int .u8 0, .int .i64 1] 52)).heap.size = w.heap.size + 1 from Array.size_push _] at h
  have FO : Hid (∀ z ∈ ([.int .u8 1, .int .u32 1, .int .u8 0, .slice (some ⟨w.heap.size, 0, none⟩) 1 1, .int .i64 65] : List Value), z.oneCell' = true) := fun z hz => by
    simp only [List.mem_cons, List.not_mem_nil, or_false] at hz
    rcases hz with rfl | rfl | rfl | rfl | rfl <;> rfl
  have BW := Lib.hid (bt B0.out BX.out)
  go_wp2_with (at_builtin; refine wpList_append_sees rfl (.tmp 11) (.tmp 16) 22 62 rfl Tryz.underlying22 op_info rfl (by decide) w.heap.size _ 0 [] rfl OA.out _ 1 [.int .u8 1, .int .u32 1, .int .u8 0, .slice (some ⟨w.heap.size, 0, none⟩) 1 1, .int .i64 65] rfl SE.out FO.out ?k1 ?k2 ?k3 ?_)
  case k1 => omega
  case k2 => omega
  case k3 => exact BW.out.size
  rintro v1 w1 o1 g1 b1
  have LO1 : Hid (w1.ownsRow w.heap.size 62 5 v1 1 [.int .u8 1, .int .u32 1, .int .u8 0, .slice (some ⟨w.heap.size, 0, none⟩) 1 1, .int .i64 65]) := o1
  have LH1 : Hid (HoldP w1 w.heap.size [.int .u8 1, .int .u32 1, .int .u8 0, .slice (some ⟨w.heap.size, 0, none⟩) 1 1, .int .i64 65] [oa]) := four_hold oa (xs := #[.int .u32 1, .int .u8 0, .int .i64 1]) (ys := #[.int .u8 1, .int .u32 1, .int .u8 0, .slice (some ⟨w.heap.size, 0, none⟩) 1 1, .int .i64 65]) (n := 1) rfl rfl rfl rfl (by omega) B0.out.size LO0.out LH0.out g1
  have B1 := Lib.hid (BW.out.trans b1)
  obtain ⟨a1, c1, rfl⟩ : ∃ ao cap, v1 = .slice ao 1 cap := Sees.shape (Sees.own o1)
  clear o1 g1 b1 BX OA SE FO BW LO0 LH0 B0
  have BX : Hid (Below w1.heap.size w1 ((w1.alloc (.cells #[.int .u32 1, .int .u8 0, .int .i64 2] 52)).alloc (.cells #[.int .u8 1, .int .u32 2, .int .u8 0, .slice (some ⟨w1.heap.size, 0, none⟩) 1 1, .int .i64 66] 62))) := ((Below.refl _ _).alloc (Nat.le_refl _) _).alloc (by simp) _
  have OA := Lib.hid (own_stays LO1.out BX.out)
  have SE : Hid (Sees ((w1.alloc (.cells #[.int .u32 1, .int .u8 0, .int .i64 2] 52)).alloc (.cells #[.int .u8 1, .int .u32 2, .int .u8 0, .slice (some ⟨w1.heap.size, 0, none⟩) 1 1, .int .i64 66] 62)) (.slice (some ⟨w1.heap.size + 1, 0, none⟩) 1 1) 5 1 [.int .u8 1, .int .u32 2, .int .u8 0, .slice (some ⟨w1.heap.size, 0, none⟩) 1 1, .int .i64 66]) := by
    have h := sees_new (w1.alloc (.cells #[.int .u32 1, .int .u8 0, .int .i64 2] 52)) [.int .u8 1, .int .u32 2, .int .u8 0, .slice (some ⟨w1.heap.size, 0, none⟩) 1 1, .int .i64 66] 5 1 rfl (by omega) 62 (0, 0)
    rwa [show (w1.alloc (.cells #[.int .u32 1, .int .u8 0, .int .i64 2] 52)).heap.size = w1.heap.size + 1 from Array.size_push _] at h
  have FO : Hid (∀ z ∈ ([.int .u8 1, .int .u32 2, .int .u8 0, .slice (some ⟨w1.heap.size, 0, none⟩) 1 1, .int .i64 66] : List Value), z.oneCell' = true) := fun z hz => by
    simp only [List.mem_cons, List.not_mem_nil, or_false] at hz
    rcases hz with rfl | rfl | rfl | rfl | rfl <;> rfl
  have BW := Lib.hid (bt B1.out BX.out)
  go_wp2_with (at_builtin; refine wpList_append_sees rfl (.tmp 19) (.tmp 24) 22 62 rfl Tryz.underlying22 op_info rfl (by decide) w.heap.size _ 1 [.int .u8 1, .int .u32 1, .int .u8 0, .slice (some ⟨w.heap.size, 0, none⟩) 1 1, .int .i64 65] rfl OA.out _ 1 [.int .u8 1, .int .u32 2, .int .u8 0, .slice (some ⟨w1.heap.size, 0, none⟩) 1 1, .int .i64 66] rfl SE.out FO.out ?k1 ?k2 ?k3 ?_)
  case k1 => omega
  case k2 => omega
  case k3 => exact BW.out.size
  rintro v2 w2 o2 g2 b2
  have LO2 : Hid (w2.ownsRow w.heap.size 62 5 v2 2 [.int .u8 1, .int .u32 1, .int .u8 0, .slice (some ⟨w.heap.size, 0, none⟩) 1 1, .int .i64 65, .int .u8 1, .int .u32 2, .int .u8 0, .slice (some ⟨w1.heap.size, 0, none⟩) 1 1, .int .i64 66]) := o2
  have LH2 : Hid (HoldP w2 w.heap.size [.int .u8 1, .int .u32 1, .int .u8 0, .slice (some ⟨w.heap.size, 0, none⟩) 1 1, .int .i64 65, .int .u8 1, .int .u32 2, .int .u8 0, .slice (some ⟨w1.heap.size, 0, none⟩) 1 1, .int .i64 66] [oa, ob]) := four_hold ob (xs := #[.int .u32 1, .int .u8 0, .int .i64 2]) (ys := #[.int .u8 1, .int .u32 2, .int .u8 0, .slice (some ⟨w1.heap.size, 0, none⟩) 1 1, .int .i64 66]) (n := 1) rfl rfl rfl rfl (by omega) B1.out.size LO1.out LH1.out g2
  have B2 := Lib.hid (BW.out.trans b2)
  obtain ⟨a2, c2, rfl⟩ : ∃ ao cap, v2 = .slice ao 2 cap := Sees.shape (Sees.own o2)
  clear o2 g2 b2 BX OA SE FO BW LO1 LH1 B1
  have BX : Hid (Below w2.heap.size w2 ((w2.alloc (.cells #[.int .u32 1, .int .u8 0, .int .i64 1, .int .u32 9, .int .u8 1, .int .i64 1] 52)).alloc (.cells #[.int .u8 1, .int .u32 9, .int .u8 1, .slice (some ⟨w2.heap.size, 0, none⟩) 2 2, .int .i64 67] 62))) := ((Below.refl _ _).alloc (Nat.le_refl _) _).alloc (by simp) _
  have OA := Lib.hid (own_stays LO2.out BX.out)
  have SE : Hid (Sees ((w2.alloc (.cells #[.int .u32 1, .int .u8 0, .int .i64 1, .int .u32 9, .int .u8 1, .int .i64 1] 52)).alloc (.cells #[.int .u8 1, .int .u32 9, .int .u8 1, .slice (some ⟨w2.heap.size, 0, none⟩) 2 2, .int .i64 67] 62)) (.slice (some ⟨w2.heap.size + 1, 0, none⟩) 1 1) 5 1 [.int .u8 1, .int .u32 9, .int .u8 1, .slice (some ⟨w2.heap.size, 0, none⟩) 2 2, .int .i64 67]) := by
    have h := sees_new (w2.alloc (.cells #[.int .u32 1, .int .u8 0, .int .i64 1, .int .u32 9, .int .u8 1, .int .i64 1] 52)) [.int .u8 1, .int .u32 9, .int .u8 1, .slice (some ⟨w2.heap.size, 0, none⟩) 2 2, .int .i64 67] 5 1 rfl (by omega) 62 (0, 0)
    rwa [show (w2.alloc (.cells #[.int .u32 1, .int .u8 0, .int .i64 1, .int .u32 9, .int .u8 1, .int .i64 1] 52)).heap.size = w2.heap.size + 1 from Array.size_push _] at h
  have FO : Hid (∀ z ∈ ([.int .u8 1, .int .u32 9, .int .u8 1, .slice (some ⟨w2.heap.size, 0, none⟩) 2 2, .int .i64 67] : List Value), z.oneCell' = true) := fun z hz => by
    simp only [List.mem_cons, List.not_mem_nil, or_false] at hz
    rcases hz with rfl | rfl | rfl | rfl | rfl <;> rfl
  have BW := Lib.hid (bt B2.out BX.out)
  go_wp2_with (at_builtin; refine wpList_append_sees rfl (.tmp 27) (.tmp 33) 22 62 rfl Tryz.underlying22 op_info rfl (by decide) w.heap.size _ 2 [.int .u8 1, .int .u32 1, .int .u8 0, .slice (some ⟨w.heap.size, 0, none⟩) 1 1, .int .i64 65, .int .u8 1, .int .u32 2, .int .u8 0, .slice (some ⟨w1.heap.size, 0, none⟩) 1 1, .int .i64 66] rfl OA.out _ 1 [.int .u8 1, .int .u32 9, .int .u8 1, .slice (some ⟨w2.heap.size, 0, none⟩) 2 2, .int .i64 67] rfl SE.out FO.out ?k1 ?k2 ?k3 ?_)
  case k1 => omega
  case k2 => omega
  case k3 => exact BW.out.size
  rintro v3 w3 o3 g3 b3
  have LO3 : Hid (w3.ownsRow w.heap.size 62 5 v3 3 [.int .u8 1, .int .u32 1, .int .u8 0, .slice (some ⟨w.heap.size, 0, none⟩) 1 1, .int .i64 65, .int .u8 1, .int .u32 2, .int .u8 0, .slice (some ⟨w1.heap.size, 0, none⟩) 1 1, .int .i64 66, .int .u8 1, .int .u32 9, .int .u8 1, .slice (some ⟨w2.heap.size, 0, none⟩) 2 2, .int .i64 67]) := o3
  have LH3 : Hid (HoldP w3 w.heap.size [.int .u8 1, .int .u32 1, .int .u8 0, .slice (some ⟨w.heap.size, 0, none⟩) 1 1, .int .i64 65, .int .u8 1, .int .u32 2, .int .u8 0, .slice (some ⟨w1.heap.size, 0, none⟩) 1 1, .int .i64 66, .int .u8 1, .int .u32 9, .int .u8 1, .slice (some ⟨w2.heap.size, 0, none⟩) 2 2, .int .i64 67] [oa, ob, oc]) := four_hold oc (xs := #[.int .u32 1, .int .u8 0, .int .i64 1, .int .u32 9, .int .u8 1, .int .i64 1]) (ys := #[.int .u8 1, .int .u32 9, .int .u8 1, .slice (some ⟨w2.heap.size, 0, none⟩) 2 2, .int .i64 67]) (n := 2) rfl rfl rfl rfl (by omega) B2.out.size LO2.out LH2.out g3
  have B3 := Lib.hid (BW.out.trans b3)
  obtain ⟨a3, c3, rfl⟩ : ∃ ao cap, v3 = .slice ao 3 cap := Sees.shape (Sees.own o3)
  clear o3 g3 b3 BX OA SE FO BW LO2 LH2 B2
  have BX : Hid (Below w3.heap.size w3 ((w3.alloc (.cells #[.int .u32 1, .int .u8 0, .int .i64 2] 52)).alloc (.cells #[.int .u8 3, .int .u32 10, .int .u8 1, .slice (some ⟨w3.heap.size, 0, none⟩) 1 1, .int .i64 0] 62))) := ((Below.refl _ _).alloc (Nat.le_refl _) _).alloc (by simp) _
  have OA := Lib.hid (own_stays LO3.out BX.out)
  have SE : Hid (Sees ((w3.alloc (.cells #[.int .u32 1, .int .u8 0, .int .i64 2] 52)).alloc (.cells #[.int .u8 3, .int .u32 10, .int .u8 1, .slice (some ⟨w3.heap.size, 0, none⟩) 1 1, .int .i64 0] 62)) (.slice (some ⟨w3.heap.size + 1, 0, none⟩) 1 1) 5 1 [.int .u8 3, .int .u32 10, .int .u8 1, .slice (some ⟨w3.heap.size, 0, none⟩) 1 1, .int .i64 0]) := by
    have h := sees_new (w3.alloc (.cells #[.int .u32 1, .int .u8 0, .int .i64 2] 52)) [.int .u8 3, .int .u32 10, .int .u8 1, .slice (some ⟨w3.heap.size, 0, none⟩) 1 1, .int .i64 0] 5 1 rfl (by omega) 62 (0, 0)
    rwa [show (w3.alloc (.cells #[.int .u32 1, .int .u8 0, .int .i64 2] 52)).heap.size = w3.heap.size + 1 from Array.size_push _] at h
  have FO : Hid (∀ z ∈ ([.int .u8 3, .int .u32 10, .int .u8 1, .slice (some ⟨w3.heap.size, 0, none⟩) 1 1, .int .i64 0] : List Value), z.oneCell' = true) := fun z hz => by
    simp only [List.mem_cons, List.not_mem_nil, or_false] at hz
    rcases hz with rfl | rfl | rfl | rfl | rfl <;> rfl
  have BW := Lib.hid (bt B3.out BX.out)
  go_wp2_with (at_builtin; refine wpList_append_sees rfl (.tmp 36) (.tmp 41) 22 62 rfl Tryz.underlying22 op_info rfl (by decide) w.heap.size _ 3 [.int .u8 1, .int .u32 1, .int .u8 0, .slice (some ⟨w.heap.size, 0, none⟩) 1 1, .int .i64 65, .int .u8 1, .int .u32 2, .int .u8 0, .slice (some ⟨w1.heap.size, 0, none⟩) 1 1, .int .i64 66, .int .u8 1, .int .u32 9, .int .u8 1, .slice (some ⟨w2.heap.size, 0, none⟩) 2 2, .int .i64 67] rfl OA.out _ 1 [.int .u8 3, .int .u32 10, .int .u8 1, .slice (some ⟨w3.heap.size, 0, none⟩) 1 1, .int .i64 0] rfl SE.out FO.out ?k1 ?k2 ?k3 ?_)
  case k1 => omega
  case k2 => omega
  case k3 => exact BW.out.size
  rintro v4 w4 o4 g4 b4
  have LO4 : Hid (w4.ownsRow w.heap.size 62 5 v4 4 [.int .u8 1, .int .u32 1, .int .u8 0, .slice (some ⟨w.heap.size, 0, none⟩) 1 1, .int .i64 65, .int .u8 1, .int .u32 2, .int .u8 0, .slice (some ⟨w1.heap.size, 0, none⟩) 1 1, .int .i64 66, .int .u8 1, .int .u32 9, .int .u8 1, .slice (some ⟨w2.heap.size, 0, none⟩) 2 2, .int .i64 67, .int .u8 3, .int .u32 10, .int .u8 1, .slice (some ⟨w3.heap.size, 0, none⟩) 1 1, .int .i64 0]) := o4
  have LH4 : Hid (HoldP w4 w.heap.size [.int .u8 1, .int .u32 1, .int .u8 0, .slice (some ⟨w.heap.size, 0, none⟩) 1 1, .int .i64 65, .int .u8 1, .int .u32 2, .int .u8 0, .slice (some ⟨w1.heap.size, 0, none⟩) 1 1, .int .i64 66, .int .u8 1, .int .u32 9, .int .u8 1, .slice (some ⟨w2.heap.size, 0, none⟩) 2 2, .int .i64 67, .int .u8 3, .int .u32 10, .int .u8 1, .slice (some ⟨w3.heap.size, 0, none⟩) 1 1, .int .i64 0] [oa, ob, oc, od]) := four_hold od (xs := #[.int .u32 1, .int .u8 0, .int .i64 2]) (ys := #[.int .u8 3, .int .u32 10, .int .u8 1, .slice (some ⟨w3.heap.size, 0, none⟩) 1 1, .int .i64 0]) (n := 1) rfl rfl rfl rfl (by omega) B3.out.size LO3.out LH3.out g4
  have B4 := Lib.hid (BW.out.trans b4)
  obtain ⟨a4, c4, rfl⟩ : ∃ ao cap, v4 = .slice ao 4 cap := Sees.shape (Sees.own o4)
  clear o4 g4 b4 BX OA SE FO BW LO3 LH3 B3
  go_wp2
  go_ret
  exact ⟨_, rfl, ⟨_, LO4.out, LH4.out⟩, B4.out⟩
set_option maxRecDepth 100000 in
set_option maxHeartbeats 8000000 in
theorem fttt_any (w : World) : Calls Tryz.prog 43 #[.bool false, .bool true, .bool true, .bool true] w fun e w' => ∃ v, e = .returned v ∧ OwnL w' w.heap.size v [ob, oc, od] ∧ Below w.heap.size w w' := by
  have LO0 : Hid (w.ownsRow w.heap.size 62 5 (.slice none 0 0) 0 []) := World.ownsRow_nil _ _ _ _
  have LH0 : Hid (HoldP w w.heap.size [] []) := rfl
  have B0 : Hid (Below w.heap.size w w) := Below.refl _ _
  go_enter Tryz.func43, Tryz.ntmps43
  have BX : Hid (Below w.heap.size w ((w.alloc (.cells #[.int .u32 1, .int .u8 0, .int .i64 2] 52)).alloc (.cells #[.int .u8 1, .int .u32 2, .int .u8 0, .slice (some ⟨w.heap.size, 0, none⟩) 1 1, .int .i64 66] 62))) := ((Below.refl _ _).alloc (Nat.le_refl _) _).alloc (by simp) _
  have OA := Lib.hid (own_stays LO0.out BX.out)
  have SE : Hid (Sees ((w.alloc (.cells #[.int .u32 1, .int .u8 0, .int .i64 2] 52)).alloc (.cells #[.int .u8 1, .int .u32 2, .int .u8 0, .slice (some ⟨w.heap.size, 0, none⟩) 1 1, .int .i64 66] 62)) (.slice (some ⟨w.heap.size + 1, 0, none⟩) 1 1) 5 1 [.int .u8 1, .int .u32 2, .int .u8 0, .slice (some ⟨w.heap.size, 0, none⟩) 1 1, .int .i64 66]) := by
    have h := sees_new (w.alloc (.cells #[.int .u32 1, .int .u8 0, .int .i64 2] 52)) [.int .u8 1, .int .u32 2, .int .u8 0, .slice (some ⟨w.heap.size, 0, none⟩) 1 1, .int .i64 66] 5 1 rfl (by omega) 62 (0, 0)
    rwa [show (w.alloc (.cells #[.int .u32 1, .int .u8 0, .int .i64 2] 52)).heap.size = w.heap.size + 1 from Array.size_push _] at h
  have FO : Hid (∀ z ∈ ([.int .u8 1, .int .u32 2, .int .u8 0, .slice (some ⟨w.heap.size, 0, none⟩) 1 1, .int .i64 66] : List Value), z.oneCell' = true) := fun z hz => by
    simp only [List.mem_cons, List.not_mem_nil, or_false] at hz
    rcases hz with rfl | rfl | rfl | rfl | rfl <;> rfl
  have BW := Lib.hid (bt B0.out BX.out)
  go_wp2_with (at_builtin; refine wpList_append_sees rfl (.tmp 19) (.tmp 24) 22 62 rfl Tryz.underlying22 op_info rfl (by decide) w.heap.size _ 0 [] rfl OA.out _ 1 [.int .u8 1, .int .u32 2, .int .u8 0, .slice (some ⟨w.heap.size, 0, none⟩) 1 1, .int .i64 66] rfl SE.out FO.out ?k1 ?k2 ?k3 ?_)
  case k1 => omega
  case k2 => omega
  case k3 => exact BW.out.size
  rintro v1 w1 o1 g1 b1
  have LO1 : Hid (w1.ownsRow w.heap.size 62 5 v1 1 [.int .u8 1, .int .u32 2, .int .u8 0, .slice (some ⟨w.heap.size, 0, none⟩) 1 1, .int .i64 66]) := o1
  have LH1 : Hid (HoldP w1 w.heap.size [.int .u8 1, .int .u32 2, .int .u8 0, .slice (some ⟨w.heap.size, 0, none⟩) 1 1, .int .i64 66] [ob]) := four_hold ob (xs := #[.int .u32 1, .int .u8 0, .int .i64 2]) (ys := #[.int .u8 1, .int .u32 2, .int .u8 0, .slice (some ⟨w.heap.size, 0, none⟩) 1 1, .int .i64 66]) (n := 1) rfl rfl rfl rfl (by omega) B0.out.size LO0.out LH0.out g1
  have B1 := Lib.hid (BW.out.trans b1)
  obtain ⟨a1, c1, rfl⟩ : ∃ ao cap, v1 = .slice ao 1 cap := Sees.shape (Sees.own o1)
  clear o1 g1 b1 BX OA SE FO BW LO0 LH0 B0
  have BX : Hid (Below w1.heap.size w1 ((w1.alloc (.cells #[.int .u32 1, .int .u8 0, .int .i64 1, .int .u32 9, .int .u8 1, .int .i64 1] 52)).alloc (.cells #[.int .u8 1, .int .u32 9, .int .u8 1, .slice (some ⟨w1.heap.size, 0, none⟩) 2 2, .int .i64 67] 62))) := ((Below.refl _ _).alloc (Nat.le_refl _) _).alloc (by simp) _
  have OA := Lib.hid (own_stays LO1.out BX.out)
  have SE : Hid (Sees ((w1.alloc (.cells #[.int .u32 1, .int .u8 0, .int .i64 1, .int .u32 9, .int .u8 1, .int .i64 1] 52)).alloc (.cells #[.int .u8 1, .int .u32 9, .int .u8 1, .slice (some ⟨w1.heap.size, 0, none⟩) 2 2, .int .i64 67] 62)) (.slice (some ⟨w1.heap.size + 1, 0, none⟩) 1 1) 5 1 [.int .u8 1, .int .u32 9, .int .u8 1, .slice (some ⟨w1.heap.size, 0, none⟩) 2 2, .int .i64 67]) := by
    have h := sees_new (w1.alloc (.cells #[.int .u32 1, .int .u8 0, .int .i64 1, .int .u32 9, .int .u8 1, .int .i64 1] 52)) [.int .u8 1, .int .u32 9, .int .u8 1, .slice (some ⟨w1.heap.size, 0, none⟩) 2 2, .int .i64 67] 5 1 rfl (by omega) 62 (0, 0)
    rwa [show (w1.alloc (.cells #[.int .u32 1, .int .u8 0, .int .i64 1, .int .u32 9, .int .u8 1, .int .i64 1] 52)).heap.size = w1.heap.size + 1 from Array.size_push _] at h
  have FO : Hid (∀ z ∈ ([.int .u8 1, .int .u32 9, .int .u8 1, .slice (some ⟨w1.heap.size, 0, none⟩) 2 2, .int .i64 67] : List Value), z.oneCell' = true) := fun z hz => by
    simp only [List.mem_cons, List.not_mem_nil, or_false] at hz
    rcases hz with rfl | rfl | rfl | rfl | rfl <;> rfl
  have BW := Lib.hid (bt B1.out BX.out)
  go_wp2_with (at_builtin; refine wpList_append_sees rfl (.tmp 27) (.tmp 33) 22 62 rfl Tryz.underlying22 op_info rfl (by decide) w.heap.size _ 1 [.int .u8 1, .int .u32 2, .int .u8 0, .slice (some ⟨w.heap.size, 0, none⟩) 1 1, .int .i64 66] rfl OA.out _ 1 [.int .u8 1, .int .u32 9, .int .u8 1, .slice (some ⟨w1.heap.size, 0, none⟩) 2 2, .int .i64 67] rfl SE.out FO.out ?k1 ?k2 ?k3 ?_)
  case k1 => omega
  case k2 => omega
  case k3 => exact BW.out.size
  rintro v2 w2 o2 g2 b2
  have LO2 : Hid (w2.ownsRow w.heap.size 62 5 v2 2 [.int .u8 1, .int .u32 2, .int .u8 0, .slice (some ⟨w.heap.size, 0, none⟩) 1 1, .int .i64 66, .int .u8 1, .int .u32 9, .int .u8 1, .slice (some ⟨w1.heap.size, 0, none⟩) 2 2, .int .i64 67]) := o2
  have LH2 : Hid (HoldP w2 w.heap.size [.int .u8 1, .int .u32 2, .int .u8 0, .slice (some ⟨w.heap.size, 0, none⟩) 1 1, .int .i64 66, .int .u8 1, .int .u32 9, .int .u8 1, .slice (some ⟨w1.heap.size, 0, none⟩) 2 2, .int .i64 67] [ob, oc]) := four_hold oc (xs := #[.int .u32 1, .int .u8 0, .int .i64 1, .int .u32 9, .int .u8 1, .int .i64 1]) (ys := #[.int .u8 1, .int .u32 9, .int .u8 1, .slice (some ⟨w1.heap.size, 0, none⟩) 2 2, .int .i64 67]) (n := 2) rfl rfl rfl rfl (by omega) B1.out.size LO1.out LH1.out g2
  have B2 := Lib.hid (BW.out.trans b2)
  obtain ⟨a2, c2, rfl⟩ : ∃ ao cap, v2 = .slice ao 2 cap := Sees.shape (Sees.own o2)
  clear o2 g2 b2 BX OA SE FO BW LO1 LH1 B1
  have BX : Hid (Below w2.heap.size w2 ((w2.alloc (.cells #[.int .u32 1, .int .u8 0, .int .i64 2] 52)).alloc (.cells #[.int .u8 3, .int .u32 10, .int .u8 1, .slice (some ⟨w2.heap.size, 0, none⟩) 1 1, .int .i64 0] 62))) := ((Below.refl _ _).alloc (Nat.le_refl _) _).alloc (by simp) _
  have OA := Lib.hid (own_stays LO2.out BX.out)
  have SE : Hid (Sees ((w2.alloc (.cells #[.int .u32 1, .int .u8 0, .int .i64 2] 52)).alloc (.cells #[.int .u8 3, .int .u32 10, .int .u8 1, .slice (some ⟨w2.heap.size, 0, none⟩) 1 1, .int .i64 0] 62)) (.slice (some ⟨w2.heap.size + 1, 0, none⟩) 1 1) 5 1 [.int .u8 3, .int .u32 10, .int .u8 1, .slice (some ⟨w2.heap.size, 0, none⟩) 1 1, .int .i64 0]) := by
    have h := sees_new (w2.alloc (.cells #[.int .u32 1, .int .u8 0, .int .i64 2] 52)) [.int .u8 3, .int .u32 10, .int .u8 1, .slice (some ⟨w2.heap.size, 0, none⟩) 1 1, .int .i64 0] 5 1 rfl (by omega) 62 (0, 0)
    rwa [show (w2.alloc (.cells #[.int .u32 1, .int .u8 0, .int .i64 2] 52)).heap.size = w2.heap.size + 1 from Array.size_push _] at h
  have FO : Hid (∀ z ∈ ([.int .u8 3, .int .u32 10, .int .u8 1, .slice (some ⟨w2.heap.size, 0, none⟩) 1 1, .int .i64 0] : List Value), z.oneCell' = true) := fun z hz => by
    simp only [List.mem_cons, List.not_mem_nil, or_false] at hz
    rcases hz with rfl | rfl | rfl | rfl | rfl <;> rfl
  have BW := Lib.hid (bt B2.out BX.out)
  go_wp2_with (at_builtin; refine wpList_append_sees rfl (.tmp 36) (.tmp 41) 22 62 rfl Tryz.underlying22 op_info rfl (by decide) w.heap.size _ 2 [.int .u8 1, .int .u32 2, .int .u8 0, .slice (some ⟨w.heap.size, 0, none⟩) 1 1, .int .i64 66, .int .u8 1, .int .u32 9, .int .u8 1, .slice (some ⟨w1.heap.size, 0, none⟩) 2 2, .int .i64 67] rfl OA.out _ 1 [.int .u8 3, .int .u32 10, .int .u8 1, .slice (some ⟨w2.heap.size, 0, none⟩) 1 1, .int .i64 0] rfl SE.out FO.out ?k1 ?k2 ?k3 ?_)
  case k1 => omega
  case k2 => omega
  case k3 => exact BW.out.size
  rintro v3 w3 o3 g3 b3
  have LO3 : Hid (w3.ownsRow w.heap.size 62 5 v3 3 [.int .u8 1, .int .u32 2, .int .u8 0, .slice (some ⟨w.heap.size, 0, none⟩) 1 1, .int .i64 66, .int .u8 1, .int .u32 9, .int .u8 1, .slice (some ⟨w1.heap.size, 0, none⟩) 2 2, .int .i64 67, .int .u8 3, .int .u32 10, .int .u8 1, .slice (some ⟨w2.heap.size, 0, none⟩) 1 1, .int .i64 0]) := o3
  have LH3 : Hid (HoldP w3 w.heap.size [.int .u8 1, .int .u32 2, .int .u8 0, .slice (some ⟨w.heap.size, 0, none⟩) 1 1, .int .i64 66, .int .u8 1, .int .u32 9, .int .u8 1, .slice (some ⟨w1.heap.size, 0, none⟩) 2 2, .int .i64 67, .int .u8 3, .int .u32 10, .int .u8 1, .slice (some ⟨w2.heap.size, 0, none⟩) 1 1, .int .i64 0] [ob, oc, od]) := four_hold od (xs := #[.int .u32 1, .int .u8 0, .int .i64 2]) (ys := #[.int .u8 3, .int .u32 10, .int .u8 1, .slice (some ⟨w2.heap.size, 0, none⟩) 1 1, .int .i64 0]) (n := 1) rfl rfl rfl rfl (by omega) B2.out.size LO2.out LH2.out g3
  have B3 := Lib.hid (BW.out.trans b3)
  obtain ⟨a3, c3, rfl⟩ : ∃ ao cap, v3 = .slice ao 3 cap := Sees.shape (Sees.own o3)
  clear o3 g3 b3 BX OA SE FO BW LO2 LH2 B2
  go_wp2
  go_ret
  exact ⟨_, rfl, ⟨_, LO3.out, LH3.out⟩, B3.out⟩
set_option maxRecDepth 100000 in
set_option maxHeartbeats 4000000 in
theorem shows_any {v : Value} {l : List Opn} {T : List UInt8} {w : World} (hv : OpL w v l) (hT : textL l zid = T) (hE : spanE l zid = 0) :
    Calls Tryz.prog 42 #[v, .string (str T)] w fun e w' => e = .returned (.bool true) ∧ Below w.heap.size w w' := by
  have CT : Hid (Calls Tryz.prog 9 #[v, .agg #[.int .u32 0, .int .u8 0]] w fun e w' => e = .returned (.tuple #[.string (str T), .int .i64 0]) ∧ Below w.heap.size w w') := by
    have := vText_any zid hv
    rw [hT, hE] at this
    exact this
  obtain ⟨S, hS⟩ : ∃ z, str T = z := ⟨_, rfl⟩
  rw [hS] at CT ⊢
  have e6 : (S.toList == S.toList) = true := by simp
  clear hv hT hE hS
  go_enter Tryz.func42, Tryz.ntmps42
  go_wp2_with fail
  refine CT.out.mono ?_
  rintro e w1 ⟨rfl, b1⟩
  have B1 := Lib.hid b1
  clear CT b1
  go_wp2
  go_ret
  exact ⟨rfl, B1.out⟩
theorem tx_tttf : textL [oa, ob, oc] zid = [65, 67, 66] ∧ spanE [oa, ob, oc] zid = 0 := by decide +kernel
theorem tx_tttt : textL [oa, ob, oc, od] zid = [65, 67] ∧ spanE [oa, ob, oc, od] zid = 0 := by decide +kernel
theorem tx_fttt : textL [ob, oc, od] zid = [] ∧ spanE [ob, oc, od] zid = 0 := by decide +kernel
set_option maxRecDepth 100000 in
set_option maxHeartbeats 8000000 in
theorem alive15_any (w : World) : Calls Tryz.prog 18 #[] w fun e w' => e = .returned (.bool true) ∧ Below w.heap.size w w' := by
  have S_tttf : Hid (∀ (W : World) (v : Value), OpL W v [oa, ob, oc] → Calls Tryz.prog 42 #[v, .string { data := #[65, 67, 66] }] W fun e w' => e = .returned (.bool true) ∧ Below W.heap.size W w') := fun W v h => shows_any h tx_tttf.1 tx_tttf.2
  have S_tttt : Hid (∀ (W : World) (v : Value), OpL W v [oa, ob, oc, od] → Calls Tryz.prog 42 #[v, .string { data := #[65, 67] }] W fun e w' => e = .returned (.bool true) ∧ Below W.heap.size W w') := fun W v h => shows_any h tx_tttt.1 tx_tttt.2
  have S_fttt : Hid (∀ (W : World) (v : Value), OpL W v [ob, oc, od] → Calls Tryz.prog 42 #[v, .string { data := #[] }] W fun e w' => e = .returned (.bool true) ∧ Below W.heap.size W w') := fun W v h => shows_any h tx_fttt.1 tx_fttt.2
  have B_0 : Hid (Below w.heap.size w w) := Below.refl _ _
  go_enter Tryz.func18, Tryz.ntmps18
  go_wp2_with fail
  refine (tttf_any _).mono ?_
  rintro e w1 ⟨v1, rfl, o1, b1⟩
  have B_1 := Lib.hid (bt B_0.out b1)
  clear B_0
  have V_2 := Lib.hid (o1.opl)
  clear b1 o1
  go_wp2_with fail
  refine (S_tttf.out _ _ V_2.out).mono ?_
  rintro e w2 ⟨rfl, b2⟩
  have B_3 := Lib.hid (bt B_1.out b2)
  clear B_1
  have V_4 := Lib.hid (V_2.out.keeps b2)
  clear V_2
  clear b2
  clear V_4
  go_wp2_with fail
  refine (tttt_any _).mono ?_
  rintro e w3 ⟨v3, rfl, o3, b3⟩
  have B_5 := Lib.hid (bt B_3.out b3)
  clear B_3
  have V_6 := Lib.hid (o3.opl)
  clear b3 o3
  go_wp2_with fail
  refine (S_tttt.out _ _ V_6.out).mono ?_
  rintro e w4 ⟨rfl, b4⟩
  have B_7 := Lib.hid (bt B_5.out b4)
  clear B_5
  have V_8 := Lib.hid (V_6.out.keeps b4)
  clear V_6
  clear b4
  clear V_8
  go_wp2_with fail
  refine (fttt_any _).mono ?_
  rintro e w5 ⟨v5, rfl, o5, b5⟩
  have B_9 := Lib.hid (bt B_7.out b5)
  clear B_7
  have V_10 := Lib.hid (o5.opl)
  clear b5 o5
  go_wp2_with fail
  refine (S_fttt.out _ _ V_10.out).mono ?_
  rintro e w6 ⟨rfl, b6⟩
  have B_11 := Lib.hid (bt B_9.out b6)
  clear B_9
  have V_12 := Lib.hid (V_10.out.keeps b6)
  clear V_10
  clear b6
  clear V_12
  go_wp2
  go_ret
  exact ⟨rfl, B_11.out⟩
end Go.Proofs.YtohiidgdpecbdaaGreat.Views

namespace Go.Proofs.YtohiidgdpecbdaaGreat.Views
open Go.RowKit Go.WideShapes Stamp Go.Proofs.YtohiidgdpecbdaaGreat.Place Ops Codes Bags Marks Homes Covers
attribute [local go_sem ↓] Go.wp_at_zero Go.wp_at_succ
attribute [local go_sem] yielded_undef
/-- What alike answers: where it answers yes, operations of one stamp are one. -/
def Alk (l m : List Opn) (e : Ending) : Prop := ∃ q, e = .returned (.bool q) ∧ (q = true → Alike l m)
theorem Alk.no {l m : List Opn} : Alk l m (.returned (.bool false)) := ⟨false, rfl, fun h => by cases h⟩
set_option maxRecDepth 100000 in
set_option maxHeartbeats 8000000 in
theorem alike_any {v u0 : Value} {l c : List Opn} {w : World} (hv : OpL w v l) (hu0 : OpL w u0 c) :
    Calls Tryz.prog 19 #[v, u0] w fun e w' => Alk l c e ∧ Below w.heap.size w w' := by
  obtain ⟨ao, cap, rfl⟩ := hv.shape
  obtain ⟨bo, bcap, rfl⟩ := hu0.shape
  obtain ⟨n, hn⟩ : ∃ n, n = l.length := ⟨_, rfl⟩
  obtain ⟨m, hm⟩ : ∃ n, n = c.length := ⟨_, rfl⟩
  have hmx : n ≤ 9223372036854775807 := by rw [hn]; exact hv.max
  have hmy : m ≤ 9223372036854775807 := by rw [hm]; exact hu0.max
  have HV : Hid (∀ W : World, Below w.heap.size w W → OpL W (.slice ao l.length cap) l) := fun W h => hv.keeps h
  have HU : Hid (∀ W : World, Below w.heap.size w W → OpL W (.slice bo c.length bcap) c) := fun W h => hu0.keeps h
  have HN := Lib.hid hn
  have HM := Lib.hid hm
  rw [← hn, ← hm]
  have B0 : Hid (Below w.heap.size w w) := Below.refl _ _
  clear hv hu0 hn hm
  go_enter Tryz.func19, Tryz.ntmps19
  go_wp2
  go_loopw [5, 6] (fun i z wr => ∃ j : Nat, j ≤ n ∧ i = .int .i64 (j : Int) ∧ Hid (∀ i k (hi : i < l.length) (hk : k < c.length), i < j → idO (l[i]'hi) = idO (c[k]'hk) → l[i]'hi = c[k]'hk) ∧ Hid (Below w.heap.size w wr)) (fun i _ _ => n - (intOf i).toNat)
  case atStart => exact ⟨0, by omega, rfl, fun i k hi hk h => by omega, B0⟩
  case round =>
    clear B0
    obtain ⟨j, hj, rfl, hall, hbel⟩ := hrel
    by_cases hjn : j < n
    rotate_left
    · have q3 : decide (j < n) = false := by simpa using hjn
      go_wp2
      go_ret
      refine ⟨⟨true, rfl, fun _ x hx y hy h => ?_⟩, hbel.out⟩
      obtain ⟨i, hi, rfl⟩ := List.getElem_of_mem hx
      obtain ⟨k, hk, rfl⟩ := List.getElem_of_mem hy
      exact hall.out i k hi hk (by have := HN.out; omega) h
    have q3 : decide (j < n) = true := by simpa using hjn
    have q4 : (0 : Int) ≤ (j : Int) := by omega
    have q5 : (j : Int) < (n : Int) := by omega
    have hjl : j < l.length := by rw [← HN.out]; exact hjn
    have A0 : Hid (∀ k (hk : k < c.length), k < 0 → idO (l[j]'hjl) = idO (c[k]'hk) → l[j]'hjl = c[k]'hk) := fun k hk h => by omega
    obtain ⟨w0, rfl⟩ : ∃ w0 : World, w0 = wr := ⟨_, rfl⟩
    go_wp2
    go_loopw [6] (fun z wr => ∃ i : Nat, i ≤ m ∧ z = .int .i64 (i : Int) ∧ Hid (∀ k (hk : k < c.length), k < i → idO (l[j]'hjl) = idO (c[k]'hk) → l[j]'hjl = c[k]'hk) ∧ Hid (Below w.heap.size w wr)) (fun z _ => m - (intOf z).toNat)
    case atStart => exact ⟨0, by omega, rfl, A0, hbel⟩
    case round =>
      clear A0 hbel
      obtain ⟨i, hi, rfl, hrow, hbel⟩ := hrel
      by_cases hij : i < m
      rotate_left
      · have p3 : decide (i < m) = false := by simpa using hij
        have HALL : Hid (∀ a k (ha : a < l.length) (hk : k < c.length), a < j + 1 → idO (l[a]'ha) = idO (c[k]'hk) → l[a]'ha = c[k]'hk) := fun a k ha hk h1 h2 => by
          by_cases e : a = j
          · subst e; exact hrow.out k hk (by have := HM.out; omega) h2
          · exact hall.out a k ha hk (by omega) h2
        go_wp2
        go_roundw
        case rel => exact ⟨j + 1, by omega, by go_num, HALL, hbel⟩
        case measure => simp [intOf]; omega
      have p3 : decide (i < m) = true := by simpa using hij
      have p4 : (0 : Int) ≤ (i : Int) := by omega
      have p5 : (i : Int) < (m : Int) := by omega
      have hil : i < c.length := by rw [← HM.out]; exact hij
      obtain ⟨bb, oo, u, e, hbb, hru, h0, h1, h2, h3, h4⟩ := opl_at (HV.out wr hbel.out) j hjl
      subst e
      obtain ⟨x, hx⟩ : ∃ x, x = l[j]'hjl := ⟨_, rfl⟩
      rw [← hx] at hru h0 h1 h2 h4
      have HO : Hid (∀ v : Value, opv x v = .agg #[.int .u8 (x.k : Int), .int .u32 (x.t : Int), .int .u8 (x.r : Int), v, .int .i64 x.p]) := fun v => rfl
      obtain ⟨bby, ooy, uy, ey, hbby, hruy, h0y, h1y, h2y, h3y, h4y⟩ := opl_at (HU.out wr hbel.out) i hil
      subst ey
      obtain ⟨xy, hxy⟩ : ∃ x, x = c[i]'hil := ⟨_, rfl⟩
      rw [← hxy] at hruy h0y h1y h2y h4y
      have HOy : Hid (∀ v : Value, opv xy v = .agg #[.int .u8 (xy.k : Int), .int .u32 (xy.t : Int), .int .u8 (xy.r : Int), v, .int .i64 xy.p]) := fun v => rfl
      have SM : Hid (∀ W : World, Below wr.heap.size wr W → Calls Tryz.prog 44 #[opv x u, opv xy uy] W fun e w' => e = .returned (.bool (sameB x xy)) ∧ Below W.heap.size W w') := fun W h => Ops.oSame_any (hru.keeps h) (hruy.keeps h)
      have HX : Hid (x = l[j]'hjl) := hx
      have HY : Hid (xy = c[i]'hil) := hxy
      obtain ⟨ms, hms⟩ : ∃ b, sameB x xy = b := ⟨_, rfl⟩
      rw [hms] at SM
      have HMS := Lib.hid hms
      have HID : Hid (idO x = idO xy ↔ x.t = xy.t ∧ x.r = xy.r) := idO_eq
      clear hx hxy hms hru hruy
      obtain ⟨k, hk⟩ : ∃ z, x.k = z := ⟨_, rfl⟩
      obtain ⟨t, ht⟩ : ∃ z, x.t = z := ⟨_, rfl⟩
      obtain ⟨r, hr⟩ : ∃ z, x.r = z := ⟨_, rfl⟩
      obtain ⟨p, hp⟩ : ∃ z, x.p = z := ⟨_, rfl⟩
      rw [hk, ht, hr, hp] at HO
      rw [hk] at h0
      rw [ht] at h1
      rw [hr] at h2
      rw [hp] at h4
      simp only [HO.out] at SM
      obtain ⟨ky, hky⟩ : ∃ z, xy.k = z := ⟨_, rfl⟩
      obtain ⟨ty, hty⟩ : ∃ z, xy.t = z := ⟨_, rfl⟩
      obtain ⟨ry, hry⟩ : ∃ z, xy.r = z := ⟨_, rfl⟩
      obtain ⟨py, hpy⟩ : ∃ z, xy.p = z := ⟨_, rfl⟩
      rw [hky, hty, hry, hpy] at HOy
      rw [hky] at h0y
      rw [hty] at h1y
      rw [hry] at h2y
      rw [hpy] at h4y
      simp only [HOy.out] at SM
      rw [ht, hr, hty, hry] at HID
      have SK : Hid (∀ w' : World, Below wr.heap.size wr w' → Below wr.heap.size wr w' ∧ w'.cell? ⟨bb, oo + j * 5, none⟩ = some (.int .u8 (k : Int)) ∧ w'.cell? ⟨bb, oo + j * 5 + 1, none⟩ = some (.int .u32 (t : Int)) ∧ w'.cell? ⟨bb, oo + j * 5 + 2, none⟩ = some (.int .u8 (r : Int)) ∧ w'.cell? ⟨bb, oo + j * 5 + 3, none⟩ = some (u) ∧ w'.cell? ⟨bb, oo + j * 5 + 4, none⟩ = some (.int .i64 p) ∧ w'.cell? ⟨bby, ooy + i * 5, none⟩ = some (.int .u8 (ky : Int)) ∧ w'.cell? ⟨bby, ooy + i * 5 + 1, none⟩ = some (.int .u32 (ty : Int)) ∧ w'.cell? ⟨bby, ooy + i * 5 + 2, none⟩ = some (.int .u8 (ry : Int)) ∧ w'.cell? ⟨bby, ooy + i * 5 + 3, none⟩ = some (uy) ∧ w'.cell? ⟨bby, ooy + i * 5 + 4, none⟩ = some (.int .i64 py)) := fun W h => by
        have a1 := (FiveAt.keeps (g := bb) (o := oo + j * 5) ⟨hbb, h0, h1, h2, h3, h4⟩ h).2
        have a2 := (FiveAt.keeps (g := bby) (o := ooy + i * 5) ⟨hbby, h0y, h1y, h2y, h3y, h4y⟩ h).2
        exact ⟨h, a1.1, a1.2.1, a1.2.2.1, a1.2.2.2.1, a1.2.2.2.2, a2⟩
      obtain ⟨b1, hb1⟩ : ∃ b, decide (t = ty) = b := ⟨_, rfl⟩
      obtain ⟨b2, hb2⟩ : ∃ b, decide (r = ry) = b := ⟨_, rfl⟩
      have hb1' : ((t : Int) == (ty : Int)) = b1 := by rw [← hb1]; by_cases h : t = ty <;> simp [h] <;> omega
      have hb2' : ((r : Int) == (ry : Int)) = b2 := by rw [← hb2]; by_cases h : r = ry <;> simp [h] <;> omega
      have HOK : Hid (((b1 && b2) = false ∨ ms = true) → ∀ k (hk : k < c.length), k < i + 1 → idO (l[j]'hjl) = idO (c[k]'hk) → l[j]'hjl = c[k]'hk) := fun h k hk h1 h2 => by
        by_cases e : k = i
        · subst e
          rw [← HX.out, ← HY.out] at h2 ⊢
          rcases h with h | h
          · have h3 := HID.out.1 h2
            rw [← hb1, ← hb2, decide_eq_true h3.1, decide_eq_true h3.2] at h
            cases h
          · rw [← HMS.out] at h; exact (sameB_iff _ _).1 h
        · exact hrow.out k hk (by omega) h2
      clear hk ht hr hp hky hty hry hpy h0 h1 h2 h3 h4 h0y h1y h2y h3y h4y HO HOy hbb hbby HMS HID
      cases b1
      · cases b2
        · skip
          go_wp2
          refine wp_region_held_drew (S := fun w' => Below wr.heap.size wr w' ∧ w'.cell? ⟨bb, oo + j * 5, none⟩ = some (.int .u8 (k : Int)) ∧ w'.cell? ⟨bb, oo + j * 5 + 1, none⟩ = some (.int .u32 (t : Int)) ∧ w'.cell? ⟨bb, oo + j * 5 + 2, none⟩ = some (.int .u8 (r : Int)) ∧ w'.cell? ⟨bb, oo + j * 5 + 3, none⟩ = some (u) ∧ w'.cell? ⟨bb, oo + j * 5 + 4, none⟩ = some (.int .i64 p) ∧ w'.cell? ⟨bby, ooy + i * 5, none⟩ = some (.int .u8 (ky : Int)) ∧ w'.cell? ⟨bby, ooy + i * 5 + 1, none⟩ = some (.int .u32 (ty : Int)) ∧ w'.cell? ⟨bby, ooy + i * 5 + 2, none⟩ = some (.int .u8 (ry : Int)) ∧ w'.cell? ⟨bby, ooy + i * 5 + 3, none⟩ = some (uy) ∧ w'.cell? ⟨bby, ooy + i * 5 + 4, none⟩ = some (.int .i64 py)) (by kernel_rfl) (SK.out _ (drew1 _)) (fun hHeld => ?_)
          refine rN 0 ?_
          refine rN 1 ?_
          refine rN 2 ?_
          refine rN 3 ?_
          refine rN 4 ?_
          refine rN 5 ?_
          refine rN 6 ?_
          refine rN 7 ?_
          refine rN 8 ?_
          refine rN 9 ?_
          refine rN 10 ?_
          refine rN 11 ?_
          refine rV 12 ?_
          refine rV 13 ?_
          refine rV 14 ?_
          refine rV 15 ?_
          refine rV 16 ?_
          refine rV 17 ?_
          refine rV 18 ?_
          refine rV 19 ?_
          refine rV 20 ?_
          refine rV 21 ?_
          refine rN 22 ?_
          refine wpAnyH_done (by kernel_rfl) ?_ _
          have HK := Lib.hid (HOK.out (.inl rfl))
          go_wp2
          go_roundw
          case rel => exact ⟨i + 1, by omega, by go_num, HK, Lib.hid (bt hbel.out hHeld.1)⟩
          case measure => simp [intOf]; omega
        · skip
          go_wp2
          refine wp_region_held_drew (S := fun w' => Below wr.heap.size wr w' ∧ w'.cell? ⟨bb, oo + j * 5, none⟩ = some (.int .u8 (k : Int)) ∧ w'.cell? ⟨bb, oo + j * 5 + 1, none⟩ = some (.int .u32 (t : Int)) ∧ w'.cell? ⟨bb, oo + j * 5 + 2, none⟩ = some (.int .u8 (r : Int)) ∧ w'.cell? ⟨bb, oo + j * 5 + 3, none⟩ = some (u) ∧ w'.cell? ⟨bb, oo + j * 5 + 4, none⟩ = some (.int .i64 p) ∧ w'.cell? ⟨bby, ooy + i * 5, none⟩ = some (.int .u8 (ky : Int)) ∧ w'.cell? ⟨bby, ooy + i * 5 + 1, none⟩ = some (.int .u32 (ty : Int)) ∧ w'.cell? ⟨bby, ooy + i * 5 + 2, none⟩ = some (.int .u8 (ry : Int)) ∧ w'.cell? ⟨bby, ooy + i * 5 + 3, none⟩ = some (uy) ∧ w'.cell? ⟨bby, ooy + i * 5 + 4, none⟩ = some (.int .i64 py)) (by kernel_rfl) (SK.out _ (drew1 _)) (fun hHeld => ?_)
          refine rN 0 ?_
          refine rN 1 ?_
          refine rN 2 ?_
          refine rN 3 ?_
          refine rN 4 ?_
          refine rN 5 ?_
          refine rN 6 ?_
          refine rN 7 ?_
          refine rN 8 ?_
          refine rN 9 ?_
          refine rN 10 ?_
          refine rN 11 ?_
          refine rV 12 ?_
          refine rV 13 ?_
          refine rV 14 ?_
          refine rV 15 ?_
          refine rV 16 ?_
          refine rV 17 ?_
          refine rV 18 ?_
          refine rV 19 ?_
          refine rV 20 ?_
          refine rV 21 ?_
          refine rN 22 ?_
          refine wpAnyH_done (by kernel_rfl) ?_ _
          have HK := Lib.hid (HOK.out (.inl rfl))
          go_wp2
          go_roundw
          case rel => exact ⟨i + 1, by omega, by go_num, HK, Lib.hid (bt hbel.out hHeld.1)⟩
          case measure => simp [intOf]; omega
      cases b2
      · skip
        go_wp2
        refine wp_region_held_drew (S := fun w' => Below wr.heap.size wr w' ∧ w'.cell? ⟨bb, oo + j * 5, none⟩ = some (.int .u8 (k : Int)) ∧ w'.cell? ⟨bb, oo + j * 5 + 1, none⟩ = some (.int .u32 (t : Int)) ∧ w'.cell? ⟨bb, oo + j * 5 + 2, none⟩ = some (.int .u8 (r : Int)) ∧ w'.cell? ⟨bb, oo + j * 5 + 3, none⟩ = some (u) ∧ w'.cell? ⟨bb, oo + j * 5 + 4, none⟩ = some (.int .i64 p) ∧ w'.cell? ⟨bby, ooy + i * 5, none⟩ = some (.int .u8 (ky : Int)) ∧ w'.cell? ⟨bby, ooy + i * 5 + 1, none⟩ = some (.int .u32 (ty : Int)) ∧ w'.cell? ⟨bby, ooy + i * 5 + 2, none⟩ = some (.int .u8 (ry : Int)) ∧ w'.cell? ⟨bby, ooy + i * 5 + 3, none⟩ = some (uy) ∧ w'.cell? ⟨bby, ooy + i * 5 + 4, none⟩ = some (.int .i64 py)) (by kernel_rfl) (SK.out _ (drew1 _)) (fun hHeld => ?_)
        refine rN 0 ?_
        refine rN 1 ?_
        refine rN 2 ?_
        refine rN 3 ?_
        refine rN 4 ?_
        refine rN 5 ?_
        refine rN 6 ?_
        refine rN 7 ?_
        refine rN 8 ?_
        refine rN 9 ?_
        refine rN 10 ?_
        refine rN 11 ?_
        refine rV 12 ?_
        refine rV 13 ?_
        refine rV 14 ?_
        refine rV 15 ?_
        refine rV 16 ?_
        refine rV 17 ?_
        refine rV 18 ?_
        refine rV 19 ?_
        refine rV 20 ?_
        refine rV 21 ?_
        refine rN 22 ?_
        refine wpAnyH_done (by kernel_rfl) ?_ _
        have HK := Lib.hid (HOK.out (.inl rfl))
        go_wp2
        go_roundw
        case rel => exact ⟨i + 1, by omega, by go_num, HK, Lib.hid (bt hbel.out hHeld.1)⟩
        case measure => simp [intOf]; omega
      cases ms
      · skip
        go_wp2
        refine wp_region_held_drew (S := fun w' => Below wr.heap.size wr w' ∧ w'.cell? ⟨bb, oo + j * 5, none⟩ = some (.int .u8 (k : Int)) ∧ w'.cell? ⟨bb, oo + j * 5 + 1, none⟩ = some (.int .u32 (t : Int)) ∧ w'.cell? ⟨bb, oo + j * 5 + 2, none⟩ = some (.int .u8 (r : Int)) ∧ w'.cell? ⟨bb, oo + j * 5 + 3, none⟩ = some (u) ∧ w'.cell? ⟨bb, oo + j * 5 + 4, none⟩ = some (.int .i64 p) ∧ w'.cell? ⟨bby, ooy + i * 5, none⟩ = some (.int .u8 (ky : Int)) ∧ w'.cell? ⟨bby, ooy + i * 5 + 1, none⟩ = some (.int .u32 (ty : Int)) ∧ w'.cell? ⟨bby, ooy + i * 5 + 2, none⟩ = some (.int .u8 (ry : Int)) ∧ w'.cell? ⟨bby, ooy + i * 5 + 3, none⟩ = some (uy) ∧ w'.cell? ⟨bby, ooy + i * 5 + 4, none⟩ = some (.int .i64 py)) (by kernel_rfl) (SK.out _ (drew1 _)) (fun hHeld => ?_)
        refine rN 0 ?_
        refine rN 1 ?_
        refine rN 2 ?_
        refine rN 3 ?_
        refine rN 4 ?_
        refine rN 5 ?_
        refine rN 6 ?_
        refine rN 7 ?_
        refine rN 8 ?_
        refine rN 9 ?_
        refine rN 10 ?_
        refine rN 11 ?_
        refine rN 12 ?_
        refine rN 13 ?_
        refine rN 14 ?_
        refine rN 15 ?_
        refine rN 16 ?_
        refine rN 17 ?_
        refine rN 18 ?_
        refine rN 19 ?_
        refine wpAnyH_ready (rs := [20]) (by kernel_rfl) (by simp) ?_
        refine AllReadyH.cons rfl (fun K hK => ?_) ?zd20
        case zd20 => exact AllReadyH.nil
        go_simp
        refine (SM.out _ hHeld.1).mono ?_
        rintro e w9d20 ⟨rfl, b9⟩
        refine hK.out _ _ (SK.out _ (bt hHeld.1 b9)) (fun hNew => ?_)
        clear hHeld
        have hHeld := hNew
        clear hNew hK K
        refine rX ?_
        refine rN 21 ?_
        refine rN 22 ?_
        refine wpAnyH_done (by kernel_rfl) ?_ _
        go_wp2
        go_ret
        exact ⟨Alk.no, bt hbel.out hHeld.1⟩
      · skip
        go_wp2
        refine wp_region_held_drew (S := fun w' => Below wr.heap.size wr w' ∧ w'.cell? ⟨bb, oo + j * 5, none⟩ = some (.int .u8 (k : Int)) ∧ w'.cell? ⟨bb, oo + j * 5 + 1, none⟩ = some (.int .u32 (t : Int)) ∧ w'.cell? ⟨bb, oo + j * 5 + 2, none⟩ = some (.int .u8 (r : Int)) ∧ w'.cell? ⟨bb, oo + j * 5 + 3, none⟩ = some (u) ∧ w'.cell? ⟨bb, oo + j * 5 + 4, none⟩ = some (.int .i64 p) ∧ w'.cell? ⟨bby, ooy + i * 5, none⟩ = some (.int .u8 (ky : Int)) ∧ w'.cell? ⟨bby, ooy + i * 5 + 1, none⟩ = some (.int .u32 (ty : Int)) ∧ w'.cell? ⟨bby, ooy + i * 5 + 2, none⟩ = some (.int .u8 (ry : Int)) ∧ w'.cell? ⟨bby, ooy + i * 5 + 3, none⟩ = some (uy) ∧ w'.cell? ⟨bby, ooy + i * 5 + 4, none⟩ = some (.int .i64 py)) (by kernel_rfl) (SK.out _ (drew1 _)) (fun hHeld => ?_)
        refine rN 0 ?_
        refine rN 1 ?_
        refine rN 2 ?_
        refine rN 3 ?_
        refine rN 4 ?_
        refine rN 5 ?_
        refine rN 6 ?_
        refine rN 7 ?_
        refine rN 8 ?_
        refine rN 9 ?_
        refine rN 10 ?_
        refine rN 11 ?_
        refine rN 12 ?_
        refine rN 13 ?_
        refine rN 14 ?_
        refine rN 15 ?_
        refine rN 16 ?_
        refine rN 17 ?_
        refine rN 18 ?_
        refine rN 19 ?_
        refine wpAnyH_ready (rs := [20]) (by kernel_rfl) (by simp) ?_
        refine AllReadyH.cons rfl (fun K hK => ?_) ?ze20
        case ze20 => exact AllReadyH.nil
        go_simp
        refine (SM.out _ hHeld.1).mono ?_
        rintro e w9e20 ⟨rfl, b9⟩
        refine hK.out _ _ (SK.out _ (bt hHeld.1 b9)) (fun hNew => ?_)
        clear hHeld
        have hHeld := hNew
        clear hNew hK K
        refine rX ?_
        refine rN 21 ?_
        refine rN 22 ?_
        refine wpAnyH_done (by kernel_rfl) ?_ _
        have HK := Lib.hid (HOK.out (.inr trivial))
        go_wp2
        go_roundw
        case rel => exact ⟨i + 1, by omega, by go_num, HK, Lib.hid (bt hbel.out hHeld.1)⟩
        case measure => simp [intOf]; omega
end Go.Proofs.YtohiidgdpecbdaaGreat.Views
