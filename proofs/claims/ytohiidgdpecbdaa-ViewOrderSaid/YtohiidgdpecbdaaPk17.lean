/- octavolaw15.four, shows, alive: what each answers. Conditions: none. -/
import Derived.Test.YtohiidgdpecbdaaPk15
import Derived.Test.YtohiidgdpecbdaaPk14
import Derived.Test.YtohiidgdpecbdaaPk16

namespace Go.Proofs.Ytohiidgdpecbdaa.Views
open Go.RowKit Go.WideShapes Stamp Go.Proofs.Ytohiidgdpecbdaa.Place Ops Codes Bags Marks Homes Covers
attribute [local go_sem ↓] Go.wp_at_zero Go.wp_at_succ
attribute [local go_sem] yielded_undef

def oa : Opn := ⟨1, 1, 0, [⟨1, 0, 1, by decide, by decide, by decide⟩], 65, by decide, by decide, by decide, by decide⟩
def ob : Opn := ⟨1, 2, 0, [⟨1, 0, 2, by decide, by decide, by decide⟩], 66, by decide, by decide, by decide, by decide⟩
def oc : Opn := ⟨1, 9, 1, [⟨1, 0, 1, by decide, by decide, by decide⟩, ⟨9, 1, 1, by decide, by decide, by decide⟩], 67, by decide, by decide, by decide, by decide⟩
def od : Opn := ⟨3, 10, 1, [⟨1, 0, 2, by decide, by decide, by decide⟩], 0, by decide, by decide, by decide, by decide⟩
/-- One more behind a list: what its cells hold. -/
theorem four_hold {W w5 : World} {base m n : Nat} {v u : Value} {cs : List Value} {l : List Opn} (o : Opn) {xs ys : Array Value} (hx : xs.toList = runs o.pl) (hn : n = o.pl.length) (hu : u = .slice (some ⟨W.heap.size, 0, none⟩) n n) (hm : xs.size = n * 3) (h47 : n ≤ 1000) (hb : base ≤ W.heap.size)
    (h1 : W.ownsRow base 54 5 v m cs) (h2 : HoldP W base cs l) (g5 : ((W.alloc (.cells xs 31)).alloc (.cells ys 54)).grownBy w5 v.ownBlock) :
    HoldP w5 base (cs ++ [.int .u8 (o.k : Int), .int .u32 (o.t : Int), .int .u8 (o.r : Int), u, .int .i64 o.p]) (l ++ [o]) := by
  subst hu
  have b1 : Below W.heap.size W (W.alloc (.cells xs 31)) := (Below.refl _ _).alloc (Nat.le_refl _) _
  have b2 : Below (W.alloc (.cells xs 31)).heap.size (W.alloc (.cells xs 31)) ((W.alloc (.cells xs 31)).alloc (.cells ys 54)) := (Below.refl _ _).alloc (Nat.le_refl _) _
  have hy := own_stays (own_stays h1 b1) b2
  have hr : (W.alloc (.cells xs 31)).ownsRow base 31 3 (.slice (some ⟨W.heap.size, 0, none⟩) n n) n (runs o.pl) := by
    rw [← hx]
    exact World.ownsRow_lit (base := base) (e := 31) (size := 3) W xs n hb (by have : maxLen = 9223372036854775807 := rfl; omega) hm
  rw [hn] at hr
  refine HoldP.append (HoldP.grown g5 hy ((h2.keeps b1).keeps b2)) ?_
  exact HoldP.grown g5 hy ⟨_, [], rfl, by rw [hn]; exact own_stays hr b2, rfl⟩

set_option maxRecDepth 100000 in
set_option maxHeartbeats 8000000 in
theorem tttf_any (w : World) : Calls Try.prog 6 #[.bool true, .bool true, .bool true, .bool false] w fun e w' => ∃ v, e = .returned v ∧ OwnL w' w.heap.size v [oa, ob, oc] ∧ Below w.heap.size w w' := by
  have LO0 : Hid (w.ownsRow w.heap.size 54 5 (.slice none 0 0) 0 []) := World.ownsRow_nil _ _ _ _
  have LH0 : Hid (HoldP w w.heap.size [] []) := rfl
  have B0 : Hid (Below w.heap.size w w) := Below.refl _ _
  go_enter Try.func6, Try.ntmps6
  have BX : Hid (Below w.heap.size w ((w.alloc (.cells #[.int .u32 1, .int .u8 0, .int .i64 1] 31)).alloc (.cells #[.int .u8 1, .int .u32 1, .int .u8 0, .slice (some ⟨w.heap.size, 0, none⟩) 1 1, .int .i64 65] 54))) := ((Below.refl _ _).alloc (Nat.le_refl _) _).alloc (by simp) _
  have OA := Lib.hid (own_stays LO0.out BX.out)
  have SE : Hid (Sees ((w.alloc (.cells #[.int .u32 1, .int .u8 0, .int .i64 1] 31)).alloc (.cells #[.int .u8 1, .int .u32 1, .int .u8 0, .slice (some ⟨w.heap.size, 0, none⟩) 1 1, .int .i64 65] 54)) (.slice (some ⟨w.heap.size + 1, 0, none⟩) 1 1) 5 1 [.int .u8 1, .int .u32 1, .int .u8 0, .slice (some ⟨w.heap.size, 0, none⟩) 1 1, .int .i64 65]) := by
    have h := sees_new (w.alloc (.cells #[.int .u32 1, .int .u8 0, .int .i64 1] 31)) [.int .u8 1, .int .u32 1, .int .u8 0, .slice (some ⟨w.heap.size, 0, none⟩) 1 1, .int .i64 65] 5 1 rfl (by omega) 54 (0, 0)
    rwa [show (w.alloc (.cells #[.int .u32 1, .int .u8 0, .int .i64 1] 31)).heap.size = w.heap.size + 1 from Array.size_push _] at h
  have FO : Hid (∀ z ∈ ([.int .u8 1, .int .u32 1, .int .u8 0, .slice (some ⟨w.heap.size, 0, none⟩) 1 1, .int .i64 65] : List Value), z.oneCell' = true) := fun z hz => by
    simp only [List.mem_cons, List.not_mem_nil, or_false] at hz
    rcases hz with rfl | rfl | rfl | rfl | rfl <;> rfl
  have BW := Lib.hid (bt B0.out BX.out)
  go_wp2_with (at_builtin; refine wpList_append_sees rfl (.tmp 11) (.tmp 16) 22 54 rfl Try.underlying22 op_info rfl (by decide) w.heap.size _ 0 [] rfl OA.out _ 1 [.int .u8 1, .int .u32 1, .int .u8 0, .slice (some ⟨w.heap.size, 0, none⟩) 1 1, .int .i64 65] rfl SE.out FO.out ?k1 ?k2 ?k3 ?_)
  case k1 => omega
  case k2 => omega
  case k3 => exact BW.out.size
  rintro v1 w1 o1 g1 b1
  have LO1 : Hid (w1.ownsRow w.heap.size 54 5 v1 1 [.int .u8 1, .int .u32 1, .int .u8 0, .slice (some ⟨w.heap.size, 0, none⟩) 1 1, .int .i64 65]) := o1
  have LH1 : Hid (HoldP w1 w.heap.size [.int .u8 1, .int .u32 1, .int .u8 0, .slice (some ⟨w.heap.size, 0, none⟩) 1 1, .int .i64 65] [oa]) := four_hold oa (xs := #[.int .u32 1, .int .u8 0, .int .i64 1]) (ys := #[.int .u8 1, .int .u32 1, .int .u8 0, .slice (some ⟨w.heap.size, 0, none⟩) 1 1, .int .i64 65]) (n := 1) rfl rfl rfl rfl (by omega) B0.out.size LO0.out LH0.out g1
  have B1 := Lib.hid (BW.out.trans b1)
  obtain ⟨a1, c1, rfl⟩ : ∃ ao cap, v1 = .slice ao 1 cap := Sees.shape (Sees.own o1)
  clear o1 g1 b1 BX OA SE FO BW LO0 LH0 B0
  have BX : Hid (Below w1.heap.size w1 ((w1.alloc (.cells #[.int .u32 1, .int .u8 0, .int .i64 2] 31)).alloc (.cells #[.int .u8 1, .int .u32 2, .int .u8 0, .slice (some ⟨w1.heap.size, 0, none⟩) 1 1, .int .i64 66] 54))) := ((Below.refl _ _).alloc (Nat.le_refl _) _).alloc (by simp) _
  have OA := Lib.hid (own_stays LO1.out BX.out)
  have SE : Hid (Sees ((w1.alloc (.cells #[.int .u32 1, .int .u8 0, .int .i64 2] 31)).alloc (.cells #[.int .u8 1, .int .u32 2, .int .u8 0, .slice (some ⟨w1.heap.size, 0, none⟩) 1 1, .int .i64 66] 54)) (.slice (some ⟨w1.heap.size + 1, 0, none⟩) 1 1) 5 1 [.int .u8 1, .int .u32 2, .int .u8 0, .slice (some ⟨w1.heap.size, 0, none⟩) 1 1, .int .i64 66]) := by
    have h := sees_new (w1.alloc (.cells #[.int .u32 1, .int .u8 0, .int .i64 2] 31)) [.int .u8 1, .int .u32 2, .int .u8 0, .slice (some ⟨w1.heap.size, 0, none⟩) 1 1, .int .i64 66] 5 1 rfl (by omega) 54 (0, 0)
    rwa [show (w1.alloc (.cells #[.int .u32 1, .int .u8 0, .int .i64 2] 31)).heap.size = w1.heap.size + 1 from Array.size_push _] at h
  have FO : Hid (∀ z ∈ ([.int .u8 1, .int .u32 2, .int .u8 0, .slice (some ⟨w1.heap.size, 0, none⟩) 1 1, .int .i64 66] : List Value), z.oneCell' = true) := fun z hz => by
    simp only [List.mem_cons, List.not_mem_nil, or_false] at hz
    rcases hz with rfl | rfl | rfl | rfl | rfl <;> rfl
  have BW := Lib.hid (bt B1.out BX.out)
  go_wp2_with (at_builtin; refine wpList_append_sees rfl (.tmp 19) (.tmp 24) 22 54 rfl Try.underlying22 op_info rfl (by decide) w.heap.size _ 1 [.int .u8 1, .int .u32 1, .int .u8 0, .slice (some ⟨w.heap.size, 0, none⟩) 1 1, .int .i64 65] rfl OA.out _ 1 [.int .u8 1, .int .u32 2, .int .u8 0, .slice (some ⟨w1.heap.size, 0, none⟩) 1 1, .int .i64 66] rfl SE.out FO.out ?k1 ?k2 ?k3 ?_)
  case k1 => omega
  case k2 => omega
  case k3 => exact BW.out.size
  rintro v2 w2 o2 g2 b2
  have LO2 : Hid (w2.ownsRow w.heap.size 54 5 v2 2 [.int .u8 1, .int .u32 1, .int .u8 0, .slice (some ⟨w.heap.size, 0, none⟩) 1 1, .int .i64 65, .int .u8 1, .int .u32 2, .int .u8 0, .slice (some ⟨w1.heap.size, 0, none⟩) 1 1, .int .i64 66]) := o2
  have LH2 : Hid (HoldP w2 w.heap.size [.int .u8 1, .int .u32 1, .int .u8 0, .slice (some ⟨w.heap.size, 0, none⟩) 1 1, .int .i64 65, .int .u8 1, .int .u32 2, .int .u8 0, .slice (some ⟨w1.heap.size, 0, none⟩) 1 1, .int .i64 66] [oa, ob]) := four_hold ob (xs := #[.int .u32 1, .int .u8 0, .int .i64 2]) (ys := #[.int .u8 1, .int .u32 2, .int .u8 0, .slice (some ⟨w1.heap.size, 0, none⟩) 1 1, .int .i64 66]) (n := 1) rfl rfl rfl rfl (by omega) B1.out.size LO1.out LH1.out g2
  have B2 := Lib.hid (BW.out.trans b2)
  obtain ⟨a2, c2, rfl⟩ : ∃ ao cap, v2 = .slice ao 2 cap := Sees.shape (Sees.own o2)
  clear o2 g2 b2 BX OA SE FO BW LO1 LH1 B1
  have BX : Hid (Below w2.heap.size w2 ((w2.alloc (.cells #[.int .u32 1, .int .u8 0, .int .i64 1, .int .u32 9, .int .u8 1, .int .i64 1] 31)).alloc (.cells #[.int .u8 1, .int .u32 9, .int .u8 1, .slice (some ⟨w2.heap.size, 0, none⟩) 2 2, .int .i64 67] 54))) := ((Below.refl _ _).alloc (Nat.le_refl _) _).alloc (by simp) _
  have OA := Lib.hid (own_stays LO2.out BX.out)
  have SE : Hid (Sees ((w2.alloc (.cells #[.int .u32 1, .int .u8 0, .int .i64 1, .int .u32 9, .int .u8 1, .int .i64 1] 31)).alloc (.cells #[.int .u8 1, .int .u32 9, .int .u8 1, .slice (some ⟨w2.heap.size, 0, none⟩) 2 2, .int .i64 67] 54)) (.slice (some ⟨w2.heap.size + 1, 0, none⟩) 1 1) 5 1 [.int .u8 1, .int .u32 9, .int .u8 1, .slice (some ⟨w2.heap.size, 0, none⟩) 2 2, .int .i64 67]) := by
    have h := sees_new (w2.alloc (.cells #[.int .u32 1, .int .u8 0, .int .i64 1, .int .u32 9, .int .u8 1, .int .i64 1] 31)) [.int .u8 1, .int .u32 9, .int .u8 1, .slice (some ⟨w2.heap.size, 0, none⟩) 2 2, .int .i64 67] 5 1 rfl (by omega) 54 (0, 0)
    rwa [show (w2.alloc (.cells #[.int .u32 1, .int .u8 0, .int .i64 1, .int .u32 9, .int .u8 1, .int .i64 1] 31)).heap.size = w2.heap.size + 1 from Array.size_push _] at h
  have FO : Hid (∀ z ∈ ([.int .u8 1, .int .u32 9, .int .u8 1, .slice (some ⟨w2.heap.size, 0, none⟩) 2 2, .int .i64 67] : List Value), z.oneCell' = true) := fun z hz => by
    simp only [List.mem_cons, List.not_mem_nil, or_false] at hz
    rcases hz with rfl | rfl | rfl | rfl | rfl <;> rfl
  have BW := Lib.hid (bt B2.out BX.out)
  go_wp2_with (at_builtin; refine wpList_append_sees rfl (.tmp 27) (.tmp 33) 22 54 rfl Try.underlying22 op_info rfl (by decide) w.heap.size _ 2 [.int .u8 1, .int .u32 1, .int .u8 0, .slice (some ⟨w.heap.size, 0, none⟩) 1 1, .int .i64 65, .int .u8 1, .int .u32 2, .int .u8 0, .slice (some ⟨w1.heap.size, 0, none⟩) 1 1, .int .i64 66] rfl OA.out _ 1 [.int .u8 1, .int .u32 9, .int .u8 1, .slice (some ⟨w2.heap.size, 0, none⟩) 2 2, .int .i64 67] rfl SE.out FO.out ?k1 ?k2 ?k3 ?_)
  case k1 => omega
  case k2 => omega
  case k3 => exact BW.out.size
  rintro v3 w3 o3 g3 b3
  have LO3 : Hid (w3.ownsRow w.heap.size 54 5 v3 3 [.int .u8 1, .int .u32 1, .int .u8 0, .slice (some ⟨w.heap.size, 0, none⟩) 1 1, .int .i64 65, .int .u8 1, .int .u32 2, .int .u8 0, .slice (some ⟨w1.heap.size, 0, none⟩) 1 1, .int .i64 66, .int .u8 1, .int .u32 9, .int .u8 1, .slice (some ⟨w2.heap.size, 0, none⟩) 2 2, .int .i64 67]) := o3
  have LH3 : Hid (HoldP w3 w.heap.size [.int .u8 1, .int .u32 1, .int .u8 0, .slice (some ⟨w.heap.size, 0, none⟩) 1 1, .int .i64 65, .int .u8 1, .int .u32 2, .int .u8 0, .slice (some ⟨w1.heap.size, 0, none⟩) 1 1, .int .i64 66, .int .u8 1, .int .u32 9, .int .u8 1, .slice (some ⟨w2.heap.size, 0, none⟩) 2 2, .int .i64 67] [oa, ob, oc]) := four_hold oc (xs := #[.int .u32 1, .int .u8 0, .int .i64 1, .int .u32 9, .int .u8 1, .int .i64 1]) (ys := #[.int .u8 1, .int .u32 9, .int .u8 1, .slice (some ⟨w2.heap.size, 0, none⟩) 2 2, .int .i64 67]) (n := 2) rfl rfl rfl rfl (by omega) B2.out.size LO2.out LH2.out g3
  have B3 := Lib.hid (BW.out.trans b3)
  obtain ⟨a3, c3, rfl⟩ : ∃ ao cap, v3 = .slice ao 3 cap := Sees.shape (Sees.own o3)
  clear o3 g3 b3 BX OA SE FO BW LO2 LH2 B2
  go_wp2
  go_ret
  exact ⟨_, rfl, ⟨_, LO3.out, LH3.out⟩, B3.out⟩

set_option maxRecDepth 100000 in
set_option maxHeartbeats 8000000 in
theorem tttt_any (w : World) : Calls Try.prog 6 #[.bool true, .bool true, .bool true, .bool true] w fun e w' => ∃ v, e = .returned v ∧ OwnL w' w.heap.size v [oa, ob, oc, od] ∧ Below w.heap.size w w' := by
  have LO0 : Hid (w.ownsRow w.heap.size 54 5 (.slice none 0 0) 0 []) := World.ownsRow_nil _ _ _ _
  have LH0 : Hid (HoldP w w.heap.size [] []) := rfl
  have B0 : Hid (Below w.heap.size w w) := Below.refl _ _
  go_enter Try.func6, Try.ntmps6
  have BX : Hid (Below w.heap.size w ((w.alloc (.cells #[.int .u32 1, .int .u8 0, .int .i64 1] 31)).alloc (.cells #[.int .u8 1, .int .u32 1, .int .u8 0, .slice (some ⟨w.heap.size, 0, none⟩) 1 1, .int .i64 65] 54))) := ((Below.refl _ _).alloc (Nat.le_refl _) _).alloc (by simp) _
  have OA := Lib.hid (own_stays LO0.out BX.out)
  have SE : Hid (Sees ((w.alloc (.cells #[.int .u32 1, .int .u8 0, .int .i64 1] 31)).alloc (.cells #[.int .u8 1, .int .u32 1, .int .u8 0, .slice (some ⟨w.heap.size, 0, none⟩) 1 1, .int .i64 65] 54)) (.slice (some ⟨w.heap.size + 1, 0, none⟩) 1 1) 5 1 [.int .u8 1, .int .u32 1, .int .u8 0, .slice (some ⟨w.heap.size, 0, none⟩) 1 1, .int .i64 65]) := by
    have h := sees_new (w.alloc (.cells #[.int .u32 1, .int .u8 0, .int .i64 1] 31)) [.int .u8 1, .int .u32 1, .int .u8 0, .slice (some ⟨w.heap.size, 0, none⟩) 1 1, .int .i64 65] 5 1 rfl (by omega) 54 (0, 0)
    rwa [show (w.alloc (.cells #[.int .u32 1, .int .u8 0, .int .i64 1] 31)).heap.size = w.heap.size + 1 from Array.size_push _] at h
  have FO : Hid (∀ z ∈ ([.int .u8 1, .int .u32 1, .int .u8 0, .slice (some ⟨w.heap.size, 0, none⟩) 1 1, .int .i64 65] : List Value), z.oneCell' = true) := fun z hz => by
    simp only [List.mem_cons, List.not_mem_nil, or_false] at hz
    rcases hz with rfl | rfl | rfl | rfl | rfl <;> rfl
  have BW := Lib.hid (bt B0.out BX.out)
  go_wp2_with (at_builtin; refine wpList_append_sees rfl (.tmp 11) (.tmp 16) 22 54 rfl Try.underlying22 op_info rfl (by decide) w.heap.size _ 0 [] rfl OA.out _ 1 [.int .u8 1, .int .u32 1, .int .u8 0, .slice (some ⟨w.heap.size, 0, none⟩) 1 1, .int .i64 65] rfl SE.out FO.out ?k1 ?k2 ?k3 ?_)
  case k1 => omega
  case k2 => omega
  case k3 => exact BW.out.size
  rintro v1 w1 o1 g1 b1
  have LO1 : Hid (w1.ownsRow w.heap.size 54 5 v1 1 [.int .u8 1, .int .u32 1, .int .u8 0, .slice (some ⟨w.heap.size, 0, none⟩) 1 1, .int .i64 65]) := o1
  have LH1 : Hid (HoldP w1 w.heap.size [.int .u8 1, .int .u32 1, .int .u8 0, .slice (some ⟨w.heap.size, 0, none⟩) 1 1, .int .i64 65] [oa]) := four_hold oa (xs := #[.int .u32 1, .int .u8 0, .int .i64 1]) (ys := #[.int .u8 1, .int .u32 1, .int .u8 0, .slice (some ⟨w.heap.size, 0, none⟩) 1 1, .int .i64 65]) (n := 1) rfl rfl rfl rfl (by omega) B0.out.size LO0.out LH0.out g1
  have B1 := Lib.hid (BW.out.trans b1)
  obtain ⟨a1, c1, rfl⟩ : ∃ ao cap, v1 = .slice ao 1 cap := Sees.shape (Sees.own o1)
  clear o1 g1 b1 BX OA SE FO BW LO0 LH0 B0
  have BX : Hid (Below w1.heap.size w1 ((w1.alloc (.cells #[.int .u32 1, .int .u8 0, .int .i64 2] 31)).alloc (.cells #[.int .u8 1, .int .u32 2, .int .u8 0, .slice (some ⟨w1.heap.size, 0, none⟩) 1 1, .int .i64 66] 54))) := ((Below.refl _ _).alloc (Nat.le_refl _) _).alloc (by simp) _
  have OA := Lib.hid (own_stays LO1.out BX.out)
  have SE : Hid (Sees ((w1.alloc (.cells #[.int .u32 1, .int .u8 0, .int .i64 2] 31)).alloc (.cells #[.int .u8 1, .int .u32 2, .int .u8 0, .slice (some ⟨w1.heap.size, 0, none⟩) 1 1, .int .i64 66] 54)) (.slice (some ⟨w1.heap.size + 1, 0, none⟩) 1 1) 5 1 [.int .u8 1, .int .u32 2, .int .u8 0, .slice (some ⟨w1.heap.size, 0, none⟩) 1 1, .int .i64 66]) := by
    have h := sees_new (w1.alloc (.cells #[.int .u32 1, .int .u8 0, .int .i64 2] 31)) [.int .u8 1, .int .u32 2, .int .u8 0, .slice (some ⟨w1.heap.size, 0, none⟩) 1 1, .int .i64 66] 5 1 rfl (by omega) 54 (0, 0)
    rwa [show (w1.alloc (.cells #[.int .u32 1, .int .u8 0, .int .i64 2] 31)).heap.size = w1.heap.size + 1 from Array.size_push _] at h
  have FO : Hid (∀ z ∈ ([.int .u8 1, .int .u32 2, .int .u8 0, .slice (some ⟨w1.heap.size, 0, none⟩) 1 1, .int .i64 66] : List Value), z.oneCell' = true) := fun z hz => by
    simp only [List.mem_cons, List.not_mem_nil, or_false] at hz
    rcases hz with rfl | rfl | rfl | rfl | rfl <;> rfl
  have BW := Lib.hid (bt B1.out BX.out)
  go_wp2_with (at_builtin; refine wpList_append_sees rfl (.tmp 19) (.tmp 24) 22 54 rfl Try.underlying22 op_info rfl (by decide) w.heap.size _ 1 [.int .u8 1, .int .u32 1, .int .u8 0, .slice (some ⟨w.heap.size, 0, none⟩) 1 1, .int .i64 65] rfl OA.out _ 1 [.int .u8 1, .int .u32 2, .int .u8 0, .slice (some ⟨w1.heap.size, 0, none⟩) 1 1, .int .i64 66] rfl SE.out FO.out ?k1 ?k2 ?k3 ?_)
  case k1 => omega
  case k2 => omega
  case k3 => exact BW.out.size
  rintro v2 w2 o2 g2 b2
  have LO2 : Hid (w2.ownsRow w.heap.size 54 5 v2 2 [.int .u8 1, .int .u32 1, .int .u8 0, .slice (some ⟨w.heap.size, 0, none⟩) 1 1, .int .i64 65, .int .u8 1, .int .u32 2, .int .u8 0, .slice (some ⟨w1.heap.size, 0, none⟩) 1 1, .int .i64 66]) := o2
  have LH2 : Hid (HoldP w2 w.heap.size [.int .u8 1, .int .u32 1, .int .u8 0, .slice (some ⟨w.heap.size, 0, none⟩) 1 1, .int .i64 65, .int .u8 1, .int .u32 2, .int .u8 0, .slice (some ⟨w1.heap.size, 0, none⟩) 1 1, .int .i64 66] [oa, ob]) := four_hold ob (xs := #[.int .u32 1, .int .u8 0, .int .i64 2]) (ys := #[.int .u8 1, .int .u32 2, .int .u8 0, .slice (some ⟨w1.heap.size, 0, none⟩) 1 1, .int .i64 66]) (n := 1) rfl rfl rfl rfl (by omega) B1.out.size LO1.out LH1.out g2
  have B2 := Lib.hid (BW.out.trans b2)
  obtain ⟨a2, c2, rfl⟩ : ∃ ao cap, v2 = .slice ao 2 cap := Sees.shape (Sees.own o2)
  clear o2 g2 b2 BX OA SE FO BW LO1 LH1 B1
  have BX : Hid (Below w2.heap.size w2 ((w2.alloc (.cells #[.int .u32 1, .int .u8 0, .int .i64 1, .int .u32 9, .int .u8 1, .int .i64 1] 31)).alloc (.cells #[.int .u8 1, .int .u32 9, .int .u8 1, .slice (some ⟨w2.heap.size, 0, none⟩) 2 2, .int .i64 67] 54))) := ((Below.refl _ _).alloc (Nat.le_refl _) _).alloc (by simp) _
  have OA := Lib.hid (own_stays LO2.out BX.out)
  have SE : Hid (Sees ((w2.alloc (.cells #[.int .u32 1, .int .u8 0, .int .i64 1, .int .u32 9, .int .u8 1, .int .i64 1] 31)).alloc (.cells #[.int .u8 1, .int .u32 9, .int .u8 1, .slice (some ⟨w2.heap.size, 0, none⟩) 2 2, .int .i64 67] 54)) (.slice (some ⟨w2.heap.size + 1, 0, none⟩) 1 1) 5 1 [.int .u8 1, .int .u32 9, .int .u8 1, .slice (some ⟨w2.heap.size, 0, none⟩) 2 2, .int .i64 67]) := by
    have h := sees_new (w2.alloc (.cells #[.int .u32 1, .int .u8 0, .int .i64 1, .int .u32 9, .int .u8 1, .int .i64 1] 31)) [.int .u8 1, .int .u32 9, .int .u8 1, .slice (some ⟨w2.heap.size, 0, none⟩) 2 2, .int .i64 67] 5 1 rfl (by omega) 54 (0, 0)
    rwa [show (w2.alloc (.cells #[.int .u32 1, .int .u8 0, .int .i64 1, .int .u32 9, .int .u8 1, .int .i64 1] 31)).heap.size = w2.heap.size + 1 from Array.size_push _] at h
  have FO : Hid (∀ z ∈ ([.int .u8 1, .int .u32 9, .int .u8 1, .slice (some ⟨w2.heap.size, 0, none⟩) 2 2, .int .i64 67] : List Value), z.oneCell' = true) := fun z hz => by
    simp only [List.mem_cons, List.not_mem_nil, or_false] at hz
    rcases hz with rfl | rfl | rfl | rfl | rfl <;> rfl
  have BW := Lib.hid (bt B2.out BX.out)
  go_wp2_with (at_builtin; refine wpList_append_sees rfl (.tmp 27) (.tmp 33) 22 54 rfl Try.underlying22 op_info rfl (by decide) w.heap.size _ 2 [.int .u8 1, .int .u32 1, .int .u8 0, .slice (some ⟨w.heap.size, 0, none⟩) 1 1, .int .i64 65, .int .u8 1, .int .u32 2, .int .u8 0, .slice (some ⟨w1.heap.size, 0, none⟩) 1 1, .int .i64 66] rfl OA.out _ 1 [.int .u8 1, .int .u32 9, .int .u8 1, .slice (some ⟨w2.heap.size, 0, none⟩) 2 2, .int .i64 67] rfl SE.out FO.out ?k1 ?k2 ?k3 ?_)
  case k1 => omega
  case k2 => omega
  case k3 => exact BW.out.size
  rintro v3 w3 o3 g3 b3
  have LO3 : Hid (w3.ownsRow w.heap.size 54 5 v3 3 [.int .u8 1, .int .u32 1, .int .u8 0, .slice (some ⟨w.heap.size, 0, none⟩) 1 1, .int .i64 65, .int .u8 1, .int .u32 2, .int .u8 0, .slice (some ⟨w1.heap.size, 0, none⟩) 1 1, .int .i64 66, .int .u8 1, .int .u32 9, .int .u8 1, .slice (some ⟨w2.heap.size, 0, none⟩) 2 2, .int .i64 67]) := o3
  have LH3 : Hid (HoldP w3 w.heap.size [.int .u8 1, .int .u32 1, .int .u8 0, .slice (some ⟨w.heap.size, 0, none⟩) 1 1, .int .i64 65, .int .u8 1, .int .u32 2, .int .u8 0, .slice (some ⟨w1.heap.size, 0, none⟩) 1 1, .int .i64 66, .int .u8 1, .int .u32 9, .int .u8 1, .slice (some ⟨w2.heap.size, 0, none⟩) 2 2, .int .i64 67] [oa, ob, oc]) := four_hold oc (xs := #[.int .u32 1, .int .u8 0, .int .i64 1, .int .u32 9, .int .u8 1, .int .i64 1]) (ys := #[.int .u8 1, .int .u32 9, .int .u8 1, .slice (some ⟨w2.heap.size, 0, none⟩) 2 2, .int .i64 67]) (n := 2) rfl rfl rfl rfl (by omega) B2.out.size LO2.out LH2.out g3
  have B3 := Lib.hid (BW.out.trans b3)
  obtain ⟨a3, c3, rfl⟩ : ∃ ao cap, v3 = .slice ao 3 cap := Sees.shape (Sees.own o3)
  clear o3 g3 b3 BX OA SE FO BW LO2 LH2 B2
  have BX : Hid (Below w3.heap.size w3 ((w3.alloc (.cells #[.int .u32 1, .int .u8 0, .int .i64 2] 31)).alloc (.cells #[.int .u8 3, .int .u32 10, .int .u8 1, .slice (some ⟨w3.heap.size, 0, none⟩) 1 1, .int .i64 0] 54))) := ((Below.refl _ _).alloc (Nat.le_refl _) _).alloc (by simp) _
  have OA := Lib.hid (own_stays LO3.out BX.out)
  have SE : Hid (Sees ((w3.alloc (.cells #[.int .u32 1, .int .u8 0, .int .i64 2] 31)).alloc (.cells #[.int .u8 3, .int .u32 10, .int .u8 1, .slice (some ⟨w3.heap.size, 0, none⟩) 1 1, .int .i64 0] 54)) (.slice (some ⟨w3.heap.size + 1, 0, none⟩) 1 1) 5 1 [.int .u8 3, .int .u32 10, .int .u8 1, .slice (some ⟨w3.heap.size, 0, none⟩) 1 1, .int .i64 0]) := by
    have h := sees_new (w3.alloc (.cells #[.int .u32 1, .int .u8 0, .int .i64 2] 31)) [.int .u8 3, .int .u32 10, .int .u8 1, .slice (some ⟨w3.heap.size, 0, none⟩) 1 1, .int .i64 0] 5 1 rfl (by omega) 54 (0, 0)
    rwa [show (w3.alloc (.cells #[.int .u32 1, .int .u8 0, .int .i64 2] 31)).heap.size = w3.heap.size + 1 from Array.size_push _] at h
  have FO : Hid (∀ z ∈ ([.int .u8 3, .int .u32 10, .int .u8 1, .slice (some ⟨w3.heap.size, 0, none⟩) 1 1, .int .i64 0] : List Value), z.oneCell' = true) := fun z hz => by
    simp only [List.mem_cons, List.not_mem_nil, or_false] at hz
    rcases hz with rfl | rfl | rfl | rfl | rfl <;> rfl
  have BW := Lib.hid (bt B3.out BX.out)
  go_wp2_with (at_builtin; refine wpList_append_sees rfl (.tmp 36) (.tmp 41) 22 54 rfl Try.underlying22 op_info rfl (by decide) w.heap.size _ 3 [.int .u8 1, .int .u32 1, .int .u8 0, .slice (some ⟨w.heap.size, 0, none⟩) 1 1, .int .i64 65, .int .u8 1, .int .u32 2, .int .u8 0, .slice (some ⟨w1.heap.size, 0, none⟩) 1 1, .int .i64 66, .int .u8 1, .int .u32 9, .int .u8 1, .slice (some ⟨w2.heap.size, 0, none⟩) 2 2, .int .i64 67] rfl OA.out _ 1 [.int .u8 3, .int .u32 10, .int .u8 1, .slice (some ⟨w3.heap.size, 0, none⟩) 1 1, .int .i64 0] rfl SE.out FO.out ?k1 ?k2 ?k3 ?_)
  case k1 => omega
  case k2 => omega
  case k3 => exact BW.out.size
  rintro v4 w4 o4 g4 b4
  have LO4 : Hid (w4.ownsRow w.heap.size 54 5 v4 4 [.int .u8 1, .int .u32 1, .int .u8 0, .slice (some ⟨w.heap.size, 0, none⟩) 1 1, .int .i64 65, .int .u8 1, .int .u32 2, .int .u8 0, .slice (some ⟨w1.heap.size, 0, none⟩) 1 1, .int .i64 66, .int .u8 1, .int .u32 9, .int .u8 1, .slice (some ⟨w2.heap.size, 0, none⟩) 2 2, .int .i64 67, .int .u8 3, .int .u32 10, .int .u8 1, .slice (some ⟨w3.heap.size, 0, none⟩) 1 1, .int .i64 0]) := o4
  have LH4 : Hid (HoldP w4 w.heap.size [.int .u8 1, .int .u32 1, .int .u8 0, .slice (some ⟨w.heap.size, 0, none⟩) 1 1, .int .i64 65, .int .u8 1, .int .u32 2, .int .u8 0, .slice (some ⟨w1.heap.size, 0, none⟩) 1 1, .int .i64 66, .int .u8 1, .int .u32 9, .int .u8 1, .slice (some ⟨w2.heap.size, 0, none⟩) 2 2, .int .i64 67, .int .u8 3, .int .u32 10, .int .u8 1, .slice (some ⟨w3.heap.size, 0, none⟩) 1 1, .int .i64 0] [oa, ob, oc, od]) := four_hold od (xs := #[.int .u32 1, .int .u8 0, .int .i64 2]) (ys := #[.int .u8 3, .int .u32 10, .int .u8 1, .slice (some ⟨w3.heap.size, 0, none⟩) 1 1, .int .i64 0]) (n := 1) rfl rfl rfl rfl (by omega) B3.out.size LO3.out LH3.out g4
  have B4 := Lib.hid (BW.out.trans b4)
  obtain ⟨a4, c4, rfl⟩ : ∃ ao cap, v4 = .slice ao 4 cap := Sees.shape (Sees.own o4)
  clear o4 g4 b4 BX OA SE FO BW LO3 LH3 B3
  go_wp2
  go_ret
  exact ⟨_, rfl, ⟨_, LO4.out, LH4.out⟩, B4.out⟩

set_option maxRecDepth 100000 in
set_option maxHeartbeats 8000000 in
theorem fttt_any (w : World) : Calls Try.prog 6 #[.bool false, .bool true, .bool true, .bool true] w fun e w' => ∃ v, e = .returned v ∧ OwnL w' w.heap.size v [ob, oc, od] ∧ Below w.heap.size w w' := by
  have LO0 : Hid (w.ownsRow w.heap.size 54 5 (.slice none 0 0) 0 []) := World.ownsRow_nil _ _ _ _
  have LH0 : Hid (HoldP w w.heap.size [] []) := rfl
  have B0 : Hid (Below w.heap.size w w) := Below.refl _ _
  go_enter Try.func6, Try.ntmps6
  have BX : Hid (Below w.heap.size w ((w.alloc (.cells #[.int .u32 1, .int .u8 0, .int .i64 2] 31)).alloc (.cells #[.int .u8 1, .int .u32 2, .int .u8 0, .slice (some ⟨w.heap.size, 0, none⟩) 1 1, .int .i64 66] 54))) := ((Below.refl _ _).alloc (Nat.le_refl _) _).alloc (by simp) _
  have OA := Lib.hid (own_stays LO0.out BX.out)
  have SE : Hid (Sees ((w.alloc (.cells #[.int .u32 1, .int .u8 0, .int .i64 2] 31)).alloc (.cells #[.int .u8 1, .int .u32 2, .int .u8 0, .slice (some ⟨w.heap.size, 0, none⟩) 1 1, .int .i64 66] 54)) (.slice (some ⟨w.heap.size + 1, 0, none⟩) 1 1) 5 1 [.int .u8 1, .int .u32 2, .int .u8 0, .slice (some ⟨w.heap.size, 0, none⟩) 1 1, .int .i64 66]) := by
    have h := sees_new (w.alloc (.cells #[.int .u32 1, .int .u8 0, .int .i64 2] 31)) [.int .u8 1, .int .u32 2, .int .u8 0, .slice (some ⟨w.heap.size, 0, none⟩) 1 1, .int .i64 66] 5 1 rfl (by omega) 54 (0, 0)
    rwa [show (w.alloc (.cells #[.int .u32 1, .int .u8 0, .int .i64 2] 31)).heap.size = w.heap.size + 1 from Array.size_push _] at h
  have FO : Hid (∀ z ∈ ([.int .u8 1, .int .u32 2, .int .u8 0, .slice (some ⟨w.heap.size, 0, none⟩) 1 1, .int .i64 66] : List Value), z.oneCell' = true) := fun z hz => by
    simp only [List.mem_cons, List.not_mem_nil, or_false] at hz
    rcases hz with rfl | rfl | rfl | rfl | rfl <;> rfl
  have BW := Lib.hid (bt B0.out BX.out)
  go_wp2_with (at_builtin; refine wpList_append_sees rfl (.tmp 19) (.tmp 24) 22 54 rfl Try.underlying22 op_info rfl (by decide) w.heap.size _ 0 [] rfl OA.out _ 1 [.int .u8 1, .int .u32 2, .int .u8 0, .slice (some ⟨w.heap.size, 0, none⟩) 1 1, .int .i64 66] rfl SE.out FO.out ?k1 ?k2 ?k3 ?_)
  case k1 => omega
  case k2 => omega
  case k3 => exact BW.out.size
  rintro v1 w1 o1 g1 b1
  have LO1 : Hid (w1.ownsRow w.heap.size 54 5 v1 1 [.int .u8 1, .int .u32 2, .int .u8 0, .slice (some ⟨w.heap.size, 0, none⟩) 1 1, .int .i64 66]) := o1
  have LH1 : Hid (HoldP w1 w.heap.size [.int .u8 1, .int .u32 2, .int .u8 0, .slice (some ⟨w.heap.size, 0, none⟩) 1 1, .int .i64 66] [ob]) := four_hold ob (xs := #[.int .u32 1, .int .u8 0, .int .i64 2]) (ys := #[.int .u8 1, .int .u32 2, .int .u8 0, .slice (some ⟨w.heap.size, 0, none⟩) 1 1, .int .i64 66]) (n := 1) rfl rfl rfl rfl (by omega) B0.out.size LO0.out LH0.out g1
  have B1 := Lib.hid (BW.out.trans b1)
  obtain ⟨a1, c1, rfl⟩ : ∃ ao cap, v1 = .slice ao 1 cap := Sees.shape (Sees.own o1)
  clear o1 g1 b1 BX OA SE FO BW LO0 LH0 B0
  have BX : Hid (Below w1.heap.size w1 ((w1.alloc (.cells #[.int .u32 1, .int .u8 0, .int .i64 1, .int .u32 9, .int .u8 1, .int .i64 1] 31)).alloc (.cells #[.int .u8 1, .int .u32 9, .int .u8 1, .slice (some ⟨w1.heap.size, 0, none⟩) 2 2, .int .i64 67] 54))) := ((Below.refl _ _).alloc (Nat.le_refl _) _).alloc (by simp) _
  have OA := Lib.hid (own_stays LO1.out BX.out)
  have SE : Hid (Sees ((w1.alloc (.cells #[.int .u32 1, .int .u8 0, .int .i64 1, .int .u32 9, .int .u8 1, .int .i64 1] 31)).alloc (.cells #[.int .u8 1, .int .u32 9, .int .u8 1, .slice (some ⟨w1.heap.size, 0, none⟩) 2 2, .int .i64 67] 54)) (.slice (some ⟨w1.heap.size + 1, 0, none⟩) 1 1) 5 1 [.int .u8 1, .int .u32 9, .int .u8 1, .slice (some ⟨w1.heap.size, 0, none⟩) 2 2, .int .i64 67]) := by
    have h := sees_new (w1.alloc (.cells #[.int .u32 1, .int .u8 0, .int .i64 1, .int .u32 9, .int .u8 1, .int .i64 1] 31)) [.int .u8 1, .int .u32 9, .int .u8 1, .slice (some ⟨w1.heap.size, 0, none⟩) 2 2, .int .i64 67] 5 1 rfl (by omega) 54 (0, 0)
    rwa [show (w1.alloc (.cells #[.int .u32 1, .int .u8 0, .int .i64 1, .int .u32 9, .int .u8 1, .int .i64 1] 31)).heap.size = w1.heap.size + 1 from Array.size_push _] at h
  have FO : Hid (∀ z ∈ ([.int .u8 1, .int .u32 9, .int .u8 1, .slice (some ⟨w1.heap.size, 0, none⟩) 2 2, .int .i64 67] : List Value), z.oneCell' = true) := fun z hz => by
    simp only [List.mem_cons, List.not_mem_nil, or_false] at hz
    rcases hz with rfl | rfl | rfl | rfl | rfl <;> rfl
  have BW := Lib.hid (bt B1.out BX.out)
  go_wp2_with (at_builtin; refine wpList_append_sees rfl (.tmp 27) (.tmp 33) 22 54 rfl Try.underlying22 op_info rfl (by decide) w.heap.size _ 1 [.int .u8 1, .int .u32 2, .int .u8 0, .slice (some ⟨w.heap.size, 0, none⟩) 1 1, .int .i64 66] rfl OA.out _ 1 [.int .u8 1, .int .u32 9, .int .u8 1, .slice (some ⟨w1.heap.size, 0, none⟩) 2 2, .int .i64 67] rfl SE.out FO.out ?k1 ?k2 ?k3 ?_)
  case k1 => omega
  case k2 => omega
  case k3 => exact BW.out.size
  rintro v2 w2 o2 g2 b2
  have LO2 : Hid (w2.ownsRow w.heap.size 54 5 v2 2 [.int .u8 1, .int .u32 2, .int .u8 0, .slice (some ⟨w.heap.size, 0, none⟩) 1 1, .int .i64 66, .int .u8 1, .int .u32 9, .int .u8 1, .slice (some ⟨w1.heap.size, 0, none⟩) 2 2, .int .i64 67]) := o2
  have LH2 : Hid (HoldP w2 w.heap.size [.int .u8 1, .int .u32 2, .int .u8 0, .slice (some ⟨w.heap.size, 0, none⟩) 1 1, .int .i64 66, .int .u8 1, .int .u32 9, .int .u8 1, .slice (some ⟨w1.heap.size, 0, none⟩) 2 2, .int .i64 67] [ob, oc]) := four_hold oc (xs := #[.int .u32 1, .int .u8 0, .int .i64 1, .int .u32 9, .int .u8 1, .int .i64 1]) (ys := #[.int .u8 1, .int .u32 9, .int .u8 1, .slice (some ⟨w1.heap.size, 0, none⟩) 2 2, .int .i64 67]) (n := 2) rfl rfl rfl rfl (by omega) B1.out.size LO1.out LH1.out g2
  have B2 := Lib.hid (BW.out.trans b2)
  obtain ⟨a2, c2, rfl⟩ : ∃ ao cap, v2 = .slice ao 2 cap := Sees.shape (Sees.own o2)
  clear o2 g2 b2 BX OA SE FO BW LO1 LH1 B1
  have BX : Hid (Below w2.heap.size w2 ((w2.alloc (.cells #[.int .u32 1, .int .u8 0, .int .i64 2] 31)).alloc (.cells #[.int .u8 3, .int .u32 10, .int .u8 1, .slice (some ⟨w2.heap.size, 0, none⟩) 1 1, .int .i64 0] 54))) := ((Below.refl _ _).alloc (Nat.le_refl _) _).alloc (by simp) _
  have OA := Lib.hid (own_stays LO2.out BX.out)
  have SE : Hid (Sees ((w2.alloc (.cells #[.int .u32 1, .int .u8 0, .int .i64 2] 31)).alloc (.cells #[.int .u8 3, .int .u32 10, .int .u8 1, .slice (some ⟨w2.heap.size, 0, none⟩) 1 1, .int .i64 0] 54)) (.slice (some ⟨w2.heap.size + 1, 0, none⟩) 1 1) 5 1 [.int .u8 3, .int .u32 10, .int .u8 1, .slice (some ⟨w2.heap.size, 0, none⟩) 1 1, .int .i64 0]) := by
    have h := sees_new (w2.alloc (.cells #[.int .u32 1, .int .u8 0, .int .i64 2] 31)) [.int .u8 3, .int .u32 10, .int .u8 1, .slice (some ⟨w2.heap.size, 0, none⟩) 1 1, .int .i64 0] 5 1 rfl (by omega) 54 (0, 0)
    rwa [show (w2.alloc (.cells #[.int .u32 1, .int .u8 0, .int .i64 2] 31)).heap.size = w2.heap.size + 1 from Array.size_push _] at h
  have FO : Hid (∀ z ∈ ([.int .u8 3, .int .u32 10, .int .u8 1, .slice (some ⟨w2.heap.size, 0, none⟩) 1 1, .int .i64 0] : List Value), z.oneCell' = true) := fun z hz => by
    simp only [List.mem_cons, List.not_mem_nil, or_false] at hz
    rcases hz with rfl | rfl | rfl | rfl | rfl <;> rfl
  have BW := Lib.hid (bt B2.out BX.out)
  go_wp2_with (at_builtin; refine wpList_append_sees rfl (.tmp 36) (.tmp 41) 22 54 rfl Try.underlying22 op_info rfl (by decide) w.heap.size _ 2 [.int .u8 1, .int .u32 2, .int .u8 0, .slice (some ⟨w.heap.size, 0, none⟩) 1 1, .int .i64 66, .int .u8 1, .int .u32 9, .int .u8 1, .slice (some ⟨w1.heap.size, 0, none⟩) 2 2, .int .i64 67] rfl OA.out _ 1 [.int .u8 3, .int .u32 10, .int .u8 1, .slice (some ⟨w2.heap.size, 0, none⟩) 1 1, .int .i64 0] rfl SE.out FO.out ?k1 ?k2 ?k3 ?_)
  case k1 => omega
  case k2 => omega
  case k3 => exact BW.out.size
  rintro v3 w3 o3 g3 b3
  have LO3 : Hid (w3.ownsRow w.heap.size 54 5 v3 3 [.int .u8 1, .int .u32 2, .int .u8 0, .slice (some ⟨w.heap.size, 0, none⟩) 1 1, .int .i64 66, .int .u8 1, .int .u32 9, .int .u8 1, .slice (some ⟨w1.heap.size, 0, none⟩) 2 2, .int .i64 67, .int .u8 3, .int .u32 10, .int .u8 1, .slice (some ⟨w2.heap.size, 0, none⟩) 1 1, .int .i64 0]) := o3
  have LH3 : Hid (HoldP w3 w.heap.size [.int .u8 1, .int .u32 2, .int .u8 0, .slice (some ⟨w.heap.size, 0, none⟩) 1 1, .int .i64 66, .int .u8 1, .int .u32 9, .int .u8 1, .slice (some ⟨w1.heap.size, 0, none⟩) 2 2, .int .i64 67, .int .u8 3, .int .u32 10, .int .u8 1, .slice (some ⟨w2.heap.size, 0, none⟩) 1 1, .int .i64 0] [ob, oc, od]) := four_hold od (xs := #[.int .u32 1, .int .u8 0, .int .i64 2]) (ys := #[.int .u8 3, .int .u32 10, .int .u8 1, .slice (some ⟨w2.heap.size, 0, none⟩) 1 1, .int .i64 0]) (n := 1) rfl rfl rfl rfl (by omega) B2.out.size LO2.out LH2.out g3
  have B3 := Lib.hid (BW.out.trans b3)
  obtain ⟨a3, c3, rfl⟩ : ∃ ao cap, v3 = .slice ao 3 cap := Sees.shape (Sees.own o3)
  clear o3 g3 b3 BX OA SE FO BW LO2 LH2 B2
  go_wp2
  go_ret
  exact ⟨_, rfl, ⟨_, LO3.out, LH3.out⟩, B3.out⟩

set_option maxRecDepth 100000 in
set_option maxHeartbeats 4000000 in
theorem shows_any {v : Value} {l : List Opn} {T : List UInt8} {w : World} (hv : OpL w v l) (hT : textL l zid = T) (hE : spanE l zid = 0) :
    Calls Try.prog 23 #[v, .string (str T)] w fun e w' => e = .returned (.bool true) ∧ Below w.heap.size w w' := by
  have CT : Hid (Calls Try.prog 9 #[v, .agg #[.int .u32 0, .int .u8 0]] w fun e w' => e = .returned (.tuple #[.string (str T), .int .i64 0]) ∧ Below w.heap.size w w') := by
    have := vText_any zid hv
    rw [hT, hE] at this
    exact this
  obtain ⟨S, hS⟩ : ∃ z, str T = z := ⟨_, rfl⟩
  rw [hS] at CT ⊢
  have e6 : (S.toList == S.toList) = true := by simp
  clear hv hT hE hS
  go_enter Try.func23, Try.ntmps23
  go_wp2_with fail
  refine CT.out.mono ?_
  rintro e w1 ⟨rfl, b1⟩
  have B1 := Lib.hid b1
  clear CT b1
  go_wp2
  go_ret
  exact ⟨rfl, B1.out⟩

theorem tx_tttf : textL [oa, ob, oc] zid = [65, 67, 66] ∧ spanE [oa, ob, oc] zid = 0 := by decide +kernel
theorem tx_tttt : textL [oa, ob, oc, od] zid = [65, 67] ∧ spanE [oa, ob, oc, od] zid = 0 := by decide +kernel
theorem tx_fttt : textL [ob, oc, od] zid = [] ∧ spanE [ob, oc, od] zid = 0 := by decide +kernel

set_option maxRecDepth 100000 in
set_option maxHeartbeats 8000000 in
theorem alive15_any (w : World) : Calls Try.prog 10 #[] w fun e w' => e = .returned (.bool true) ∧ Below w.heap.size w w' := by
  have S_tttf : Hid (∀ (W : World) (v : Value), OpL W v [oa, ob, oc] → Calls Try.prog 23 #[v, .string { data := #[65, 67, 66] }] W fun e w' => e = .returned (.bool true) ∧ Below W.heap.size W w') := fun W v h => shows_any h tx_tttf.1 tx_tttf.2
  have S_tttt : Hid (∀ (W : World) (v : Value), OpL W v [oa, ob, oc, od] → Calls Try.prog 23 #[v, .string { data := #[65, 67] }] W fun e w' => e = .returned (.bool true) ∧ Below W.heap.size W w') := fun W v h => shows_any h tx_tttt.1 tx_tttt.2
  have S_fttt : Hid (∀ (W : World) (v : Value), OpL W v [ob, oc, od] → Calls Try.prog 23 #[v, .string { data := #[] }] W fun e w' => e = .returned (.bool true) ∧ Below W.heap.size W w') := fun W v h => shows_any h tx_fttt.1 tx_fttt.2
  have B_0 : Hid (Below w.heap.size w w) := Below.refl _ _
  go_enter Try.func10, Try.ntmps10
  go_wp2_with fail
  refine (tttf_any _).mono ?_
  rintro e w1 ⟨v1, rfl, o1, b1⟩
  have B_1 := Lib.hid (bt B_0.out b1)
  clear B_0
  have V_2 := Lib.hid (o1.opl)
  clear b1 o1
  go_wp2_with fail
  refine (S_tttf.out _ _ V_2.out).mono ?_
  rintro e w2 ⟨rfl, b2⟩
  have B_3 := Lib.hid (bt B_1.out b2)
  clear B_1
  have V_4 := Lib.hid (V_2.out.keeps b2)
  clear V_2
  clear b2
  clear V_4
  go_wp2_with fail
  refine (tttt_any _).mono ?_
  rintro e w3 ⟨v3, rfl, o3, b3⟩
  have B_5 := Lib.hid (bt B_3.out b3)
  clear B_3
  have V_6 := Lib.hid (o3.opl)
  clear b3 o3
  go_wp2_with fail
  refine (S_tttt.out _ _ V_6.out).mono ?_
  rintro e w4 ⟨rfl, b4⟩
  have B_7 := Lib.hid (bt B_5.out b4)
  clear B_5
  have V_8 := Lib.hid (V_6.out.keeps b4)
  clear V_6
  clear b4
  clear V_8
  go_wp2_with fail
  refine (fttt_any _).mono ?_
  rintro e w5 ⟨v5, rfl, o5, b5⟩
  have B_9 := Lib.hid (bt B_7.out b5)
  clear B_7
  have V_10 := Lib.hid (o5.opl)
  clear b5 o5
  go_wp2_with fail
  refine (S_fttt.out _ _ V_10.out).mono ?_
  rintro e w6 ⟨rfl, b6⟩
  have B_11 := Lib.hid (bt B_9.out b6)
  clear B_9
  have V_12 := Lib.hid (V_10.out.keeps b6)
  clear V_10
  clear b6
  clear V_12
  go_wp2
  go_ret
  exact ⟨rfl, B_11.out⟩
end Go.Proofs.Ytohiidgdpecbdaa.Views
