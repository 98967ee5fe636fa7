/- ViewNames answers true. Conditions: none. -/
import Derived.Test.YtohiidgdpecbdaaPk17
import Derived.Test.YtohiidgdpecbdaaPk14

namespace Go.Proofs.Ytohiidgdpecbdaa.Views
open Go.RowKit Go.WideShapes Stamp Go.Proofs.Ytohiidgdpecbdaa.Place Ops Codes Bags Marks Homes Covers
attribute [local go_sem ↓] Go.wp_at_zero Go.wp_at_succ
attribute [local go_sem] yielded_undef

def n10 : Id := ⟨1, 0, by decide, by decide⟩
def p12 : List Run := [⟨1, 0, 2, by decide, by decide, by decide⟩]
theorem nv_off : offN [oa, ob, oc] zid p12 = 2 ∧ offE [oa, ob, oc] zid p12 = 0 := by decide +kernel
theorem nv_nil : offN [oa, ob, oc] zid [] = 0 ∧ offE [oa, ob, oc] zid [] = 0 := by decide +kernel
theorem nv_at1 : atL [oa, ob, oc] zid 1 = oc ∧ atE [oa, ob, oc] zid 1 = 0 := by decide +kernel
theorem nv_at3 : atL [oa, ob, oc] zid 3 = zop ∧ atE [oa, ob, oc] zid 3 = 2 := by decide +kernel
theorem nv_tx : textL [oa, ob, oc] n10 = [] ∧ spanE [oa, ob, oc] n10 = 130 := by decide +kernel
set_option maxRecDepth 100000 in
set_option maxHeartbeats 8000000 in
theorem names_any (w : World) : Calls Try.prog 3 #[] w fun e w' => e = .returned (.bool true) ∧ Below w.heap.size w w' := by
  have F1 : Hid (∀ (W : World) (v u : Value), OpL W v [oa, ob, oc] → Runs W u p12 → Calls Try.prog 7 #[v, .agg #[.int .u32 0, .int .u8 0], u] W fun e w' => e = .returned (.tuple #[.int .i64 2, .int .i64 0]) ∧ Below W.heap.size W w') := fun W v u h h2 => by
    have := vOffset_any zid h h2
    rw [nv_off.1, nv_off.2] at this
    exact this
  have F2 : Hid (∀ (W : World) (v : Value), OpL W v [oa, ob, oc] → Calls Try.prog 7 #[v, .agg #[.int .u32 0, .int .u8 0], .slice none 0 0] W fun e w' => e = .returned (.tuple #[.int .i64 0, .int .i64 0]) ∧ Below W.heap.size W w') := fun W v h => by
    have := vOffset_any (p := []) zid h (Sees.nil W 3)
    rw [nv_nil.1, nv_nil.2] at this
    exact this
  have A1 : Hid (∀ (W : World) (v : Value), OpL W v [oa, ob, oc] → Calls Try.prog 8 #[v, .agg #[.int .u32 0, .int .u8 0], .int .i64 1] W fun e w' => ∃ ao cap, e = .returned (.tuple #[.agg #[.int .u32 9, .int .u8 1, .slice ao 2 cap, .int .i64 67], .int .i64 0]) ∧ Below W.heap.size W w') := fun W v h => by
    have := vAt_any zid 1 h
    rw [nv_at1.1, nv_at1.2] at this
    refine this.mono ?_
    rintro e w' ⟨vt, rfl, o, b⟩
    obtain ⟨ao, cap, rfl⟩ := Sees.shape (Sees.own o)
    exact ⟨ao, cap, rfl, b⟩
  have A3 : Hid (∀ (W : World) (v : Value), OpL W v [oa, ob, oc] → Calls Try.prog 8 #[v, .agg #[.int .u32 0, .int .u8 0], .int .i64 3] W fun e w' => ∃ ao cap, e = .returned (.tuple #[.agg #[.int .u32 0, .int .u8 0, .slice ao 0 cap, .int .i64 0], .int .i64 2]) ∧ Below W.heap.size W w') := fun W v h => by
    have := vAt_any zid 3 h
    rw [nv_at3.1, nv_at3.2] at this
    refine this.mono ?_
    rintro e w' ⟨vt, rfl, o, b⟩
    obtain ⟨ao, cap, rfl⟩ := Sees.shape (Sees.own o)
    exact ⟨ao, cap, rfl, b⟩
  have T1 : Hid (∀ (W : World) (v : Value), OpL W v [oa, ob, oc] → Calls Try.prog 9 #[v, .agg #[.int .u32 1, .int .u8 0]] W fun e w' => ∃ S, e = .returned (.tuple #[.string S, .int .i64 130]) ∧ Below W.heap.size W w') := fun W v h => by
    have := vText_any n10 h
    rw [nv_tx.1, nv_tx.2] at this
    exact this.mono fun e w' h => ⟨_, h⟩
  have AV := Lib.hid alive15_any
  have B_0 : Hid (Below w.heap.size w w) := Below.refl _ _
  go_enter Try.func3, Try.ntmps3
  go_wp2_with fail
  refine (tttf_any _).mono ?_
  rintro e w1 ⟨v1, rfl, o1, b1⟩
  have B_1 := Lib.hid (bt B_0.out b1)
  clear B_0
  have V_2 := Lib.hid (o1.opl)
  clear b1 o1
  have bo := (Below.refl w1.heap.size w1).alloc (Nat.le_refl _) (.cells #[.int .u32 1, .int .u8 0, .int .i64 2] 31)
  have B_3 := Lib.hid (bt B_1.out bo)
  clear B_1
  have V_4 := Lib.hid (V_2.out.keeps bo)
  clear V_2
  have R_5 : Hid (Runs (w1.alloc (.cells #[.int .u32 1, .int .u8 0, .int .i64 2] 31)) (.slice (some ⟨w1.heap.size, 0, none⟩) 1 1) p12) := runs_new _ p12 1 rfl (by decide) 31 (0, 0)
  clear bo
  go_wp2_with fail
  refine (F1.out _ _ _ V_4.out R_5.out).mono ?_
  rintro e w2 ⟨rfl, b2⟩
  have B_6 := Lib.hid (bt B_3.out b2)
  clear B_3
  have V_7 := Lib.hid (V_4.out.keeps b2)
  clear V_4
  have R_8 := Lib.hid (R_5.out.keeps b2)
  clear R_5
  clear b2
  clear R_8
  go_wp2_with fail
  refine (F2.out _ _ V_7.out).mono ?_
  rintro e w3 ⟨rfl, b3⟩
  have B_9 := Lib.hid (bt B_6.out b3)
  clear B_6
  have V_10 := Lib.hid (V_7.out.keeps b3)
  clear V_7
  clear b3
  go_wp2_with fail
  refine (A1.out _ _ V_10.out).mono ?_
  rintro e w4 ⟨u4, c4, rfl, b4⟩
  have B_11 := Lib.hid (bt B_9.out b4)
  clear B_9
  have V_12 := Lib.hid (V_10.out.keeps b4)
  clear V_10
  clear b4
  have bo := (Below.refl w4.heap.size w4).alloc (Nat.le_refl _) (.cells #[.int .u32 9, .int .u8 1, .slice u4 2 c4, .int .i64 67] 34)
  have B_13 := Lib.hid (bt B_11.out bo)
  clear B_11
  have V_14 := Lib.hid (V_12.out.keeps bo)
  clear V_12
  have HX_15 : Hid ((w4.alloc (.cells #[.int .u32 9, .int .u8 1, .slice u4 2 c4, .int .i64 67] 34)).heap[w4.heap.size]? = some (.cells #[.int .u32 9, .int .u8 1, .slice u4 2 c4, .int .i64 67] 34)) := blk_new rfl
  clear bo
  go_wp2_with fail
  refine (A3.out _ _ V_14.out).mono ?_
  rintro e w5 ⟨u5, c5, rfl, b5⟩
  have B_16 := Lib.hid (bt B_13.out b5)
  clear B_13
  have V_17 := Lib.hid (V_14.out.keeps b5)
  clear V_14
  have HX_18 := Lib.hid (blk_below b5 HX_15.out)
  clear HX_15
  clear b5
  have bo := (Below.refl w5.heap.size w5).alloc (Nat.le_refl _) (.cells #[.int .u32 0, .int .u8 0, .slice u5 0 c5, .int .i64 0] 34)
  have B_19 := Lib.hid (bt B_16.out bo)
  clear B_16
  have V_20 := Lib.hid (V_17.out.keeps bo)
  clear V_17
  have HX_21 := Lib.hid (blk_below bo HX_18.out)
  clear HX_18
  clear bo
  go_wp2_with fail
  refine (T1.out _ _ V_20.out).mono ?_
  rintro e w6 ⟨s6, rfl, b6⟩
  have B_22 := Lib.hid (bt B_19.out b6)
  clear B_19
  have V_23 := Lib.hid (V_20.out.keeps b6)
  clear V_20
  have HX_24 := Lib.hid (blk_below b6 HX_21.out)
  clear HX_21
  clear b6
  clear V_23
  go_wp2_with fail
  refine (AV.out _).mono ?_
  rintro e w7 ⟨rfl, b7⟩
  have B_25 := Lib.hid (bt B_22.out b7)
  clear B_22
  have HX_26 := Lib.hid (blk_below b7 HX_24.out)
  clear HX_24
  clear b7
  obtain ⟨x0, x1, x2, x3⟩ := cells4 HX_26.out
  go_wp2
  go_ret
  exact ⟨rfl, B_25.out⟩
end Go.Proofs.Ytohiidgdpecbdaa.Views
