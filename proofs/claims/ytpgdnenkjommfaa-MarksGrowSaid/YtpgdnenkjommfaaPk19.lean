/- octavo/marks.Live's closure: how two operations are held against each other. Conditions: the places read as such. -/
import Derived.Test.YtpgdnenkjommfaaProg
import Derived.Shelf.SlLaysF0
import Derived.Shelf.SlSortCmp.NoneTotal
import Derived.Deep.DeepCutAuto
import Derived.Deep.DrawnRows
import Derived.Deep.RegionHeld3
import Derived.Test.YtpgdnenkjommfaaPk18
import Derived.Test.YtpgdnenkjommfaaPk05
import Derived.Test.YtpgdnenkjommfaaPk02
import Derived.Test.YtpgdnenkjommfaaPk04
import Derived.Test.YtpgdnenkjommfaaPk03
import Derived.Test.YtpgdnenkjommfaaPk07
import Derived.Test.YtpgdnenkjommfaaPk17
import Derived.Test.YtpgdnenkjommfaaPk08
import Derived.Test.YtpgdnenkjommfaaPk10

namespace Go.Proofs.Ytpgdnenkjommfaa.Marks
open Go.RowKit Go.WideShapes Stamp Go.Proofs.Ytpgdnenkjommfaa.Place Ops Codes
attribute [local go_sem ↓] Go.wp_at_zero Go.wp_at_succ

set_option maxRecDepth 100000 in
set_option maxHeartbeats 4000000 in
theorem cls_any {u v : Value} {x y : Opn} {w : World} (hu : Runs w u x.pl) (hv : Runs w v y.pl) :
    Calls Try.prog 27 #[opv x u, opv y v] w fun e w' => e = .returned (.int .i64 (cmp x.pl y.pl)) ∧ Below w.heap.size w w' := by
  have PC : Hid (∀ W : World, Below w.heap.size w W → Calls Try.prog 17 #[u, v] W fun e w' => e = .returned (.int .i64 (cmp x.pl y.pl)) ∧ Below W.heap.size W w') := fun W h => pCompare_any (hu.keeps h) (hv.keeps h)
  have B0 : Hid (Below w.heap.size w ((w.alloc (.cells #[.int .u8 (x.k : Int), .int .u32 (x.t : Int), .int .u8 (x.r : Int), u, .int .i64 x.p] 27)).alloc (.cells #[.int .u8 (y.k : Int), .int .u32 (y.t : Int), .int .u8 (y.r : Int), v, .int .i64 y.p] 27))) := ((Below.refl _ _).alloc (Nat.le_refl _) _).alloc (by simp) _
  obtain ⟨q, hq⟩ : ∃ q, cmp x.pl y.pl = q := ⟨_, rfl⟩
  rw [hq] at PC ⊢
  obtain ⟨uo, uc, rfl⟩ := hu.shape
  obtain ⟨vo, vc, rfl⟩ := hv.shape
  obtain ⟨nu, hnu⟩ : ∃ n, x.pl.length = n := ⟨_, rfl⟩
  obtain ⟨nv, hnv⟩ : ∃ n, y.pl.length = n := ⟨_, rfl⟩
  rw [hnu] at PC B0 ⊢
  rw [hnv] at PC B0 ⊢
  clear hq hu hv hnu hnv
  obtain ⟨k1, t1, r1, l1, p1, hk1, ht1, hr1, hp1⟩ := x
  obtain ⟨k2, t2, r2, l2, p2, hk2, ht2, hr2, hp2⟩ := y
  unfold opv
  simp only at B0 ⊢
  clear hk1 ht1 hr1 hp1 hk2 ht2 hr2 hp2
  go_enter Try.func27, Try.ntmps27
  go_wp2_with fail
  refine (PC.out _ B0.out).mono ?_
  rintro e w1 ⟨rfl, b1⟩
  have B1 := Lib.hid (bt B0.out b1)
  clear b1 PC B0
  go_wp2
  go_ret
  exact ⟨rfl, B1.out⟩
end Go.Proofs.Ytpgdnenkjommfaa.Marks

/- slices.SortFunc at operations: the library's contract laid at this program. Conditions: as it says. -/
namespace Go.Proofs.Ytpgdnenkjommfaa.Marks
open Go.Shelf Go.Proofs
def sortOp_ren : Go.Shelf.Ren := ⟨fun | 6 => 26 | 15 => 50 | 14 => 49 | 28 => 79 | 29 => 80 | 20 => 71 | 21 => 72 | 22 => 73 | 23 => 74 | 24 => 75 | 25 => 76 | 26 => 77 | 27 => 78 | 46 => 85 | 47 => 86 | 48 => 87 | 49 => 88 | 50 => 89 | 57 => 100 | n => n, fun | 22 => 30 | 24 => 27 | 25 => 60 | 3 => 3 | 39 => 92 | 0 => 0 | 53 => 22 | 55 => 124 | 4 => 4 | 46 => 117 | 45 => 116 | 50 => 71 | 5 => 5 | 9 => 9 | 66 => 128 | 70 => 132 | 76 => 141 | 77 => 142 | n => n, fun | n => n⟩
theorem sortOp : Go.Proofs.SlLaysF0.n6 Try.prog sortOp_ren where
  mixed := by kernel_rfl
  f6 := ⟨ "slices.SortFunc[[]octavo/api.Op,octavo/api.Op]", by decide, Try.func26.trans (congrArg some (by kernel_rfl))⟩
  f14 := ⟨ "slices.pdqsortCmpFunc[octavo/api.Op]", by decide, Try.func49.trans (congrArg some (by kernel_rfl))⟩
  f15 := Try.func50.trans (congrArg some (by kernel_rfl))
  f20 := ⟨ "slices.insertionSortCmpFunc[octavo/api.Op]", by decide, Try.func71.trans (congrArg some (by kernel_rfl))⟩
  f21 := ⟨ "slices.heapSortCmpFunc[octavo/api.Op]", by decide, Try.func72.trans (congrArg some (by kernel_rfl))⟩
  f22 := ⟨ "slices.breakPatternsCmpFunc[octavo/api.Op]", by decide, Try.func73.trans (congrArg some (by kernel_rfl))⟩
  f23 := ⟨ "slices.choosePivotCmpFunc[octavo/api.Op]", by decide, Try.func74.trans (congrArg some (by kernel_rfl))⟩
  f24 := ⟨ "slices.reverseRangeCmpFunc[octavo/api.Op]", by decide, Try.func75.trans (congrArg some (by kernel_rfl))⟩
  f25 := ⟨ "slices.partialInsertionSortCmpFunc[octavo/api.Op]", by decide, Try.func76.trans (congrArg some (by kernel_rfl))⟩
  f26 := ⟨ "slices.partitionEqualCmpFunc[octavo/api.Op]", by decide, Try.func77.trans (congrArg some (by kernel_rfl))⟩
  f27 := ⟨ "slices.partitionCmpFunc[octavo/api.Op]", by decide, Try.func78.trans (congrArg some (by kernel_rfl))⟩
  f28 := Try.func79.trans (congrArg some (by kernel_rfl))
  f29 := Try.func80.trans (congrArg some (by kernel_rfl))
  f46 := ⟨ "slices.siftDownCmpFunc[octavo/api.Op]", by decide, Try.func85.trans (congrArg some (by kernel_rfl))⟩
  f47 := Try.func86.trans (congrArg some (by kernel_rfl))
  f48 := Try.func87.trans (congrArg some (by kernel_rfl))
  f49 := ⟨ "slices.medianAdjacentCmpFunc[octavo/api.Op]", by decide, Try.func88.trans (congrArg some (by kernel_rfl))⟩
  f50 := ⟨ "slices.medianCmpFunc[octavo/api.Op]", by decide, Try.func89.trans (congrArg some (by kernel_rfl))⟩
  f57 := ⟨ "slices.order2CmpFunc[octavo/api.Op]", by decide, Try.func100.trans (congrArg some (by kernel_rfl))⟩
  t0 := Try.underlying0
  a0 := Try.isAgg0
  z0 := Try.sizeOf0
  v0 := Try.zeroValue0
  t3 := Try.underlying3
  a3 := Try.isAgg3
  z3 := Try.sizeOf3
  v3 := Try.zeroValue3
  t4 := Try.underlying4
  a4 := Try.isAgg4
  z4 := Try.sizeOf4
  v4 := Try.zeroValue4
  t5 := Try.underlying5
  a5 := Try.isAgg5
  z5 := Try.sizeOf5
  v5 := Try.zeroValue5
  t9 := Try.underlying9
  a9 := Try.isAgg9
  z9 := Try.sizeOf9
  v9 := Try.zeroValue9
  t22 := Try.underlying30
  a22 := Try.isAgg30
  z22 := Try.sizeOf30
  v22 := Try.zeroValue30
  t25 := Try.underlying60
  a25 := Try.isAgg60
  z25 := Try.sizeOf60
  v25 := Try.zeroValue60
  t39 := Try.underlying92
  a39 := Try.isAgg92
  z39 := Try.sizeOf92
  v39 := Try.zeroValue92
  t45 := Try.underlying116
  a45 := Try.isAgg116
  z45 := Try.sizeOf116
  v45 := Try.zeroValue116
  t46 := Try.underlying117
  a46 := Try.isAgg117
  z46 := Try.sizeOf117
  v46 := Try.zeroValue117
  t50 := Try.underlying71
  a50 := Try.isAgg71
  z50 := Try.sizeOf71
  v50 := Try.zeroValue71
  t53 := Try.underlying22
  a53 := Try.isAgg22
  z53 := Try.sizeOf22
  v53 := Try.zeroValue22
  t55 := Try.underlying124
  a55 := Try.isAgg124
  z55 := Try.sizeOf124
  v55 := Try.zeroValue124
  t66 := Try.underlying128
  a66 := Try.isAgg128
  z66 := Try.sizeOf128
  v66 := Try.zeroValue128
  t70 := Try.underlying132
  a70 := Try.isAgg132
  z70 := Try.sizeOf132
  v70 := Try.zeroValue132
  t76 := Try.underlying141
  a76 := Try.isAgg141
  z76 := Try.sizeOf141
  v76 := Try.zeroValue141
  t77 := Try.underlying142
  a77 := Try.isAgg142
  z77 := Try.sizeOf142
  v77 := Try.zeroValue142
end Go.Proofs.Ytpgdnenkjommfaa.Marks

/- slices.SortFunc over operations by their places: what it leaves. Conditions: a list of the call's own; places that may be, or the beginning. -/
namespace Go.Proofs.Ytpgdnenkjommfaa.Marks
open Go.RowKit Go.WideShapes Go.Sort Stamp Go.Proofs.Ytpgdnenkjommfaa.Place Ops Codes

theorem sortL_any {v : Value} {l : List Opn} {base : Nat} {w : World} (hv : OwnL w base v l) (hm : ∀ o ∈ l, anyB o.pl = true) (hl : l.length < 4611686018427387904) :
    Calls Try.prog 26 #[v, .func (.func 27) #[] #[]] w fun e w' => e = .returned (.tuple #[]) ∧ ∃ l', l'.Perm l ∧ l'.Pairwise (fun a b => ¬ cmp b.pl a.pl < 0) ∧ OwnL w' base v l' ∧ Below base w w' := by
  obtain ⟨cs, h1, h2⟩ := hv
  by_cases hz : l = []
  · subst hz
    obtain ⟨ao, cap, rfl⟩ : ∃ ao cap, v = .slice ao 0 cap := Sees.shape (Sees.own h1)
    refine (AnyF.slices_SortFunc_none sortOp ao cap (.func (.func 27) #[] #[]) w).mono ?_
    rintro e w' ⟨rfl, rfl⟩
    exact ⟨rfl, [], .refl _, .nil, ⟨cs, h1, h2⟩, Below.refl _ _⟩
  rcases h1.2 with ⟨rfl, h⟩ | ⟨g, cap, cur, rfl, hbg, hg, hlc, hcm, hcs, hct⟩
  · exact absurd (List.length_eq_zero_iff.1 h) hz
  obtain ⟨ds, e1, e2⟩ := elts_of h2 hm
  have hn : l.length = ds.length := by rw [e2, List.length_map]
  have hgs := (Array.getElem?_eq_some_iff.1 hg).1
  have eg : ∀ args w, (callFunc 27 args).run Try.prog w = .ok (.enter 27 args) w := enters_of Try.func27 (by kernel_rfl) rfl
  have hcmp : CmpLays Try.prog 27 #[] (encE (w := w) (base := base)) 5 cfE g 0 ds.toArray.size w := fun m os dk _ x y =>
    Draws.calls_grow (cls_any (Runs.own (elt_stays hg m dk os x)) (Runs.own (elt_stays hg m dk os y)))
  have hH : HoldsK encE 5 w g 0 ds.toArray := elt_holds ⟨cur, hg, hcs, by rw [hct, e1]⟩ hn hlc
  have hcon := AnyQ.slices_SortFunc sortOp 5 Try.isAgg27 Try.sizeOf27 encE encE_len (fun x => by
      obtain ⟨ao, c, h⟩ := Sees.shape (Sees.own x.2.2)
      exact five_one x.1.1 x.1.2 ⟨ao, _, c, h⟩) cfE (swoE w base) 27 #[] g 0 cap ds.toArray w eg hcmp hH hgs (by simpa [← hn] using hl)
  change Calls Try.prog 26 _ _ _ at hcon
  rw [show ds.toArray.size = l.length by rw [hn]; simp] at hcon
  refine hcon.mono ?_
  rintro e w' ⟨rfl, d', n, os, hp, hs, rfl⟩
  obtain ⟨hp1, _, hp3⟩ := hp
  have hdn : d'.size = l.length := by rw [hp1, hn]; simp
  refine ⟨rfl, d'.toList.map opE', ?_, ?_, ⟨d'.toList.flatMap encE, ⟨?_, .inr ⟨g, cap, putCells id 0 (flatK encE 5 d') cur, ?_, hbg, srt_row encE 5 n d' os hg, ?_, hcm, ?_, ?_⟩⟩, holdP_of (elt_stays hg n d' os) _⟩, srt_below encE 5 w g 0 n base d' os hbg hgs⟩
  · rw [e2]
    refine List.Perm.map _ ?_
    have : (d'.extract 0 l.length).toList.Perm (ds.toArray.extract 0 l.length).toList := hp3
    rw [Array.extract_eq_self_of_le (by omega), Array.extract_eq_self_of_le (by simp [hn])] at this
    simpa using this
  · rw [List.pairwise_map, List.pairwise_iff_getElem]
    intro i j hi hj hij
    have := hs i j (Nat.zero_le _) hij (by rw [← hdn]; simpa using hj)
    rw [getElem!_pos d' j (by simpa using hj), getElem!_pos d' i (by simpa using hi)] at this
    unfold ltOf cfE at this
    have h := of_decide_eq_false this
    simpa [opE'] using h
  · rw [← flatK_list encE 5 (by decide) encE_len]
    simp
  · simp [hdn]
  · simpa [hdn] using hlc
  · rw [putCells_size]; exact hcs
  · have h3 : (flatK encE 5 d').size = l.length * 5 := by rw [size_flatK, hdn]
    rw [List.length_map, Array.length_toList, hdn, ← h3, putCells_take _ _ (by rw [h3, hcs]; exact Nat.mul_le_mul_right 5 hlc), flatK_list encE 5 (by decide) encE_len]
end Go.Proofs.Ytpgdnenkjommfaa.Marks

/- octavoref06.Under: what it answers. Conditions: the slice's cells are runs. -/
namespace Go.Proofs.Ytpgdnenkjommfaa.Place
open Go.RowKit Stamp
attribute [local go_sem ↓] Go.wp_at_zero Go.wp_at_succ
attribute [local go_sem] yielded_undef

end Go.Proofs.Ytpgdnenkjommfaa.Place

/- octavo/place.Under: what it answers. Conditions: the slice's cells are runs. -/
namespace Go.Proofs.Ytpgdnenkjommfaa.Place
open Go.RowKit Stamp
attribute [local go_sem ↓] Go.wp_at_zero Go.wp_at_succ
attribute [local go_sem] yielded_undef

end Go.Proofs.Ytpgdnenkjommfaa.Place

/- The laws' helpers of layer 6: run, of, alive, may; places written out. Conditions: none. -/
namespace Go.Proofs.Ytpgdnenkjommfaa.Place
open Go.RowKit Stamp
attribute [local go_sem ↓] Go.wp_at_zero Go.wp_at_succ

/-- A run written out. -/
def lr (t r m : Nat) (h : t < 4294967296 ∧ r < 256 ∧ m < 10000) : Run := ⟨t, r, m, h.1, h.2.1, by omega⟩
theorem Runs.alloc {W : World} {v : Value} {l : List Run} (h : Runs W v l) (o : Obj) : Runs (W.alloc o) v l := h.keeps ((Below.refl _ _).alloc (Nat.le_refl _) o)

end Go.Proofs.Ytpgdnenkjommfaa.Place

/- The law PlaceOrder: its walk. Conditions: the slices' cells are runs. -/
namespace Go.Proofs.Ytpgdnenkjommfaa.Place
open Go.RowKit Stamp
attribute [local go_sem ↓] Go.wp_at_zero Go.wp_at_succ

end Go.Proofs.Ytpgdnenkjommfaa.Place

/- octavoref09: Check, Many, Stands, Needs: what each answers. Conditions: the places' cells are runs. -/
namespace Go.Proofs.Ytpgdnenkjommfaa.Ops
open Go.RowKit Stamp Go.Proofs.Ytpgdnenkjommfaa.Place
attribute [local go_sem ↓] Go.wp_at_zero Go.wp_at_succ

end Go.Proofs.Ytpgdnenkjommfaa.Ops

/- The laws' helpers of layer 9: by, three, needs, bad, alive. Conditions: none. -/
namespace Go.Proofs.Ytpgdnenkjommfaa.Ops
open Go.RowKit Stamp Go.Proofs.Ytpgdnenkjommfaa.Place
attribute [local go_sem ↓] Go.wp_at_zero Go.wp_at_succ

/-- What blocks of five cells hold, over calls that write nothing that was there. -/
def Five (w : World) (g : Nat) (c0 c1 c2 c3 c4 : Value) : Prop := g < w.heap.size ∧ w.cell? ⟨g, 0, none⟩ = some c0 ∧ w.cell? ⟨g, 1, none⟩ = some c1 ∧ w.cell? ⟨g, 2, none⟩ = some c2 ∧ w.cell? ⟨g, 3, none⟩ = some c3 ∧ w.cell? ⟨g, 4, none⟩ = some c4
theorem Five.keeps {w w' : World} {g : Nat} {c0 c1 c2 c3 c4 : Value} (p : Five w g c0 c1 c2 c3 c4) (hb : Below w.heap.size w w') : Five w' g c0 c1 c2 c3 c4 :=
  ⟨Nat.lt_of_lt_of_le p.1 hb.size, (hb.cell (p := ⟨g, 0, none⟩) p.1).trans p.2.1, (hb.cell (p := ⟨g, 1, none⟩) p.1).trans p.2.2.1, (hb.cell (p := ⟨g, 2, none⟩) p.1).trans p.2.2.2.1, (hb.cell (p := ⟨g, 3, none⟩) p.1).trans p.2.2.2.2.1, (hb.cell (p := ⟨g, 4, none⟩) p.1).trans p.2.2.2.2.2⟩
end Go.Proofs.Ytpgdnenkjommfaa.Ops

/- OpNeeds answers true, and changes nothing that was there. Conditions: none. -/
namespace Go.Proofs.Ytpgdnenkjommfaa.Ops
open Go.RowKit Stamp Go.Proofs.Ytpgdnenkjommfaa.Place
attribute [local go_sem ↓] Go.wp_at_zero Go.wp_at_succ
attribute [local go_sem] yielded_undef

end Go.Proofs.Ytpgdnenkjommfaa.Ops

/- Live marks are sorted by their places, strictly; what one operation more makes of them. Conditions: none. -/
namespace Go.Proofs.Ytpgdnenkjommfaa.Marks
open Ops Stamp Bags Go.Proofs.Ytpgdnenkjommfaa.Place

def pre (a b : Opn) : Prop := cmp a.pl b.pl < 0
theorem cmp_may {a b : Opn} (ha : mayO a = true) (hb : mayO b = true) : cmp a.pl b.pl = Go.Proofs.Ytpgdnenkjommfaa.Place.hold (all a.pl) (all b.pl) := by
  unfold cmp; rw [if_pos ⟨anyB_may (mayO_parts ha).2.1, anyB_may (mayO_parts hb).2.1⟩]
theorem hold_val : ∀ l m : List Id, Go.Proofs.Ytpgdnenkjommfaa.Place.hold l m = -1 ∨ Go.Proofs.Ytpgdnenkjommfaa.Place.hold l m = 0 ∨ Go.Proofs.Ytpgdnenkjommfaa.Place.hold l m = 1 := hold_range
theorem pre_iff {a b : Opn} (ha : mayO a = true) (hb : mayO b = true) : pre a b ↔ Go.Proofs.Ytpgdnenkjommfaa.Place.hold (all a.pl) (all b.pl) = -1 := by
  unfold pre
  rw [cmp_may ha hb]
  have := hold_val (all a.pl) (all b.pl)
  omega
theorem pre_trans {a b c : Opn} (ha : mayO a = true) (hb : mayO b = true) (hc : mayO c = true) (h : pre a b) (k : pre b c) : pre a c := by
  rw [pre_iff ha hb] at h
  rw [pre_iff hb hc] at k
  rw [pre_iff ha hc]
  exact hold_trans _ _ _ h k
theorem pre_irrefl {a : Opn} (ha : mayO a = true) : ¬ pre a a := by
  rw [pre_iff ha ha, (hold_eq _ _).2 rfl]; decide
theorem pre_asymm {a b : Opn} (ha : mayO a = true) (hb : mayO b = true) (h : pre a b) : ¬ pre b a := fun k => pre_irrefl ha (pre_trans ha hb ha h k)
/-- Marks of unlike stamps have unlike places. -/
theorem mark_ne {a b : Opn} (ha : mayO a = true) (hb : mayO b = true) (ka : a.k = 2) (kb : b.k = 2) (h : idO a ≠ idO b) : pre a b ∨ pre b a := by
  rw [pre_iff ha hb, pre_iff hb ha, hold_neg (all a.pl) (all b.pl)]
  have h0 : Go.Proofs.Ytpgdnenkjommfaa.Place.hold (all a.pl) (all b.pl) ≠ 0 := fun e => by
    have ma := (mayB_iff _).1 (mayO_parts ha).2.1
    have mb := (mayB_iff _).1 (mayO_parts hb).2.1
    have e2 := (hold_same ma.2.2.1 mb.2.2.1).1 e
    apply h
    rw [← mark_tgt ha ka, ← mark_tgt hb kb]
    unfold tgt
    simp only [e2]
  have := hold_val (all a.pl) (all b.pl)
  omega

/-! ### Put in its place -/
theorem insM_nil (x : Opn) : insM [] x = [x] := rfl
theorem insM_cons (y : Opn) (out : List Opn) (x : Opn) : insM (y :: out) x = if ahead y x = true then y :: insM out x else x :: y :: out := by
  unfold insM atM
  by_cases h : ahead y x = true
  · rw [if_pos h, List.takeWhile_cons_of_pos (by simpa using h)]; simp
  · rw [if_neg h, List.takeWhile_cons_of_neg (by simpa using h)]; simp
theorem ahead_iff {a b : Opn} : ahead a b = true ↔ pre a b := by unfold ahead pre; exact decide_eq_true_iff
theorem ins_sorted {x : Opn} (hx : mayO x = true) (kx : x.k = 2) : ∀ {out : List Opn}, out.Pairwise pre → (∀ y ∈ out, mayO y = true ∧ y.k = 2) → (∀ y ∈ out, idO y ≠ idO x) → (insM out x).Pairwise pre
  | [], _, _, _ => by rw [insM_nil]; exact List.pairwise_singleton _ _
  | y :: out, hs, hm, hne => by
    have hs' := List.pairwise_cons.1 hs
    have hy := hm y (by simp)
    rw [insM_cons]
    by_cases h : ahead y x = true
    · rw [if_pos h]
      refine List.Pairwise.cons (fun z hz => ?_) (ins_sorted hx kx hs'.2 (fun z hz => hm z (by simp [hz])) (fun z hz => hne z (by simp [hz])))
      rcases mem_insM.1 hz with hz | rfl
      · exact hs'.1 z hz
      · exact ahead_iff.1 h
    · rw [if_neg h]
      have hxy : pre x y := by
        rcases mark_ne hy.1 hx hy.2 kx (hne y (by simp)) with h1 | h1
        · exact absurd (ahead_iff.2 h1) h
        · exact h1
      refine List.Pairwise.cons (fun z hz => ?_) hs
      rcases List.mem_cons.1 hz with rfl | hz
      · exact hxy
      · exact pre_trans hx hy.1 (hm z (by simp [hz])).1 hxy (hs'.1 z hz)
theorem lives_sorted {L : List Opn} : ∀ {l : List Opn}, (∀ o ∈ l, mayO o = true) → l.Pairwise lessO → (livesM L l).Pairwise pre := by
  intro l
  induction l using Clocks.list_snoc_ind with
  | h0 => intro _ _; exact .nil
  | h1 l x ih =>
    intro hm hp
    have hp' := List.pairwise_append.1 hp
    have ih' := ih (fun o ho => hm o (by simp [ho])) hp'.1
    rw [livesM_snoc]
    unfold stepM
    split
    · rename_i h
      refine ins_sorted (hm x (by simp)) h.1 ih' (fun y hy => ?_) (fun y hy => ?_)
      · have := mem_livesM.1 hy; exact ⟨hm y (by simp [this.1]), this.2.1⟩
      · have := mem_livesM.1 hy; exact lessO_ne (hp'.2.2 y this.1 x (by simp))
    · exact ih'
theorem sorted_ext : ∀ {l m : List Opn}, (∀ x ∈ l, mayO x = true) → (∀ x ∈ m, mayO x = true) → l.Pairwise pre → m.Pairwise pre → (∀ x, x ∈ l ↔ x ∈ m) → l = m
  | [], [], _, _, _, _, _ => rfl
  | [], y :: m, _, _, _, _, h => by have := (h y).2 (by simp); simp at this
  | x :: l, [], _, _, _, _, h => by have := (h x).1 (by simp); simp at this
  | x :: l, y :: m, al, am, hl, hm, h => by
    have hl' := List.pairwise_cons.1 hl
    have hm' := List.pairwise_cons.1 hm
    have e : x = y := by
      rcases List.mem_cons.1 ((h x).1 (by simp)) with e | hx
      · exact e
      · rcases List.mem_cons.1 ((h y).2 (by simp)) with e | hy
        · exact e.symm
        · exact absurd (hm'.1 x hx) (pre_asymm (al x (by simp)) (am y (by simp)) (hl'.1 y hy))
    subst e
    rw [sorted_ext (fun z hz => al z (by simp [hz])) (fun z hz => am z (by simp [hz])) hl'.2 hm'.2 (fun z => by
      constructor
      · intro hz
        rcases List.mem_cons.1 ((h z).1 (by simp [hz])) with rfl | hz'
        · exact absurd (hl'.1 z hz) (pre_irrefl (al z (by simp)))
        · exact hz'
      · intro hz
        rcases List.mem_cons.1 ((h z).2 (by simp [hz])) with rfl | hz'
        · exact absurd (hm'.1 z hz) (pre_irrefl (al z (by simp)))
        · exact hz')]
theorem lives_may {L l : List Opn} (hm : ∀ o ∈ l, mayO o = true) : ∀ x ∈ livesM L l, mayO x = true := fun x hx => hm x (mem_livesM.1 hx).1
/-- The live marks are known by which they are. -/
theorem lives_ext {l m : List Opn} (hl : Bag l) (ha : ∀ x ∈ m, mayO x = true) (hs : m.Pairwise pre) (h : ∀ y, y ∈ m ↔ y ∈ l ∧ y.k = 2 ∧ ended l (idO y) = false) : livesM l l = m :=
  sorted_ext (lives_may hl.2.1) ha (lives_sorted hl.2.1 hl.2.2) hs (fun y => mem_livesM.trans (h y).symm)

/-! ### One operation more -/
def keepM (had : Bool) (o y : Opn) : Bool := had || (!decide (o.k = 4) || !decide (tgt o = idO y))
def wstep (had : Bool) (o : Opn) (s : List Opn × Bool) (y : Opn) : List Opn × Bool :=
  ((if s.2 = false ∧ cmp o.pl y.pl < 0 then s.1 ++ [o] else s.1) ++ (if keepM had o y = true then [y] else []), if s.2 = false ∧ cmp o.pl y.pl < 0 then true else s.2)
def wfin (o : Opn) (s : List Opn × Bool) : List Opn := if s.2 = true then s.1 else s.1 ++ [o]
theorem wstep_done (had : Bool) (o : Opn) : ∀ (a acc : List Opn), wfin o (a.foldl (wstep had o) (acc, true)) = acc ++ a.filter (fun y => keepM had o y)
  | [], acc => by simp [wfin]
  | y :: a, acc => by
    rw [List.foldl_cons, show wstep had o (acc, true) y = (acc ++ (if keepM had o y = true then [y] else []), true) by simp [wstep], wstep_done had o a]
    by_cases h : keepM had o y = true
    · rw [if_pos h, List.filter_cons_of_pos (by simpa using h), List.append_assoc]; rfl
    · rw [if_neg h, List.filter_cons_of_neg (by simpa using h), List.append_nil]
theorem wstep_open (had : Bool) (o : Opn) : ∀ (a acc : List Opn), (∀ y ∈ a, keepM had o y = true) → (∀ y ∈ a, pre o y ↔ ¬ ahead y o = true) → wfin o (a.foldl (wstep had o) (acc, false)) = acc ++ insM a o
  | [], acc, _, _ => by simp [wfin, insM_nil]
  | y :: a, acc, hk, hp => by
    have ky := hk y (by simp)
    have py := hp y (by simp)
    rw [List.foldl_cons, insM_cons]
    by_cases h : ahead y o = true
    · have hn : ¬ cmp o.pl y.pl < 0 := fun hc => (py.1 hc) h
      rw [if_pos h, show wstep had o (acc, false) y = (acc ++ [y], false) by simp [wstep, hn, ky], wstep_open had o a _ (fun z hz => hk z (by simp [hz])) (fun z hz => hp z (by simp [hz])), List.append_assoc]
      rfl
    · have hc : cmp o.pl y.pl < 0 := py.2 h
      rw [if_neg h, show wstep had o (acc, false) y = (acc ++ [o] ++ [y], true) by simp [wstep, hc, ky], wstep_done]
      have : a.filter (fun y => keepM had o y) = a := List.filter_eq_self.2 (fun z hz => hk z (by simp [hz]))
      rw [this]
      simp
theorem ended_withO {l : List Opn} {o : Opn} (hno : hasO l (idO o) = false) (a : Id) : ended (withO l o) a = (ended l a || (decide (o.k = 4) && decide (tgt o = a))) := by
  rw [Bool.eq_iff_iff, ended_iff, Bool.or_eq_true, ended_iff, Bool.and_eq_true, decide_eq_true_iff, decide_eq_true_iff]
  constructor
  · rintro ⟨x, hx, h1, h2⟩
    rcases mem_withO.1 hx with hx | ⟨rfl, _⟩
    · exact .inl ⟨x, hx, h1, h2⟩
    · exact .inr ⟨h1, h2⟩
  · rintro (⟨x, hx, h1, h2⟩ | ⟨h1, h2⟩)
    · exact ⟨x, mem_withO.2 (.inl hx), h1, h2⟩
    · exact ⟨o, mem_withO.2 (.inr ⟨rfl, hno⟩), h1, h2⟩
/-- What the law makes of the live marks is what they are with one operation more. -/
theorem grow_is {l : List Opn} {o : Opn} (hl : Bag l) (ho : mayO o = true) (hw : Bag (withO l o)) :
    wfin o ((livesM l l).foldl (wstep (hasO l (idO o)) o) ([], hasO l (idO o) || (!decide (o.k = 2) || ended l (idO o)))) = livesM (withO l o) (withO l o) := by
  have al := lives_may (L := l) hl.2.1
  have sl := lives_sorted (L := l) hl.2.1 hl.2.2
  by_cases hh : hasO l (idO o) = true
  · rw [hh, Bool.true_or, wstep_done, withO_yes hh, List.nil_append]
    exact List.filter_eq_self.2 (fun z _ => by simp [keepM])
  have hno : hasO l (idO o) = false := by simpa using hh
  have hid := hasO_no.1 hno
  rw [hno, Bool.false_or]
  by_cases hk : o.k = 2
  · have he : ∀ a, ended (withO l o) a = ended l a := fun a => by rw [ended_withO hno]; simp [hk]
    have hkeep : ∀ y, keepM false o y = true := fun y => by simp [keepM, hk]
    by_cases hj : ended l (idO o) = true
    · rw [show (!decide (o.k = 2) || ended l (idO o)) = true by simp [hj], wstep_done, List.nil_append, List.filter_eq_self.2 (fun z _ => hkeep z)]
      refine (lives_ext hw al sl (fun y => ?_)).symm
      rw [mem_livesM, he, mem_withO]
      constructor
      · rintro ⟨h1, h2⟩; exact ⟨.inl h1, h2⟩
      · rintro ⟨h1 | ⟨rfl, _⟩, h2, h3⟩
        · exact ⟨h1, h2, h3⟩
        · rw [hj] at h3; cases h3
    · have hj' : ended l (idO o) = false := by simpa using hj
      rw [show (!decide (o.k = 2) || ended l (idO o)) = false by simp [hj', hk], wstep_open false o _ _ (fun z _ => hkeep z) (fun y hy => ?_), List.nil_append]
      · refine (lives_ext hw (fun x hx => ?_) (ins_sorted ho hk sl (fun y hy => ⟨al y hy, (mem_livesM.1 hy).2.1⟩) (fun y hy => hid y (mem_livesM.1 hy).1)) (fun y => ?_)).symm
        · rcases mem_insM.1 hx with hx | rfl
          · exact al x hx
          · exact ho
        · rw [mem_insM, mem_livesM, he, mem_withO]
          constructor
          · rintro (⟨h1, h2⟩ | rfl)
            · exact ⟨.inl h1, h2⟩
            · exact ⟨.inr ⟨rfl, hno⟩, hk, hj'⟩
          · rintro ⟨h1 | ⟨rfl, _⟩, h2⟩
            · exact .inl ⟨h1, h2⟩
            · exact .inr rfl
      · have hy2 := mem_livesM.1 hy
        have my := al y hy
        rw [ahead_iff]
        constructor
        · intro h; exact pre_asymm ho my h
        · intro h
          rcases mark_ne ho my hk hy2.2.1 (fun e => hid y hy2.1 e.symm) with h1 | h1
          · exact h1
          · exact absurd h1 h
  · rw [show (!decide (o.k = 2) || ended l (idO o)) = true by simp [hk], wstep_done, List.nil_append]
    refine (lives_ext hw (fun x hx => al x (List.mem_filter.1 hx).1) (sl.filter _) (fun y => ?_)).symm
    rw [List.mem_filter, mem_livesM, mem_withO, ended_withO hno]
    have hkm : keepM false o y = (!(decide (o.k = 4) && decide (tgt o = idO y))) := by simp [keepM]
    rw [hkm]
    constructor
    · rintro ⟨⟨h1, h2, h3⟩, h4⟩
      refine ⟨.inl h1, h2, ?_⟩
      rw [h3, Bool.false_or]
      revert h4
      cases decide (o.k = 4) && decide (tgt o = idO y) <;> simp
    · rintro ⟨h1 | ⟨rfl, _⟩, h2, h3⟩
      · rw [Bool.or_eq_false_iff] at h3
        exact ⟨⟨h1, h2, h3.1⟩, by rw [h3.2]; rfl⟩
      · exact absurd h2 hk
theorem grow_join {l : List Opn} {o : Opn} (hno : hasO l (idO o) = false) (hk : o.k = 4) : ended (withO l o) (tgt o) = true := by
  rw [ended_withO hno]; simp [hk]
/-! ### Which are live -/
def liveQ (q : Bool) : Option Opn → Bool
  | some o => decide (o.k = 2) && !q
  | none => false
theorem live_has {l : List Opn} (hl : Bag l) (a : Id) : (livesM l l).any (fun y => decide (idO y = a)) = liveQ (ended l a) (findO l a) := by
  rw [Bool.eq_iff_iff, List.any_eq_true]
  constructor
  · rintro ⟨y, hy, he⟩
    have he := of_decide_eq_true he
    have h := mem_livesM.1 hy
    rw [← he, findO_mem hl.2.2 h.1]
    simp [liveQ, h.2.1, h.2.2]
  · intro h
    cases hf : findO l a with
    | none => rw [hf] at h; cases h
    | some o =>
      rw [hf] at h
      obtain ⟨h1, h2⟩ := findO_some hf
      simp only [liveQ, Bool.and_eq_true, decide_eq_true_eq, Bool.not_eq_true'] at h
      exact ⟨o, mem_livesM.2 ⟨h1, h.1, by rw [h2]; exact h.2⟩, decide_eq_true h2⟩
end Go.Proofs.Ytpgdnenkjommfaa.Marks

/- octavo/marks.Live: what it answers. Conditions: the slice's cells are operations. -/
namespace Go.Proofs.Ytpgdnenkjommfaa.Marks
open Go.RowKit Go.WideShapes Stamp Go.Proofs.Ytpgdnenkjommfaa.Place Ops Codes Bags
attribute [local go_sem ↓] Go.wp_at_zero Go.wp_at_succ

/-- The live marks of a list, in its order. -/
def pickM (L l : List Opn) : List Opn := l.filter (fun o => decide (o.k = 2) && !ended L (idO o))
theorem pick_yes {L l : List Opn} {x : Opn} (hk : x.k = 2) (he : ended L (idO x) = false) : pickM L (l ++ [x]) = pickM L l ++ [x] := by
  unfold pickM
  rw [List.filter_append, List.filter_cons_of_pos (by simp [hk, he])]
  rfl
theorem pick_no {L l : List Opn} {x : Opn} (h : ¬ (x.k = 2 ∧ ended L (idO x) = false)) : pickM L (l ++ [x]) = pickM L l := by
  unfold pickM
  rw [List.filter_append, List.filter_cons_of_neg (by simpa using h)]
  simp
theorem pick_is {l m : List Opn} (hl : Bag l) (hp : m.Perm (pickM l l)) (hs : m.Pairwise (fun a b => ¬ cmp b.pl a.pl < 0)) : livesM l l = m := by
  have hmem : ∀ y, y ∈ m ↔ y ∈ l ∧ y.k = 2 ∧ ended l (idO y) = false := fun y => by
    rw [hp.mem_iff]
    unfold pickM
    simp
  refine lives_ext hl (fun x hx => hl.2.1 x ((hmem x).1 hx).1) ?_ hmem
  have hd : m.Pairwise (fun a b => idO a ≠ idO b) := by
    refine (hp.pairwise_iff (fun {a b} h => Ne.symm h)).2 ?_
    unfold pickM
    exact (hl.2.2.imp (fun h => lessO_ne h)).filter _
  refine List.Pairwise.imp_of_mem ?_ (hs.and hd)
  intro a b ha hb h
  have h1 := (hmem a).1 ha
  have h2 := (hmem b).1 hb
  rcases mark_ne (hl.2.1 a h1.1) (hl.2.1 b h2.1) h1.2.1 h2.2.1 h.2 with h3 | h3
  · exact h3
  · exact absurd h3 h.1
theorem grown_apart {w w' : World} {N : Nat} (hN : N ≤ w.heap.size) (h : w.grownBy w' (some N)) : Clocks.Apart N (N + 1) w w' :=
  ⟨⟨h.os, h.tape, h.output, h.size, fun k hk => h.block k (by omega) (by intro e; injection e with e; omega)⟩, fun k h1 h2 => h.block k h2 (by intro e; injection e with e; omega)⟩
theorem holdP_apart {B H : Nat} {w w' : World} (ha : Clocks.Apart B H w w') : ∀ {cs : List Value} {l : List Opn}, HoldP w H cs l → HoldP w' H cs l
  | _, [], h => h
  | _, _ :: _, ⟨v, d, h1, h2, h3⟩ => ⟨v, d, h1, Clocks.own_apart h2 ha, holdP_apart ha h3⟩
theorem ownL_apart {B H : Nat} {w w' : World} {v : Value} {l : List Opn} (h : OwnL w H v l) (ha : Clocks.Apart B H w w') : OwnL w' H v l := by
  obtain ⟨cs, h1, h2⟩ := h
  exact ⟨cs, Clocks.own_apart h1 ha, holdP_apart ha h2⟩
/-- What is told of the map: of the stamps that are still to come it tells whether they are joined. -/
def Ahead (l : List Opn) (j : Nat) (N n : Nat) (wr : World) : Prop := ∃ S, SetI wr N n S ∧ ∀ (i : Nat) (h : i < l.length), j ≤ i → S (idO (l[i]'h)) = ended l (idO (l[i]'h))
theorem Ahead.keeps {l : List Opn} {j N n : Nat} {w w' : World} (h : Ahead l j N n w) (hb : Below w.heap.size w w') : Ahead l j N n w' := by
  obtain ⟨S, h1, h2⟩ := h
  exact ⟨S, h1.keeps hb, h2⟩
theorem Ahead.next {l : List Opn} {j N n : Nat} {w : World} (h : Ahead l j N n w) : Ahead l (j + 1) N n w := by
  obtain ⟨S, h1, h2⟩ := h
  exact ⟨S, h1, fun i hi hj => h2 i hi (by omega)⟩
theorem bag_ids {l : List Opn} (hl : Bag l) {i j : Nat} (hi : i < l.length) (hj : j < l.length) (h : j < i) : idO (l[i]'hi) ≠ idO (l[j]'hj) :=
  fun e => lessO_ne (List.pairwise_iff_getElem.1 hl.2.2 j i hj hi h) e.symm

set_option maxRecDepth 100000 in
set_option maxHeartbeats 8000000 in
theorem mLive_any {v : Value} {l : List Opn} {w : World} (hv : OpL w v l) : Calls Try.prog 9 #[v] w (DoneN (liveL l) (chkL l) w) := by
  have CK := Lib.hid (bCheck_any hv)
  obtain ⟨ao, cap, rfl⟩ := hv.shape
  obtain ⟨n, hn⟩ : ∃ n, n = l.length := ⟨_, rfl⟩
  have HV : Hid (∀ W : World, Below w.heap.size w W → OpL W (.slice ao l.length cap) l) := fun W h => hv.keeps h
  have HN := Lib.hid hn
  by_cases hbag : Bag l
  rotate_left
  · have e1 : chkL l = 8 := chkL_no hbag
    have e2 : liveL l = [] := by unfold liveL; rw [bagB_no hbag]; rfl
    rw [e1] at CK ⊢
    rw [e2]
    rw [← hn] at CK ⊢
    clear hv hn e1 e2
    go_enter Try.func9, Try.ntmps9
    go_wp2_with fail
    refine CK.out.mono ?_
    rintro e w1 ⟨rfl, b1⟩
    have B1 := Lib.hid b1
    clear b1
    go_wp2
    go_ret2
    exact ⟨_, rfl, OwnL.nil _ _, B1.out⟩
  have e1 : chkL l = 0 := chkL_yes hbag
  have e2 : liveL l = livesM l l := by unfold liveL; rw [(bagB_iff l).2 hbag]; rfl
  have HB := Lib.hid hbag
  rw [e1] at CK ⊢
  rw [e2]
  have JI : Hid (∀ W : World, Below w.heap.size w W → Calls Try.prog 23 #[.slice ao l.length cap] W fun e w' => e = .returned (.map (some W.heap.size)) ∧ Ahead l 0 W.heap.size n w' ∧ Below W.heap.size W w') := fun W h => by
    refine (joinedIn_any (hv.keeps h) hbag.2.1 hbag.1).mono ?_
    rintro e w' ⟨rfl, h1, h2⟩
    exact ⟨rfl, ⟨_, by rw [HN.out]; exact h1, fun _ _ _ => rfl⟩, h2⟩
  have SO : Hid (∀ (W : World) (v : Value) (base : Nat), OwnL W base v (pickM l l) → base ≤ W.heap.size → Calls Try.prog 26 #[v, .func (.func 27) #[] #[]] W fun e w' => e = .returned (.tuple #[]) ∧ OwnL w' base v (livesM l l) ∧ Below base W w') := fun W v base h hB => by
    refine (sortL_any h (fun o ho => anyB_may (mayO_parts (hbag.2.1 o (List.mem_filter.1 ho).1)).2.1) (by have h1 := hbag.1; have h2 : (pickM l l).length ≤ l.length := List.length_filter_le _ _; omega)).mono ?_
    rintro e w' ⟨rfl, l', h1, h2, h3, h4⟩
    rw [pick_is hbag h1 h2]
    exact ⟨rfl, h3, h4⟩
  have hnm : n ≤ 1024 := by rw [hn]; exact hbag.1
  obtain ⟨R, hR⟩ : ∃ z, livesM l l = z := ⟨_, rfl⟩
  rw [hR] at SO ⊢
  rw [← hn] at CK JI ⊢
  clear hv hn e1 e2 hR hbag
  go_enter Try.func9, Try.ntmps9
  go_wp2_with fail
  refine CK.out.mono ?_
  rintro e w1 ⟨rfl, b1⟩
  have B1 := Lib.hid b1
  clear b1 CK
  go_wp2_with fail
  refine (JI.out _ B1.out).mono ?_
  rintro e w2 ⟨rfl, s2, b2⟩
  obtain ⟨N, hN⟩ : ∃ N, w1.heap.size = N := ⟨_, rfl⟩
  have hNw : w.heap.size ≤ N := by rw [← hN]; exact B1.out.size
  have hN2 : N < w2.heap.size := by obtain ⟨S, h1, _⟩ := s2; rw [hN] at h1; exact h1.lt
  rw [hN] at s2
  have S2 := Lib.hid s2
  have B2 := Lib.hid (bt B1.out b2)
  have L2 : Hid (OwnL w2 (N + 1) (.slice none 0 0) (pickM l (l.take 0))) := OwnL.nil _ _
  have M2 : Hid (0 = (pickM l (l.take 0)).length) := rfl
  have Z2 := Lib.hid hN2
  rw [hN]
  clear s2 b2 hN hN2 B1 JI
  have HNW := Lib.hid hNw
  clear hNw
  go_wp2
  go_loopw [6, 18] (fun v i wr => ∃ j m : Nat, j ≤ n ∧ m ≤ j ∧ i = .int .i64 (j : Int) ∧ (∃ ao cap, v = .slice ao m cap) ∧ Hid (m = (pickM l (l.take j)).length) ∧ Hid (OwnL wr (N + 1) v (pickM l (l.take j))) ∧ Hid (Ahead l j N n wr) ∧ Hid (N < wr.heap.size) ∧ Hid (Below w.heap.size w wr)) (fun _ i _ => n - (intOf i).toNat)
  case atStart => exact ⟨0, 0, by omega, by omega, rfl, ⟨none, 0, rfl⟩, M2, L2, S2, Z2, B2⟩
  case round =>
    clear S2 B2 L2 M2 Z2
    obtain ⟨j, m, hj, hmj, rfl, ⟨aoL, capL, rfl⟩, hm, hown, hset, hz, hbel⟩ := hrel
    by_cases hjn : j < n
    rotate_left
    · have q3 : decide (j < n) = false := by simpa using hjn
      have hkk : l.take j = l := List.take_of_length_le (by have := HN.out; omega)
      rw [hkk] at hown
      clear hkk hm hset
      have SX := Lib.hid (SO.out _ _ _ hown.out hz.out)
      clear SO
      go_wp2_with fail
      refine SX.out.mono ?_
      rintro e w3 ⟨rfl, o3, b3⟩
      have O3 : Hid (OwnL w3 w.heap.size (.slice aoL m capL) R) := o3.base (Nat.le_succ_of_le HNW.out)
      have B3 := Lib.hid (hbel.out.trans (b3.mono (Nat.le_succ_of_le HNW.out)))
      clear o3 b3 SX hown
      go_wp2
      go_ret2
      exact ⟨_, rfl, O3.out, B3.out⟩
    have q3 : decide (j < n) = true := by simpa using hjn
    have q4 : (0 : Int) ≤ (j : Int) := by omega
    have q5 : (j : Int) < (n : Int) := by omega
    have hjl : j < l.length := by rw [← HN.out]; exact hjn
    obtain ⟨bb, oo, u, e, hbb, hru, h0, h1, h2, h3, h4⟩ := opl_at (HV.out w (Below.refl _ _)) j hjl
    subst e
    replace h0 := (hbel.out.cell (p := ⟨bb, oo + j * 5, none⟩) hbb).trans h0
    replace h1 := (hbel.out.cell (p := ⟨bb, oo + j * 5 + 1, none⟩) hbb).trans h1
    replace h2 := (hbel.out.cell (p := ⟨bb, oo + j * 5 + 2, none⟩) hbb).trans h2
    replace h3 := (hbel.out.cell (p := ⟨bb, oo + j * 5 + 3, none⟩) hbb).trans h3
    replace h4 := (hbel.out.cell (p := ⟨bb, oo + j * 5 + 4, none⟩) hbb).trans h4
    obtain ⟨x, hx⟩ : ∃ x, x = l[j]'hjl := ⟨_, rfl⟩
    rw [← hx] at hru h0 h1 h2 h4
    have RU : Hid (∀ W : World, Below w.heap.size w W → Runs W u x.pl) := fun W h => hru.keeps h
    have hxm : x ∈ l := by rw [hx]; exact List.getElem_mem _
    have hpx : x.pl.length ≤ 8796093022208 := by have := mayO_fits (HB.out.2.1 x hxm); omega
    have hst : l.take (j + 1) = l.take j ++ [x] := by rw [List.take_succ_eq_append_getElem hjl, hx]
    have FY : Hid (x.k = 2 → ended l (idO x) = false → pickM l (l.take (j + 1)) = pickM l (l.take j) ++ [x]) := fun h h2 => by rw [hst]; exact pick_yes h h2
    have FN : Hid (¬ (x.k = 2 ∧ ended l (idO x) = false) → pickM l (l.take (j + 1)) = pickM l (l.take j)) := fun h => by rw [hst]; exact pick_no h
    have TO : Hid (∀ W : World, Ahead l j N n W → N < W.heap.size → Calls Try.prog 24 #[.map (some N), .agg #[.int .u32 (x.t : Int), .int .u8 (x.r : Int)]] W fun e w' => e = .returned (.bool (ended l (idO x))) ∧ Ahead l (j + 1) N n w' ∧ Clocks.Apart N (N + 1) W w') := fun W ⟨S, s1, s2⟩ hW => by
      refine (takeOut_any (idO x) s1).mono ?_
      rintro e w' ⟨rfl, k1, k2⟩
      refine ⟨by rw [hx, s2 j hjl (Nat.le_refl _)], ⟨_, k1, fun i hi hji => ?_⟩, grown_apart (Nat.le_of_lt hW) k2⟩
      show (S _ && !decide _) = _
      rw [s2 i hi (by omega), hx, decide_eq_false (bag_ids HB.out hi hjl (by omega))]
      simp
    have TW : Hid (∀ W : World, Below w.heap.size w W → Calls Try.prog 25 #[opv x u] W fun e w' => ∃ ao cap, e = .returned (opv x (.slice ao x.pl.length cap)) ∧ w'.ownsRow W.heap.size 50 3 (.slice ao x.pl.length cap) x.pl.length (runs x.pl) ∧ Below W.heap.size W w') := fun W h => by
      refine (oTwin_any (hru.keeps h) hpx).mono ?_
      rintro e w' ⟨v', rfl, ho, hb⟩
      obtain ⟨ao', cap', rfl⟩ : ∃ ao cap, v' = .slice ao x.pl.length cap := Sees.shape (Sees.own ho)
      exact ⟨ao', cap', rfl, ho, hb⟩
    have HO : Hid (∀ v : Value, opv x v = .agg #[.int .u8 (x.k : Int), .int .u32 (x.t : Int), .int .u8 (x.r : Int), v, .int .i64 x.p]) := fun v => rfl
    obtain ⟨uo, uc, rfl⟩ := hru.shape
    obtain ⟨nu, hnu⟩ : ∃ n, n = x.pl.length := ⟨_, rfl⟩
    have HNU := Lib.hid hnu
    rw [← hnu] at h3 TW
    obtain ⟨q, hq⟩ : ∃ q, ended l (idO x) = q := ⟨_, rfl⟩
    rw [hq] at FY FN TO
    clear hru hx hxm hpx hst hnu hq RU
    obtain ⟨k, hk⟩ : ∃ z, x.k = z := ⟨_, rfl⟩
    obtain ⟨t, ht⟩ : ∃ z, x.t = z := ⟨_, rfl⟩
    obtain ⟨r, hr⟩ : ∃ z, x.r = z := ⟨_, rfl⟩
    obtain ⟨p, hp⟩ : ∃ z, x.p = z := ⟨_, rfl⟩
    have HFV : Hid (∀ v : Value, [.int .u8 (k : Int), .int .u32 (t : Int), .int .u8 (r : Int), v, .int .i64 p] = [Value.int .u8 (x.k : Int), .int .u32 (x.t : Int), .int .u8 (x.r : Int), v, .int .i64 x.p]) := fun v => by rw [hk, ht, hr, hp]
    rw [hk, ht, hr, hp] at HO
    simp only [HO.out] at TW
    rw [ht, hr] at TO
    rw [hk] at h0 FY FN
    rw [ht] at h1
    rw [hr] at h2
    rw [hp] at h4
    have BL : Hid (Below wr.heap.size wr (wr.alloc (.cells #[.int .u8 (k : Int), .int .u32 (t : Int), .int .u8 (r : Int), .slice uo nu uc, .int .i64 p] 27))) := (Below.refl _ _).alloc (Nat.le_refl _) _
    have BW := Lib.hid (bt hbel.out BL.out)
    have OW := Lib.hid (hown.out.keeps BL.out)
    have SW := Lib.hid (hset.out.keeps BL.out)
    have ZW : Hid (N < (wr.alloc (.cells #[.int .u8 (k : Int), .int .u32 (t : Int), .int .u8 (r : Int), .slice uo nu uc, .int .i64 p] 27)).heap.size) := Nat.lt_of_lt_of_le hz.out BL.out.size
    have X0 : Hid ((wr.alloc (.cells #[.int .u8 (k : Int), .int .u32 (t : Int), .int .u8 (r : Int), .slice uo nu uc, .int .i64 p] 27)).heap[wr.heap.size]? = some (.cells #[.int .u8 (k : Int), .int .u32 (t : Int), .int .u8 (r : Int), .slice uo nu uc, .int .i64 p] 27)) := blk_new rfl
    clear hk ht hr hp HO hown hset
    by_cases hk2 : k = 2
    rotate_left
    · have qk : ((k : Int) == 2) = false := by simp; omega
      have qk2 : decide ((k : Int) = 2) = false := decide_eq_false (by omega)
      have FT := Lib.hid (FN.out (fun h => hk2 h.1))
      have SN := Lib.hid SW.out.next
      rw [← FT.out] at OW hm
      clear FY FN FT TO TW hk2 SW X0 hbb hz
      go_wp2
      go_roundw
      case rel => exact ⟨j + 1, m, by omega, by omega, by go_num, ⟨_, _, rfl⟩, hm, OW, SN, ZW, BW⟩
      case measure => simp [intOf]; omega
    subst hk2
    have HF2 : Hid (∀ v : Value, [.int .u8 2, .int .u32 (t : Int), .int .u8 (r : Int), v, .int .i64 p] = [Value.int .u8 (x.k : Int), .int .u32 (x.t : Int), .int .u8 (x.r : Int), v, .int .i64 x.p]) := HFV.out
    go_wp2_with fail
    refine (TO.out _ SW.out ZW.out).mono ?_
    rintro e w3 ⟨rfl, s3, a3⟩
    have S3 := Lib.hid s3
    have O3 := Lib.hid (ownL_apart OW.out a3)
    have B3 := Lib.hid (BW.out.trans (a3.1.mono HNW.out))
    have Z3 : Hid (N < w3.heap.size) := Nat.lt_of_lt_of_le ZW.out a3.1.size
    have X3 : Hid (w3.heap[wr.heap.size]? = some (.cells #[.int .u8 2, .int .u32 (t : Int), .int .u8 (r : Int), .slice uo nu uc, .int .i64 p] 27)) := (a3.2 wr.heap.size hz.out (Array.getElem?_eq_some_iff.1 X0.out).1).trans X0.out
    clear s3 a3 OW SW BW ZW X0 TO BL hz hbb
    cases q
    rotate_left
    · have FT := Lib.hid (FN.out (by simp))
      rw [← FT.out] at O3 hm
      clear FY FN FT TW X3
      go_wp2
      go_roundw
      case rel => exact ⟨j + 1, m, by omega, by omega, by go_num, ⟨_, _, rfl⟩, hm, O3, S3, Z3, B3⟩
      case measure => simp [intOf]; omega
    have FT := Lib.hid (FY.out (by first | trivial | rfl) (by first | trivial | rfl))
    clear FY FN
    have c0 := cell_of_row _ _ 0 _ _ _ X3.out
    have c1 := cell_of_row _ _ 1 _ _ _ X3.out
    have c2 := cell_of_row _ _ 2 _ _ _ X3.out
    have c3 := cell_of_row _ _ 3 _ _ _ X3.out
    have c4 := cell_of_row _ _ 4 _ _ _ X3.out
    go_wp2_with fail
    clear c0 c1 c2 c3 c4 X3
    refine (TW.out _ B3.out).mono ?_
    rintro e w5 ⟨aoO, capO, rfl, o5, b5⟩
    have L5 := Lib.hid (O3.out.keeps b5)
    have B5 := Lib.hid (bt B3.out b5)
    have S5 := Lib.hid (S3.out.keeps b5)
    have Z5 : Hid (N < w5.heap.size) := Nat.lt_of_lt_of_le Z3.out b5.size
    obtain ⟨cs, lo, lh⟩ := L5.out
    rw [← hm.out] at lo
    have LO := Lib.hid lo
    have LH := Lib.hid lh
    have PO : Hid (w5.ownsRow (N + 1) 50 3 (.slice aoO nu capO) nu (runs x.pl)) := op_base o5 Z3.out
    have SE : Hid (Sees (w5.alloc (.cells #[.int .u8 2, .int .u32 (t : Int), .int .u8 (r : Int), .slice aoO nu capO, .int .i64 p] 27)) (.slice (some ⟨w5.heap.size, 0, none⟩) 1 1) 5 1 [.int .u8 2, .int .u32 (t : Int), .int .u8 (r : Int), .slice aoO nu capO, .int .i64 p]) := sees_new w5 [.int .u8 2, .int .u32 (t : Int), .int .u8 (r : Int), .slice aoO nu capO, .int .i64 p] 5 1 rfl (by omega) 27 (0, 0)
    have BX : Hid (Below w5.heap.size w5 (w5.alloc (.cells #[.int .u8 2, .int .u32 (t : Int), .int .u8 (r : Int), .slice aoO nu capO, .int .i64 p] 27))) := (Below.refl _ _).alloc (Nat.le_refl _) _
    have OA := Lib.hid (own_stays LO.out BX.out)
    have SA := Lib.hid (S5.out.keeps BX.out)
    have FO : ∀ z ∈ [Value.int .u8 2, .int .u32 (t : Int), .int .u8 (r : Int), .slice aoO nu capO, .int .i64 p], z.oneCell' = true := by rw [HF2.out]; exact five_one x _ ⟨_, _, _, rfl⟩
    have FO2 := Lib.hid FO
    have bz : N + 1 ≤ (w5.alloc (.cells #[.int .u8 2, .int .u32 (t : Int), .int .u8 (r : Int), .slice aoO nu capO, .int .i64 p] 27)).heap.size := Nat.le_trans Z5.out BX.out.size
    clear o5 b5 lo lh FO O3 B3 S3 L5 TW
    go_wp2_with (at_builtin; refine wpList_append_sees rfl (.tmp 32) (.tmp 35) 30 27 rfl Try.underlying30 op_info rfl (by decide) (N + 1) _ m cs rfl OA.out _ 1 [.int .u8 2, .int .u32 (t : Int), .int .u8 (r : Int), .slice aoO nu capO, .int .i64 p] rfl SE.out FO2.out ?k1 ?k2 ?k3 ?_)
    case k1 => omega
    case k2 => omega
    case k3 => exact bz
    rintro v6 w6 o6 g6 b6
    have L6 : Hid (OwnL w6 (N + 1) v6 (pickM l (l.take (j + 1)))) := by
      have lo2 := LO.out
      have o7 := o6
      rw [HF2.out] at o7
      have po := own_stays PO.out BX.out
      have gx := g6
      unfold Hid
      rw [FT.out]
      rw [HNU.out] at po o7
      rw [hm.out] at lo2 gx
      refine OwnL.snoc (W := w5) (W8 := w5.alloc (.cells #[.int .u8 2, .int .u32 (t : Int), .int .u8 (r : Int), .slice aoO nu capO, .int .i64 p] 27)) (m := m + 1) lo2 LH.out BX.out ?_ gx o7 (by rw [← hm.out])
      rw [HNU.out]
      exact po
    have M6 : Hid (m + 1 = (pickM l (l.take (j + 1))).length) := by unfold Hid; rw [FT.out, List.length_append, List.length_singleton, ← hm.out]
    have S6 : Hid (Ahead l (j + 1) N n w6) := by
      obtain ⟨S, s1, s2⟩ := SA.out
      exact ⟨S, by
        obtain ⟨D, d1, d2⟩ := s1
        obtain ⟨es, clock, hb, d3⟩ := d1
        refine ⟨D, ⟨es, clock, (b6.block N (Nat.lt_succ_self _)).trans hb, d3⟩, d2⟩, s2⟩
    have B6 : Hid (Below w.heap.size w w6) := (bt B5.out BX.out).trans (b6.mono (Nat.le_succ_of_le HNW.out))
    have Z6 : Hid (N < w6.heap.size) := Nat.lt_of_lt_of_le bz b6.size
    obtain ⟨va, vc, rfl⟩ : ∃ ao cap, v6 = .slice ao (m + 1) cap := Sees.shape (Sees.own o6)
    clear o6 g6 b6 OA SE LO LH PO B5 bz SA S5 Z5 BX FO2 HFV HF2 hm
    go_wp2
    go_roundw
    case rel => exact ⟨j + 1, m + 1, by omega, by omega, by go_num, ⟨va, vc, rfl⟩, M6, L6, S6, Z6, B6⟩
    case measure => simp [intOf]; omega
end Go.Proofs.Ytpgdnenkjommfaa.Marks

/- octavo/marks: what each answers. Conditions: the slices' cells are operations. -/


/- octavolaw11.one, put, alive: what each answers. Conditions: the slices' cells are operations. -/
namespace Go.Proofs.Ytpgdnenkjommfaa.Bags
open Go.RowKit Go.WideShapes Stamp Go.Proofs.Ytpgdnenkjommfaa.Place Ops Codes
attribute [local go_sem ↓] Go.wp_at_zero Go.wp_at_succ
attribute [local go_sem] yielded_undef

/-- A mark's operation. -/
def oneO (t r : Nat) (h : t < 4294967296 ∧ r < 256) : Opn := ⟨2, t, r, [⟨t, r, 1, h.1, h.2, by decide⟩], 0, by decide, h.1, h.2, by decide⟩
def o30 : Opn := oneO 3 0 (by decide)
def o11 : Opn := oneO 1 1 (by decide)
theorem seq_lit {w : World} {cs : List Value} {l : List Opn} (n : Nat) (hn : n = l.length) (hl : n ≤ 1000) (h : opE.rows w cs l) : OpL (w.alloc (.cells cs.toArray 27)) (.slice (some ⟨w.heap.size, 0, none⟩) n n) l := by
  subst hn
  refine ⟨cs, sees_new w cs 5 l.length (Enc.rows_len h) (by omega) 27 (0, 0), Enc.rows_keep ((Below.refl _ _).alloc (Nat.le_refl _) _) h⟩

theorem rows_one {w : World} {g3 : Nat} (h3 : Runs w (.slice (some ⟨g3, 0, none⟩) 1 1) o30.pl) :
    opE.rows w [.int .u8 2, .int .u32 3, .int .u8 0, .slice (some ⟨g3, 0, none⟩) 1 1, .int .i64 0] [o30] := ⟨[.int .u8 2, .int .u32 3, .int .u8 0, .slice (some ⟨g3, 0, none⟩) 1 1, .int .i64 0], [], rfl, ⟨_, rfl, h3⟩, rfl⟩
end Go.Proofs.Ytpgdnenkjommfaa.Bags
