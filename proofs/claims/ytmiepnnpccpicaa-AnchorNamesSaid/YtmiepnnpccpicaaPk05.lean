/- What is seen of a section, in plain words. Conditions: none. Places that are kept, in plain words: what the calls of anchor answer, and where an anchor is found. Conditions: none. octavoref13.Home, Sections, Where, Begin: what each answers. Conditions: live marks that may be, in order; a place that may be, or the beginning. octavoref13.Where, Begin, All, Of, Ahead, Span: what each answers. Conditions: the slices' cells are operations, runs. octavoref13.Begin, All, Of, Ahead, Span: what each answers. Conditions: the slices' cells are operations, runs. Elements in cells. Conditions: none. octavoref13.Ahead, Span: what each answers. Conditions: the slice's cells are operations. octavoref15.Of, Elements, Before, Offset, At: what each answers. Conditions: the slices' cells are operations, runs. Elements of the call's own, their places too; what stays of them where they are written over. Condi -/
import Derived.Test.YtmiepnnpccpicaaChecked
import Derived.WalkKit
import Derived.WalkSpells
import Derived.WalkLawsBesides
import Derived.Laws.BytesArg
import Derived.Lib.Hide
import Derived.Deep.LoopGhost
import Derived.Laws.AppendOwnNone
import Derived.Laws.OwnMore
import Derived.WideShapes
import Derived.Maps.AppendAt
import Derived.RegionTactic
import Derived.Deep.RegionHeld3
import Derived.Deep.DrawnRows
import Derived.Deep.QuietTactic
import Derived.BigQuiet
import Derived.IntWalk
import Derived.Deep.DeepCutAuto
import Derived.ScopeJumps
import Derived.Test.YtmiepnnpccpicaaProg
import Derived.LoopTactic
import Derived.Laws.EntriesVeiled
import Derived.RowKit
import Derived.Lib.DecodeN
import Derived.Lib.RuneBytes
import Derived.Shelf.Abstract
import Derived.Shelf.SlSortCmp.InsertionK
import Derived.Test.YtmiepnnpccpicaaRw
import Derived.Test.YtmiepnnpccpicaaPk04
import Derived.Test.YtmiepnnpccpicaaPk03
import Derived.Test.YtmiepnnpccpicaaPk02
import Derived.Test.YtmiepnnpccpicaaPk01

namespace Go.Proofs.Ytmiepnnpccpicaa.Views
open Ops Stamp Bags Marks Homes Covers Go.Proofs.Ytmiepnnpccpicaa.Place
/-- Does a delete among some take a stamp away? -/
def goneM (c : List Opn) (a : Id) : Bool := c.any (fun o => decide (o.k = 3) && decide (tgt o = a))
def seenStep (C out : List Opn) (x : Opn) : List Opn := if x.k = 1 ∧ goneM C (idO x) = false then insM out x else out
/-- Of some operations the inserts that none of C takes away, in the order of their places. -/
def seenF (C l : List Opn) : List Opn := l.foldl (seenStep C) []
theorem seenF_snoc (C l : List Opn) (x : Opn) : seenF C (l ++ [x]) = seenStep C (seenF C l) x := by unfold seenF; rw [List.foldl_append]; rfl
theorem seenF_le (C : List Opn) : ∀ l : List Opn, (seenF C l).length ≤ l.length := by
  intro l
  induction l using Clocks.list_snoc_ind with
  | h0 => simp [seenF]
  | h1 l x ih =>
    rw [seenF_snoc, List.length_append]
    unfold seenStep
    split
    · rw [insM_len]; simp; omega
    · simp; omega
theorem mem_seenF {C l : List Opn} {y : Opn} : y ∈ seenF C l ↔ y ∈ l ∧ y.k = 1 ∧ goneM C (idO y) = false := by
  induction l using Clocks.list_snoc_ind with
  | h0 => simp [seenF]
  | h1 l x ih =>
    rw [seenF_snoc, List.mem_append, List.mem_singleton]
    unfold seenStep
    split
    · rename_i h
      rw [mem_insM, ih]
      constructor
      · rintro (⟨h1, h2⟩ | rfl)
        · exact ⟨.inl h1, h2⟩
        · exact ⟨.inr rfl, h⟩
      · rintro ⟨h1 | rfl, h2⟩
        · exact .inl ⟨h1, h2⟩
        · exact .inr rfl
    · rename_i h
      rw [ih]
      constructor
      · rintro ⟨h1, h2⟩; exact ⟨.inl h1, h2⟩
      · rintro ⟨h1 | rfl, h2⟩
        · exact ⟨h1, h2⟩
        · exact absurd h2 h
/-- An insert's place ends with its own stamp. -/
theorem ins_tgt {o : Opn} (h : mayO o = true) (hk : o.k = 1) : tgt o = idO o := by
  have h3 := (mayO_parts h).2.2
  have hc := tgt_cells h
  unfold kindB kindF at h3
  rw [hk] at h3
  simp only [if_true, Bool.and_eq_true, decide_eq_true_eq, Prod.mk.injEq] at h3
  refine Id.ext' ?_ ?_
  · show (tgt o).t = o.t; omega
  · show (tgt o).r = o.r; omega
theorem ins_ne {a b : Opn} (ha : mayO a = true) (hb : mayO b = true) (ka : a.k = 1) (kb : b.k = 1) (h : idO a ≠ idO b) : pre a b ∨ pre b a := by
  rw [pre_iff ha hb, pre_iff hb ha, hold_neg (all a.pl) (all b.pl)]
  have h0 : Go.Proofs.Ytmiepnnpccpicaa.Place.hold (all a.pl) (all b.pl) ≠ 0 := fun e => by
    have ma := (mayB_iff _).1 (mayO_parts ha).2.1
    have mb := (mayB_iff _).1 (mayO_parts hb).2.1
    have e2 := (hold_same ma.2.2.1 mb.2.2.1).1 e
    apply h
    rw [← ins_tgt ha ka, ← ins_tgt hb kb]
    unfold tgt
    simp only [e2]
  have := hold_val (all a.pl) (all b.pl)
  omega
theorem put_sorted {x : Opn} (hx : mayO x = true) (kx : x.k = 1) : ∀ {out : List Opn}, out.Pairwise pre → (∀ y ∈ out, mayO y = true ∧ y.k = 1) → (∀ y ∈ out, idO y ≠ idO x) → (insM out x).Pairwise pre
  | [], _, _, _ => by rw [insM_nil]; exact List.pairwise_singleton _ _
  | y :: out, hs, hm, hne => by
    have hs' := List.pairwise_cons.1 hs
    have hy := hm y (by simp)
    rw [insM_cons]
    by_cases h : Go.Proofs.Ytmiepnnpccpicaa.Marks.ahead y x = true
    · rw [if_pos h]
      refine List.Pairwise.cons (fun z hz => ?_) (put_sorted hx kx hs'.2 (fun z hz => hm z (by simp [hz])) (fun z hz => hne z (by simp [hz])))
      rcases mem_insM.1 hz with hz | rfl
      · exact hs'.1 z hz
      · exact ahead_iff.1 h
    · rw [if_neg h]
      have hxy : pre x y := by
        rcases ins_ne hy.1 hx hy.2 kx (hne y (by simp)) with h1 | h1
        · exact absurd (ahead_iff.2 h1) h
        · exact h1
      refine List.Pairwise.cons (fun z hz => ?_) hs
      rcases List.mem_cons.1 hz with rfl | hz
      · exact hxy
      · exact pre_trans hx hy.1 (hm z (by simp [hz])).1 hxy (hs'.1 z hz)
theorem seen_sorted {C : List Opn} : ∀ {l : List Opn}, (∀ o ∈ l, mayO o = true) → l.Pairwise lessO → (seenF C l).Pairwise pre := by
  intro l
  induction l using Clocks.list_snoc_ind with
  | h0 => intro _ _; exact .nil
  | h1 l x ih =>
    intro hm hp
    have hp' := List.pairwise_append.1 hp
    have ih' := ih (fun o ho => hm o (by simp [ho])) hp'.1
    rw [seenF_snoc]
    unfold seenStep
    split
    · rename_i h
      refine put_sorted (hm x (by simp)) h.1 ih' (fun y hy => ?_) (fun y hy => ?_)
      · have := mem_seenF.1 hy; exact ⟨hm y (by simp [this.1]), this.2.1⟩
      · have := mem_seenF.1 hy; exact lessO_ne (hp'.2.2 y this.1 x (by simp))
    · exact ih'
/-- What is seen of content that counts. -/
def seenM (c : List Opn) : List Opn := seenF c c
/-- A list in order, of the inserts that are not gone, is what is seen. -/
theorem seen_ext {c m : List Opn} (hm : ∀ o ∈ c, mayO o = true) (hp : c.Pairwise lessO) (hs : m.Pairwise pre) (h : ∀ y, y ∈ m ↔ y ∈ c ∧ y.k = 1 ∧ goneM c (idO y) = false) : seenM c = m :=
  sorted_ext (fun x hx => hm x (mem_seenF.1 hx).1) (fun x hx => hm x ((h x).1 hx).1) (seen_sorted hm hp) hs (fun y => mem_seenF.trans (h y).symm)
def elmL (l : List Opn) (s : Id) : List Opn := seenM (countsL l s)
/-- How many stand ahead of a place. -/
def befM (c : List Opn) (p : List Run) : Nat := (c.filter (fun o => decide (Go.Proofs.Ytmiepnnpccpicaa.Place.hold (all o.pl) (all p) < 0))).length
def offE (l : List Opn) (s : Id) (p : List Run) : Int := if spanE l s = 0 then (if anyB p = true then 0 else 8) else spanE l s
def offN (l : List Opn) (s : Id) (p : List Run) : Nat := if spanE l s = 0 ∧ anyB p = true then befM (elmL l s) p else 0
def atE (l : List Opn) (s : Id) (k : Int) : Int := if spanE l s = 0 then (if 0 ≤ k ∧ k < ((elmL l s).length : Int) then 0 else 2) else spanE l s
def atL (l : List Opn) (s : Id) (k : Int) : Opn := if spanE l s = 0 ∧ 0 ≤ k ∧ k < ((elmL l s).length : Int) then (elmL l s).getD k.toNat Codes.zop else Codes.zop
theorem elm_no {l : List Opn} {s : Id} (h : spanE l s ≠ 0) : elmL l s = [] := by
  unfold elmL countsL
  rw [if_neg h]
  rfl
theorem elm_yes {l : List Opn} {s : Id} (h : spanE l s = 0) : elmL l s = seenM (countL l (livesM l l) s) := by
  unfold elmL countsL
  rw [if_pos h]
theorem mem_elm {l : List Opn} {s : Id} {y : Opn} (h : y ∈ elmL l s) : y ∈ countsL l s ∧ y.k = 1 := by
  have := mem_seenF.1 h
  exact ⟨this.1, this.2.1⟩
theorem mem_elm_l {l : List Opn} {s : Id} {y : Opn} (h : y ∈ elmL l s) : spanE l s = 0 ∧ Bag l ∧ y ∈ l ∧ homeM (livesM l l) y.pl = s ∧ mayO y = true ∧ y.k = 1 := by
  by_cases h0 : spanE l s = 0
  · have h1 := mem_elm h
    unfold countsL at h1
    rw [if_pos h0] at h1
    have hb := (spanE_zero.1 h0).1
    have hm := mem_countL.1 h1.1
    exact ⟨h0, hb, hm.1.1, hm.1.2.2, hb.2.1 y hm.1.1, h1.2⟩
  · rw [elm_no h0] at h
    simp at h
theorem counts_pw {l : List Opn} (hb : Bag l) (s : Id) : (∀ o ∈ countL l (livesM l l) s, mayO o = true) ∧ (countL l (livesM l l) s).Pairwise lessO :=
  ⟨fun o ho => hb.2.1 o (mem_countL.1 ho).1.1, hb.2.2.sublist (countL_sub _ _ _)⟩
theorem elm_sorted (l : List Opn) (s : Id) : (elmL l s).Pairwise pre := by
  by_cases h0 : spanE l s = 0
  · rw [elm_yes h0]
    have := counts_pw (spanE_zero.1 h0).1 s
    exact seen_sorted this.1 this.2
  · rw [elm_no h0]; exact .nil
theorem elm_len (l : List Opn) (s : Id) : (elmL l s).length ≤ l.length := by
  by_cases h0 : spanE l s = 0
  · rw [elm_yes h0]
    exact Nat.le_trans (seenF_le _ _) (countL_sub _ _ _).length_le
  · rw [elm_no h0]; simp
end Go.Proofs.Ytmiepnnpccpicaa.Views

namespace Go.Proofs.Ytmiepnnpccpicaa.Anchors
open Ops Stamp Bags Marks Homes Covers Views Go.Proofs.Ytmiepnnpccpicaa.Place
def makeP (l : List Opn) (s : Id) (k : Int) : List Run := (atL l s k).pl
def findE (l : List Opn) (p : List Run) : Int := if bagB l = true ∧ mayB p = true then 0 else 8
def findS (l : List Opn) (p : List Run) : Id := if bagB l = true ∧ mayB p = true then homeM (livesM l l) p else zid
def findN (l : List Opn) (p : List Run) : Nat := if bagB l = true ∧ mayB p = true then befM (elmL l (homeM (livesM l l) p)) p else 0
theorem make_no {l : List Opn} {s : Id} {k : Int} (h : atE l s k ≠ 0) : makeP l s k = [] := by
  unfold makeP atL
  rw [if_neg]
  · rfl
  · rintro ⟨h1, h2⟩
    exact h (by unfold atE; rw [if_pos h1, if_pos h2])
end Go.Proofs.Ytmiepnnpccpicaa.Anchors

namespace Go.Proofs.Ytmiepnnpccpicaa.Homes
open Go.RowKit Go.WideShapes Stamp Go.Proofs.Ytmiepnnpccpicaa.Place Ops Codes Bags Marks
attribute [local go_sem ↓] Go.wp_at_zero Go.wp_at_succ
attribute [local go_sem] yielded_undef
/-- Two cells of a block stored. -/
def put2 (X : World) (g : Nat) (d0 d1 : Value) : World := (X.setCell ⟨g, 0, none⟩ d0).setCell ⟨g, 1, none⟩ d1
theorem put2_same {X : World} {g : Nat} {c0 c1 : Value} (d0 d1 : Value) {e : TypeId} (h : X.heap[g]? = some (.cells #[c0, c1] e)) : (put2 X g d0 d1).heap[g]? = some (.cells #[d0, d1] e) := set_blk h
theorem put2_other {X : World} {g k : Nat} (d0 d1 : Value) {o : Obj} (hk : k ≠ g) (h : X.heap[k]? = some o) : (put2 X g d0 d1).heap[k]? = some o := by
  unfold put2
  rw [heap_setCell_other _ _ _ _ hk, heap_setCell_other _ _ _ _ hk]
  exact h
theorem put2_below {B g : Nat} {W X : World} (d0 d1 : Value) (hg : B ≤ g) (h : Below B W X) : Below B W (put2 X g d0 d1) := set_below hg h
theorem frz2 {X : World} {g : Nat} {cs : Array Value} {e : TypeId} (h : X.heap[g]? = some (.cells cs e)) (o : Nat) : X.frozen? ⟨g, o, none⟩ = false := by simp [World.frozen?, h]
end Go.Proofs.Ytmiepnnpccpicaa.Homes

namespace Go.Proofs.Ytmiepnnpccpicaa.Homes
open Go.RowKit Go.WideShapes Stamp Go.Proofs.Ytmiepnnpccpicaa.Place Ops Codes Bags Marks
attribute [local go_sem ↓] Go.wp_at_zero Go.wp_at_succ
attribute [local go_sem] yielded_undef
theorem where_is {live : List Opn} {s : Id} {j : Nat} (hj : j < (sectsM live).length) (h1 : ∀ i (h : i < (sectsM live).length), i < j → (sectsM live)[i]'h ≠ s) (h2 : (sectsM live)[j]'hj = s) : whereM live s = j := by
  have : whereN live s = j := by
    unfold whereN
    rw [List.findIdx_eq hj]
    exact ⟨by simpa using h2, fun i hi => by simpa using h1 i (by omega) hi⟩
  unfold whereM
  rw [this, if_pos (by rw [← sectsM_len]; exact hj)]
theorem where_no {live : List Opn} {s : Id} (h1 : ∀ i (h : i < (sectsM live).length), (sectsM live)[i]'h ≠ s) : whereM live s = -1 := by
  unfold whereM
  rw [if_neg]
  intro h
  have h' : whereN live s < (sectsM live).length := by rw [sectsM_len]; exact h
  have := List.findIdx_getElem (p := fun x => decide (x = s)) (xs := sectsM live) (w := h')
  exact h1 _ h' (of_decide_eq_true this)
theorem getD_get {l : List Id} {j : Nat} (h : j < l.length) : l.getD j zid = l[j]'h := by rw [List.getD_eq_getElem?_getD, List.getElem?_eq_getElem h]; rfl
end Go.Proofs.Ytmiepnnpccpicaa.Homes

namespace Go.Proofs.Ytmiepnnpccpicaa.Homes
open Go.RowKit Go.WideShapes Stamp Go.Proofs.Ytmiepnnpccpicaa.Place Ops Codes Bags Marks
attribute [local go_sem ↓] Go.wp_at_zero Go.wp_at_succ
attribute [local go_sem] yielded_undef
theorem begin_low {live : List Opn} {a : Int} (h : a < 1) : beginM live a = [] := by unfold beginM; rw [if_neg (by omega)]
theorem begin_high {live : List Opn} {a : Int} (h : (live.length : Int) < a) : beginM live a = [] := by unfold beginM; rw [if_neg (by omega)]
/-- A stamp, and an error. -/
def OneI (a : Id) (x : Int) (w : World) (e : Ending) (w' : World) : Prop := e = .returned (.tuple #[.agg #[.int .u32 (a.t : Int), .int .u8 (a.r : Int)], .int .i64 x]) ∧ Below w.heap.size w w'
theorem lives_fits {l : List Opn} (h : Bag l) : (livesM l l).length ≤ 1024 ∧ ∀ o ∈ livesM l l, mayO o = true := ⟨Nat.le_trans (livesM_le l l) h.1, lives_may h.2.1⟩
end Go.Proofs.Ytmiepnnpccpicaa.Homes

namespace Go.Proofs.Ytmiepnnpccpicaa.Views
open Go.RowKit Go.WideShapes Stamp Go.Proofs.Ytmiepnnpccpicaa.Place Ops Codes Bags Marks Homes Covers
attribute [local go_sem ↓] Go.wp_at_zero Go.wp_at_succ
attribute [local go_sem] yielded_undef
/-- An insert as an element. -/
def elv (o : Opn) (v : Value) : Value := .agg #[.int .u32 (o.t : Int), .int .u8 (o.r : Int), v, .int .i64 o.p]
def elmE : Enc Opn where
  sz := 4
  pos := by decide
  inn w cs o := ∃ v, cs = [.int .u32 (o.t : Int), .int .u8 (o.r : Int), v, .int .i64 o.p] ∧ Runs w v o.pl
  len := by rintro w cs o ⟨v, rfl, _⟩; rfl
  one := by
    rintro w cs o ⟨v, rfl, h⟩ u hu
    obtain ⟨ao, cap, rfl⟩ := h.shape
    simp only [List.mem_cons, List.not_mem_nil, or_false] at hu
    rcases hu with rfl | rfl | rfl | rfl <;> rfl
  keep := by rintro w w' cs o hb ⟨v, rfl, h⟩; exact ⟨v, rfl, h.keeps hb⟩
abbrev ElL (w : World) (v : Value) (l : List Opn) : Prop := Seq elmE w v l
theorem el_at {w : World} {ao : Option Addr} {m cap : Nat} {l : List Opn} (h : ElL w (.slice ao m cap) l) (k : Nat) (hk : k < l.length) :
    ∃ b off v, ao = some ⟨b, off, none⟩ ∧ b < w.heap.size ∧ Runs w v (l[k]'hk).pl ∧ w.cell? ⟨b, off + k * 4, none⟩ = some (.int .u32 ((l[k]'hk).t : Int)) ∧ w.cell? ⟨b, off + k * 4 + 1, none⟩ = some (.int .u8 ((l[k]'hk).r : Int)) ∧
      w.cell? ⟨b, off + k * 4 + 2, none⟩ = some v ∧ w.cell? ⟨b, off + k * 4 + 3, none⟩ = some (.int .i64 (l[k]'hk).p) := by
  obtain ⟨b, off, c, h1, h2, ⟨v, rfl, h3⟩, h4⟩ := h.at k hk
  exact ⟨b, off, v, h1, h2, h3, h4 0 (by decide), h4 1 (by decide), h4 2 (by decide), h4 3 (by decide)⟩
theorem elm_info : (Try.prog.info? 38).map (fun i => (i.zero, i.size, i.bytes)) = some (some (.agg #[.int .u32 0, .int .u8 0, .slice none 0 0, .int .i64 0]), 4, 40) := by kernel_rfl
theorem cells4 {X : World} {g : Nat} {c0 c1 c2 c3 : Value} {e : TypeId} (h : X.heap[g]? = some (.cells #[c0, c1, c2, c3] e)) :
    X.cell? ⟨g, 0, none⟩ = some c0 ∧ X.cell? ⟨g, 1, none⟩ = some c1 ∧ X.cell? ⟨g, 2, none⟩ = some c2 ∧ X.cell? ⟨g, 3, none⟩ = some c3 :=
  ⟨cell_of_row _ g 0 #[c0, c1, c2, c3] e _ h, cell_of_row _ g 1 #[c0, c1, c2, c3] e _ h, cell_of_row _ g 2 #[c0, c1, c2, c3] e _ h, cell_of_row _ g 3 #[c0, c1, c2, c3] e _ h⟩
end Go.Proofs.Ytmiepnnpccpicaa.Views

namespace Go.Proofs.Ytmiepnnpccpicaa.Homes
open Go.RowKit Go.WideShapes Stamp Go.Proofs.Ytmiepnnpccpicaa.Place Ops Codes Bags Marks
attribute [local go_sem ↓] Go.wp_at_zero Go.wp_at_succ
attribute [local go_sem] yielded_undef
theorem where_lo (live : List Opn) (s : Id) : -1 ≤ whereM live s ∧ whereM live s ≤ live.length := by
  unfold whereM
  split <;> omega
end Go.Proofs.Ytmiepnnpccpicaa.Homes

namespace Go.Proofs.Ytmiepnnpccpicaa.Views
open Go.RowKit Go.WideShapes Stamp Go.Proofs.Ytmiepnnpccpicaa.Place Ops Codes Bags Marks Homes Covers
attribute [local go_sem ↓] Go.wp_at_zero Go.wp_at_succ
attribute [local go_sem] yielded_undef
theorem elm_fits (l : List Opn) (s : Id) : (elmL l s).length ≤ 1024 ∧ (∀ o ∈ elmL l s, mayO o = true) := by
  refine ⟨?_, fun o ho => (mem_elm_l ho).2.2.2.2.1⟩
  by_cases h0 : spanE l s = 0
  · exact Nat.le_trans (elm_len l s) (spanE_zero.1 h0).1.1
  · rw [elm_no h0]; simp
end Go.Proofs.Ytmiepnnpccpicaa.Views

namespace Go.Proofs.Ytmiepnnpccpicaa.Views
open Go.RowKit Go.WideShapes Stamp Go.Proofs.Ytmiepnnpccpicaa.Place Ops Codes Bags Marks Homes Covers
attribute [local go_sem ↓] Go.wp_at_zero Go.wp_at_succ
attribute [local go_sem] yielded_undef
/-- Elements in cells, each place of the call's own. -/
def HoldE (w : World) (base : Nat) : List Value → List Opn → Prop
  | cs, [] => cs = []
  | cs, o :: l => ∃ v d, cs = [.int .u32 (o.t : Int), .int .u8 (o.r : Int), v, .int .i64 o.p] ++ d ∧ w.ownsRow base 42 3 v o.pl.length (runs o.pl) ∧ HoldE w base d l
theorem HoldE.rows {w : World} {base : Nat} : ∀ {cs : List Value} {l : List Opn}, HoldE w base cs l → elmE.rows w cs l
  | _, [], h => h
  | _, _ :: _, ⟨v, d, h1, h2, h3⟩ => ⟨_, d, h1, ⟨v, rfl, Runs.own h2⟩, HoldE.rows h3⟩
theorem HoldE.keeps {w w' : World} {base : Nat} (hb : Below w.heap.size w w') : ∀ {cs : List Value} {l : List Opn}, HoldE w base cs l → HoldE w' base cs l
  | _, [], h => h
  | _, _ :: _, ⟨v, d, h1, h2, h3⟩ => ⟨v, d, h1, own_stays h2 hb, HoldE.keeps hb h3⟩
theorem HoldE.append {w : World} {base : Nat} : ∀ {cs ds : List Value} {l m : List Opn}, HoldE w base cs l → HoldE w base ds m → HoldE w base (cs ++ ds) (l ++ m)
  | cs, _, [], _, h, h2 => by rw [show cs = [] from h]; exact h2
  | _, ds, _ :: _, _, ⟨v, d, h1, h3, h4⟩, h2 => ⟨v, d ++ ds, by rw [h1, List.append_assoc], h3, HoldE.append h4 h2⟩
theorem HoldE.base {w : World} {b b' : Nat} (hb : b' ≤ b) : ∀ {cs : List Value} {l : List Opn}, HoldE w b cs l → HoldE w b' cs l
  | _, [], h => h
  | _, _ :: _, ⟨v, d, h1, h2, h3⟩ => ⟨v, d, h1, op_base h2 hb, HoldE.base hb h3⟩
theorem HoldE.grown {w w' : World} {base sz n B : Nat} {v : Value} {rs : List Value} (hg : w.grownBy w' v.ownBlock) (hv : w.ownsRow B 38 sz v n rs) : ∀ {cs : List Value} {l : List Opn}, HoldE w base cs l → HoldE w' base cs l
  | _, [], h => h
  | _, _ :: _, ⟨u, d, h1, h2, h3⟩ => by
    refine ⟨u, d, h1, ?_, HoldE.grown hg hv h3⟩
    refine ⟨h2.1, h2.2.imp id fun ⟨g, cap, cur, e1, e2, e3, e4⟩ => ⟨g, cap, cur, e1, e2, ?_, e4⟩⟩
    exact blk_grown hg (own_ne hv e3 (by intro c h; injection h with h1 h2 h3; exact absurd h2 (by decide))) e3
/-- A list of elements of the call's own, its places too. -/
def OwnE (w : World) (base : Nat) (v : Value) (l : List Opn) : Prop := ∃ cs, w.ownsRow base 38 4 v l.length cs ∧ HoldE w base cs l
theorem OwnE.el {w : World} {base : Nat} {v : Value} {l : List Opn} (h : OwnE w base v l) : ElL w v l := by
  obtain ⟨cs, h1, h2⟩ := h
  exact ⟨cs, Sees.own h1, h2.rows⟩
theorem OwnE.keeps {w w' : World} {base : Nat} {v : Value} {l : List Opn} (h : OwnE w base v l) (hb : Below w.heap.size w w') : OwnE w' base v l := by
  obtain ⟨cs, h1, h2⟩ := h
  exact ⟨cs, own_stays h1 hb, h2.keeps hb⟩
theorem OwnE.nil (w : World) (base : Nat) : OwnE w base (.slice none 0 0) [] := ⟨[], World.ownsRow_nil _ _ _ _, rfl⟩
theorem OwnE.base {w : World} {b b' : Nat} {v : Value} {l : List Opn} (h : OwnE w b v l) (hb : b' ≤ b) : OwnE w b' v l := by
  obtain ⟨cs, h1, h2⟩ := h
  exact ⟨cs, op_base h1 hb, h2.base hb⟩
/-- Elements of the call's own, and an error. -/
def DoneOE (L : List Opn) (x : Int) (w : World) (e : Ending) (w' : World) : Prop := ∃ v, e = .returned (.tuple #[v, .int .i64 x]) ∧ OwnE w' w.heap.size v L ∧ Below w.heap.size w w'
/-- An element of the call's own, and an error. -/
def OneE (o : Opn) (x : Int) (w : World) (e : Ending) (w' : World) : Prop := ∃ vt, e = .returned (.tuple #[elv o vt, .int .i64 x]) ∧ w'.ownsRow w.heap.size 42 3 vt o.pl.length (runs o.pl) ∧ Below w.heap.size w w'
end Go.Proofs.Ytmiepnnpccpicaa.Views

namespace Go.Proofs.Ytmiepnnpccpicaa.Anchors
open Go.RowKit Go.WideShapes Stamp Go.Proofs.Ytmiepnnpccpicaa.Place Ops Codes Bags Marks Homes Covers Views
/-- A place of the call's own, and an error. -/
def OneP (L : List Run) (x : Int) (w : World) (e : Ending) (w' : World) : Prop := ∃ v, e = .returned (.tuple #[v, .int .i64 x]) ∧ w'.ownsRow w.heap.size 42 3 v L.length (runs L) ∧ Below w.heap.size w w'
/-- A stamp, a number and an error. -/
def OneF (a : Id) (n : Nat) (x : Int) (w : World) (e : Ending) (w' : World) : Prop := e = .returned (.tuple #[.agg #[.int .u32 (a.t : Int), .int .u8 (a.r : Int)], .int .i64 (n : Int), .int .i64 x]) ∧ Below w.heap.size w w'
end Go.Proofs.Ytmiepnnpccpicaa.Anchors

namespace Go.Proofs.Ytmiepnnpccpicaa.Homes
open Go.RowKit Go.WideShapes Stamp Go.Proofs.Ytmiepnnpccpicaa.Place Ops Codes Bags Marks
/-- Two rows of the call's own (they may lie in one block), and an error. -/
def TwoR (A B : List Run) (x : Int) (w : World) (e : Ending) (w' : World) : Prop := ∃ va vb, e = .returned (.tuple #[va, vb, .int .i64 x]) ∧ w'.ownsRow w.heap.size 42 3 va A.length (runs A) ∧ w'.ownsRow w.heap.size 42 3 vb B.length (runs B) ∧ Below w.heap.size w w'
end Go.Proofs.Ytmiepnnpccpicaa.Homes

namespace Go.Proofs.Ytmiepnnpccpicaa.Homes
open Go.RowKit Go.WideShapes Stamp Go.Proofs.Ytmiepnnpccpicaa.Place Ops Codes Bags Marks
attribute [local go_sem ↓] Go.wp_at_zero Go.wp_at_succ
attribute [local go_sem] yielded_undef
theorem sects_succ {live : List Opn} {j : Nat} (h : j < live.length) : (sectsM live).getD (j + 1) zid = idO (live[j]'h) := by
  unfold sectsM
  rw [List.getD_cons_succ, List.getD_eq_getElem?_getD, List.getElem?_map, List.getElem?_eq_getElem h]
  rfl
set_option maxRecDepth 100000 in
set_option maxHeartbeats 4000000 in
theorem hName_any {v : Value} {live : List Opn} {w : World} (hv : OpL w v live) (hl : live.length ≤ 1000000) (i : Nat) (hi : i ≤ live.length) :
    Calls Try.prog 22 #[v, .int .i64 (i : Int)] w fun e w' => e = .returned (.agg #[.int .u32 (((sectsM live).getD i zid).t : Int), .int .u8 (((sectsM live).getD i zid).r : Int)]) ∧ Below w.heap.size w w' := by
  obtain ⟨ao, cap, rfl⟩ := hv.shape
  by_cases h0 : i = 0
  · subst h0
    have e1 : (sectsM live).getD 0 zid = zid := rfl
    rw [e1]
    generalize live.length = n
    clear e1 hv hl hi
    go_enter Try.func22, Try.ntmps22
    go_wp2
    refine bodyPost_ret (v := .agg #[.int .u32 0, .int .u8 0]) (by simp [results, Try.results22, go_sem]) rfl ⟨rfl, ?_⟩
    exact (Below.refl _ _).alloc (Nat.le_refl _) _
  obtain ⟨j, rfl⟩ : ∃ j, i = j + 1 := ⟨i - 1, by omega⟩
  have hjl : j < live.length := by omega
  rw [sects_succ hjl]
  have B0 : Below w.heap.size w (w.alloc (.cells #[.int .u32 0, .int .u8 0] 30)) := (Below.refl _ _).alloc (Nat.le_refl _) _
  obtain ⟨bb, oo, y, e, hbb, hru, h0, h1, h2, h3, h4⟩ := opl_at (hv.keeps B0) j hjl
  subst e
  obtain ⟨x, hx⟩ : ∃ x, live[j]'hjl = x := ⟨_, rfl⟩
  rw [hx] at h1 h2 ⊢
  obtain ⟨k, t, r, l, p, hk, ht, hr, hp⟩ := x
  simp only [idO] at h1 h2 ⊢
  obtain ⟨bb', oo', y', e', hbb', _⟩ := opl_at hv j hjl
  cases e'
  obtain ⟨n, hn⟩ : ∃ n, live.length = n := ⟨_, rfl⟩
  rw [hn] at hl hjl hi ⊢
  have e1 : ((j + 1 : Nat) : Int) = (j : Int) + 1 := by omega
  have q0 : ¬ ((j : Int) + 1 = 0) := by omega
  have q1 : decide ((j : Int) + 1 = 0) = false := decide_eq_false q0
  have q2 : (j : Int) + 1 - 1 = (j : Int) := by omega
  have q3 : IntKind.i64.wrap (j : Int) = (j : Int) := IntWalk.i64_in _ (by omega)
  have q4 : (0 : Int) ≤ (j : Int) := by omega
  have q5 : (j : Int) < (n : Int) := by omega
  have hne : ¬ bb = w.heap.size := by omega
  rw [e1]
  clear hv h3 h4 hru hx hn B0 e1 hbb
  go_enter Try.func22, Try.ntmps22
  go_wp2
  refine bodyPost_ret (v := .agg #[.int .u32 (t : Int), .int .u8 (r : Int)]) (by simp [results, Try.results22, go_sem]) rfl ⟨rfl, ?_⟩
  exact (Below.refl _ _).alloc (Nat.le_refl _) _
theorem holdP_at {w : World} {base : Nat} : ∀ {cs : List Value} {l : List Opn}, HoldP w base cs l → ∀ k (h : k < l.length), ∃ y, cs[k * 5 + 3]? = some y ∧ w.ownsRow base 42 3 y (l[k]'h).pl.length (runs (l[k]'h).pl)
  | _, [], _, k, h => by simp at h
  | _, o :: l, ⟨v, d, h1, h2, h3⟩, 0, h => ⟨v, by rw [h1]; rfl, h2⟩
  | _, o :: l, ⟨v, d, h1, h2, h3⟩, k + 1, h => by
    obtain ⟨y, e1, e2⟩ := holdP_at h3 k (by simpa using h)
    refine ⟨y, ?_, by simpa using e2⟩
    rw [h1, List.getElem?_append_right (by simp only [List.length_cons, List.length_nil]; omega)]
    rw [show (k + 1) * 5 + 3 - [Value.int .u8 (o.k : Int), .int .u32 (o.t : Int), .int .u8 (o.r : Int), v, .int .i64 o.p].length = k * 5 + 3 by simp only [List.length_cons, List.length_nil]; omega]
    exact e1
theorem ownL_at {w : World} {base : Nat} {v : Value} {l : List Opn} (hv : OwnL w base v l) (k : Nat) (h : k < l.length) :
    ∃ g cap y, v = .slice (some ⟨g, 0, none⟩) l.length cap ∧ w.cell? ⟨g, k * 5 + 3, none⟩ = some y ∧ w.ownsRow base 42 3 y (l[k]'h).pl.length (runs (l[k]'h).pl) := by
  obtain ⟨cs, h1, h2⟩ := hv
  obtain ⟨y, e1, e2⟩ := holdP_at h2 k h
  rcases h1.2 with ⟨_, h0⟩ | ⟨g, cap, cur, rfl, _⟩
  · omega
  · exact ⟨g, cap, y, rfl, by rw [h1.cellAt (k * 5 + 3) (by omega), e1], e2⟩
theorem own_slice {w : World} {base n : Nat} {e : TypeId} {v : Value} {cs : List Value} (h : w.ownsRow base e 3 v n cs) : ∃ ao cap, v = .slice ao n cap := by
  rcases h.2 with ⟨hv, h0⟩ | ⟨g, c2, cur, hv, hb, _⟩
  · rw [h0]; exact ⟨_, _, hv⟩
  · exact ⟨_, _, hv⟩
set_option maxRecDepth 100000 in
set_option maxHeartbeats 4000000 in
theorem hBegin_any {v : Value} {live : List Opn} {base : Nat} {w : World} (hv : OwnL w base v live) (i : Nat) (hi2 : i ≤ 1000001) :
    Calls Try.prog 85 #[v, .int .i64 (i : Int)] w fun e w' => (∃ ao cap, e = .returned (.slice ao (beginM live i).length cap) ∧ w.ownsRow base 42 3 (.slice ao (beginM live i).length cap) (beginM live i).length (runs (beginM live i))) ∧ w' = w := by
  obtain ⟨ao, cap, rfl⟩ := hv.opl.shape
  by_cases h0 : i = 0
  · subst h0
    rw [begin_low (by omega)]
    obtain ⟨n, hn⟩ : ∃ n, live.length = n := ⟨_, rfl⟩
    rw [hn]
    clear hv hn hi2
    go_enter Try.func85, Try.ntmps85
    go_wp2
    go_ret
    exact ⟨⟨_, _, rfl, World.ownsRow_nil _ _ _ _⟩, rfl⟩
  have q1 : decide ((i : Int) = 0) = false := decide_eq_false (by omega)
  have q0 : ¬ ((i : Int) = 0) := by omega
  by_cases hi : live.length < i
  · rw [begin_high (by omega)]
    obtain ⟨n, hn⟩ : ∃ n, live.length = n := ⟨_, rfl⟩
    rw [hn] at hi ⊢
    have q2 : decide (n < i) = true := decide_eq_true hi
    have q3 : decide ((n : Int) < (i : Int)) = true := decide_eq_true (by omega)
    clear hv hn
    go_enter Try.func85, Try.ntmps85
    go_wp2
    go_ret
    exact ⟨⟨_, _, rfl, World.ownsRow_nil _ _ _ _⟩, rfl⟩
  obtain ⟨j, hj⟩ : ∃ j, j = i - 1 := ⟨_, rfl⟩
  have hjl : j < live.length := by omega
  have hbg := begin_succ hjl
  have q4 : (i : Int) - 1 = (j : Int) := by omega
  rw [show (j : Int) + 1 = (i : Int) by omega] at hbg
  obtain ⟨g, cap', y, e, h3, ho⟩ := ownL_at hv j hjl
  cases e
  rw [hbg]
  obtain ⟨R, hR⟩ : ∃ z, (live[j]'hjl).pl = z := ⟨_, rfl⟩
  rw [hR] at ho ⊢
  obtain ⟨n, hn⟩ : ∃ n, live.length = n := ⟨_, rfl⟩
  rw [hn] at hjl hi ⊢
  obtain ⟨yo, yc, rfl⟩ := own_slice ho
  have HO := Lib.hid ho
  have q2 : decide (n < i) = false := decide_eq_false hi
  have q3 : decide ((n : Int) < (i : Int)) = false := decide_eq_false (by omega)
  have q5 : IntKind.i64.wrap (j : Int) = (j : Int) := IntWalk.i64_in _ (by omega)
  have q6 : (0 : Int) ≤ (j : Int) := by omega
  have q7 : (j : Int) < (n : Int) := by omega
  obtain ⟨m, hm⟩ : ∃ m, R.length = m := ⟨_, rfl⟩
  rw [hm] at HO h3 ⊢
  clear hv hn ho hj hbg hR hm
  go_enter Try.func85, Try.ntmps85
  go_wp2
  go_ret
  exact ⟨⟨_, _, rfl, HO.out⟩, rfl⟩
/-- The number of a section, and whether it is one. -/
def NumI (x : Int) (e : Ending) : Prop := e = .returned (.tuple #[.int .i64 (if 0 ≤ x then x else 0), .bool (decide (0 ≤ x))])
set_option maxRecDepth 100000 in
set_option maxHeartbeats 8000000 in
theorem hNumber_any {v : Value} {live : List Opn} (s : Id) {w : World} (hv : OpL w v live) (hl : live.length ≤ 1000000) :
    Calls Try.prog 84 #[v, .agg #[.int .u32 (s.t : Int), .int .u8 (s.r : Int)]] w fun e w' => NumI (whereM live s) e ∧ Below w.heap.size w w' := by
  obtain ⟨ao, cap, rfl⟩ := hv.shape
  obtain ⟨wl, hwl⟩ : ∃ x, x = w.alloc (.cells #[.int .u32 (s.t : Int), .int .u8 (s.r : Int)] 30) := ⟨_, rfl⟩
  have B0 : Hid (Below w.heap.size w wl) := by rw [hwl]; exact (Below.refl _ _).alloc (Nat.le_refl _) _
  have P0 : Hid (Pair wl w.heap.size (.int .u32 (s.t : Int)) (.int .u8 (s.r : Int))) := by rw [hwl]; exact pair_new _ _ _ _
  have HW := Lib.hid hwl
  have NA : Hid (∀ (W : World) (i : Nat), Below w.heap.size w W → i ≤ live.length → Calls Try.prog 22 #[.slice ao live.length cap, .int .i64 (i : Int)] W fun e w' => e = .returned (.agg #[.int .u32 (((sectsM live).getD i zid).t : Int), .int .u8 (((sectsM live).getD i zid).r : Int)]) ∧ Below W.heap.size W w') := fun W i h hi => hName_any (hv.keeps h) hl i hi
  have HN : Hid (live.length + 1 = (sectsM live).length) := (sectsM_len live).symm
  have HY : Hid (∀ j (hj : j < (sectsM live).length), (∀ i (h : i < (sectsM live).length), i < j → (sectsM live)[i]'h ≠ s) → (sectsM live)[j]'hj = s → whereM live s = j) := fun j hj h1 h2 => where_is hj h1 h2
  have HZ : Hid ((∀ i (h : i < (sectsM live).length), (sectsM live)[i]'h ≠ s) → whereM live s = -1) := fun h => where_no h
  obtain ⟨q, hq⟩ : ∃ q, whereM live s = q := ⟨_, rfl⟩
  rw [hq] at HY HZ ⊢
  obtain ⟨L, hL⟩ : ∃ z, sectsM live = z := ⟨_, rfl⟩
  rw [hL] at NA HN HY HZ
  obtain ⟨n, hn⟩ : ∃ n, live.length = n := ⟨_, rfl⟩
  rw [hn] at NA HN hl ⊢
  obtain ⟨N, hNN⟩ : ∃ N, n + 1 = N := ⟨_, rfl⟩
  have hNm : N ≤ 1000001 := by omega
  have e0 : (n : Int) + 1 = (N : Int) := by omega
  have e1 : IntKind.i64.wrap (N : Int) = (N : Int) := IntWalk.i64_in _ (by omega)
  rw [hNN] at HN
  have NB : Hid (∀ (W : World) (i : Nat), Below w.heap.size w W → i < N → Calls Try.prog 22 #[.slice ao n cap, .int .i64 (i : Int)] W fun e w' => e = .returned (.agg #[.int .u32 ((L.getD i zid).t : Int), .int .u8 ((L.getD i zid).r : Int)]) ∧ Below W.heap.size W w') := fun W i h hi => NA.out W i h (by omega)
  obtain ⟨S, hS⟩ : ∃ z, s = z := ⟨_, rfl⟩
  have HSI : Hid (∀ x : Id, x = s ↔ x.t = s.t ∧ x.r = s.r) := fun x => Id.eq_iff
  rw [hS] at HY HZ
  have HSE : Hid (∀ x : Id, x = S ↔ x.t = s.t ∧ x.r = s.r) := by rw [← hS]; exact HSI.out
  obtain ⟨ts, rs, hts, hrs⟩ := s
  simp only at P0 HSE HW ⊢
  have HGO : Hid (∀ e (W : World), NumI q e → Below w.heap.size w W → NumI q e ∧ Below w.heap.size w W) := fun e W h1 h2 => ⟨h1, h2⟩
  have HQ1 : Hid (∀ j : Nat, q = (j : Int) → NumI q (.returned (.tuple #[.int .i64 (j : Int), .bool true]))) := fun j h => by
    unfold NumI
    rw [h, if_pos (by omega), decide_eq_true (by omega)]
  have HQ0 : Hid (q = -1 → NumI q (.returned (.tuple #[.int .i64 0, .bool false]))) := fun h => by
    unfold NumI
    rw [h, if_neg (by omega), decide_eq_false (by omega)]
  clear hv hq hL hn hl hS HSI hwl NA hNN
  go_enter Try.func84, Try.ntmps84
  go_wp2
  rw [← HW.out]
  go_loopw [10] (fun i wr => ∃ j : Nat, j ≤ N ∧ i = .int .i64 (j : Int) ∧ Hid (∀ k (h : k < L.length), k < j → L[k]'h ≠ S) ∧ Hid (Below wl.heap.size wl wr)) (fun i _ => N - (intOf i).toNat)
  case atStart => exact ⟨0, by omega, rfl, fun k h hk => by omega, Below.refl _ _⟩
  case round =>
    obtain ⟨j, hj, rfl, hno, hbel⟩ := hrel
    have BW := Lib.hid (bt B0.out hbel.out)
    by_cases hjn : j < N
    rotate_left
    · have q3 : decide (j < N) = false := by simpa using hjn
      have HR := Lib.hid (HQ0.out (HZ.out (fun i h => hno.out i h (by have := HN.out; omega))))
      go_wp2
      go_ret2
      exact HGO.out _ _ HR.out BW.out
    have q3 : decide (j < N) = true := by simpa using hjn
    have hjl : j < L.length := by rw [← HN.out]; exact hjn
    have NX := Lib.hid (fun W (h : Below wr.heap.size wr W) => NB.out W j (bt BW.out h) hjn)
    rw [getD_get hjl] at NX
    obtain ⟨x, hx⟩ : ∃ x, L[j]'hjl = x := ⟨_, rfl⟩
    rw [hx] at NX
    have HX : Hid (L[j]'hjl = x) := hx
    have HXS := Lib.hid (HSE.out x)
    obtain ⟨t, r, ht, hr⟩ := x
    simp only at NX HXS
    have SK : Hid (∀ w' : World, Below wr.heap.size wr w' → Below wr.heap.size wr w' ∧ w'.cell? ⟨w.heap.size, 0, none⟩ = some (.int .u32 (ts : Int)) ∧ w'.cell? ⟨w.heap.size, 1, none⟩ = some (.int .u8 (rs : Int))) := fun W h => by
      have p := P0.out.keeps (bt hbel.out h)
      exact ⟨h, p.2.1, p.2.2⟩
    clear hx
    by_cases he : t = ts ∧ r = rs
    · obtain ⟨rfl, rfl⟩ := he
      have HR := Lib.hid (HQ1.out j (HY.out j hjl hno.out (by rw [HX.out]; exact HXS.out.2 ⟨rfl, rfl⟩)))
      clear HXS HX HY HZ HQ0 HQ1 hno NB
      go_wp2
      refine wp_region_held_drew (S := fun w' => Below wr.heap.size wr w' ∧ w'.cell? ⟨w.heap.size, 0, none⟩ = some (.int .u32 (t : Int)) ∧ w'.cell? ⟨w.heap.size, 1, none⟩ = some (.int .u8 (r : Int))) (by kernel_rfl) (SK.out _ (drew1 _)) (fun hHeld => ?_)
      refine rN 0 ?_
      refine rN 1 ?_
      refine rN 3 ?_
      refine wpAnyH_ready (rs := [2]) (by kernel_rfl) (by simp) ?_
      refine AllReadyH.cons rfl (fun K hK => ?_) ?za2
      case za2 => exact AllReadyH.nil
      go_simp
      refine (NX.out _ hHeld.1).mono ?_
      rintro e w9a2 ⟨rfl, b9⟩
      refine hK.out _ _ (SK.out _ (bt hHeld.1 b9)) (fun hNew => ?_)
      clear hHeld
      have hHeld := hNew
      clear hNew hK K
      refine rX ?_
      refine rN 4 ?_
      refine wpAnyH_done (by kernel_rfl) ?_ _
      go_wp2
      go_ret2
      exact HGO.out _ _ HR.out (bt BW.out hHeld.1)
    have NO : Hid (∀ k (h : k < L.length), k < j + 1 → L[k]'h ≠ S) := fun k h hk => by
      by_cases e : k = j
      · subst e
        rw [HX.out]
        intro e2
        exact he (HXS.out.1 e2)
      · exact hno.out k h (by omega)
    have hne : ¬ t = ts ∨ (t = ts ∧ ¬ r = rs) := by
      by_cases h : t = ts
      · exact .inr ⟨h, fun h2 => he ⟨h, h2⟩⟩
      · exact .inl h
    clear HXS HX HY HZ HQ0 HQ1 hno NB he
    rcases hne with hne | ⟨rfl, hne⟩
    · have hi : ¬ ((t : Int) = (ts : Int)) := by omega
      go_wp2
      refine wp_region_held_drew (S := fun w' => Below wr.heap.size wr w' ∧ w'.cell? ⟨w.heap.size, 0, none⟩ = some (.int .u32 (ts : Int)) ∧ w'.cell? ⟨w.heap.size, 1, none⟩ = some (.int .u8 (rs : Int))) (by kernel_rfl) (SK.out _ (drew1 _)) (fun hHeld => ?_)
      refine rN 0 ?_
      refine rN 1 ?_
      refine rN 3 ?_
      refine wpAnyH_ready (rs := [2]) (by kernel_rfl) (by simp) ?_
      refine AllReadyH.cons rfl (fun K hK => ?_) ?zb2
      case zb2 => exact AllReadyH.nil
      go_simp
      refine (NX.out _ hHeld.1).mono ?_
      rintro e w9b2 ⟨rfl, b9⟩
      refine hK.out _ _ (SK.out _ (bt hHeld.1 b9)) (fun hNew => ?_)
      clear hHeld
      have hHeld := hNew
      clear hNew hK K
      refine rX ?_
      refine rN 4 ?_
      refine wpAnyH_done (by kernel_rfl) ?_ _
      go_wp2
      go_roundw
      case rel => exact ⟨j + 1, by omega, by go_num, NO, Lib.hid (bt hbel.out hHeld.1)⟩
      case measure => simp [intOf]; omega
    · have hi : ¬ ((r : Int) = (rs : Int)) := by omega
      go_wp2
      refine wp_region_held_drew (S := fun w' => Below wr.heap.size wr w' ∧ w'.cell? ⟨w.heap.size, 0, none⟩ = some (.int .u32 (t : Int)) ∧ w'.cell? ⟨w.heap.size, 1, none⟩ = some (.int .u8 (rs : Int))) (by kernel_rfl) (SK.out _ (drew1 _)) (fun hHeld => ?_)
      refine rN 0 ?_
      refine rN 1 ?_
      refine rN 3 ?_
      refine wpAnyH_ready (rs := [2]) (by kernel_rfl) (by simp) ?_
      refine AllReadyH.cons rfl (fun K hK => ?_) ?zc2
      case zc2 => exact AllReadyH.nil
      go_simp
      refine (NX.out _ hHeld.1).mono ?_
      rintro e w9c2 ⟨rfl, b9⟩
      refine hK.out _ _ (SK.out _ (bt hHeld.1 b9)) (fun hNew => ?_)
      clear hHeld
      have hHeld := hNew
      clear hNew hK K
      refine rX ?_
      refine rN 4 ?_
      refine wpAnyH_done (by kernel_rfl) ?_ _
      go_wp2
      go_roundw
      case rel => exact ⟨j + 1, by omega, by go_num, NO, Lib.hid (bt hbel.out hHeld.1)⟩
      case measure => simp [intOf]; omega
end Go.Proofs.Ytmiepnnpccpicaa.Homes

namespace Go.Proofs.Ytmiepnnpccpicaa.Homes
open Go.RowKit Go.WideShapes Stamp Go.Proofs.Ytmiepnnpccpicaa.Place Ops Codes Bags Marks
attribute [local go_sem ↓] Go.wp_at_zero Go.wp_at_succ
attribute [local go_sem] yielded_undef
def cmpH (x : Opn) (p : List Run) : Int := if notBehind x p = true then -1 else 1
theorem cmpH_is {x : Opn} {p : List Run} (hx : mayO x = true) (hp : anyB p = true) : cmpH x p = if 0 < cmp x.pl p then 1 else -1 := by
  have hc : cmp x.pl p = Go.Proofs.Ytmiepnnpccpicaa.Place.hold (all x.pl) (all p) := by
    unfold cmp
    exact if_pos ⟨anyB_may (mayO_parts hx).2.1, hp⟩
  rw [hc]
  unfold cmpH notBehind
  by_cases h : Go.Proofs.Ytmiepnnpccpicaa.Place.hold (all x.pl) (all p) ≤ 0
  · rw [if_pos (decide_eq_true h), if_neg (by omega)]
  · rw [if_neg (by simpa using h), if_pos (by omega)]
set_option maxRecDepth 100000 in
set_option maxHeartbeats 4000000 in
theorem hOf1_any {u v : Value} {x : Opn} {p : List Run} {w : World} (hu : Runs w u x.pl) (hv : Runs w v p) (hx : mayO x = true) (hp : anyB p = true) :
    Calls Try.prog 20 #[opv x u, v] w fun e w' => e = .returned (.int .i64 (cmpH x p)) ∧ Below w.heap.size w w' := by
  have PC : Hid (∀ W : World, Below w.heap.size w W → Calls Try.prog 21 #[u, v] W fun e w' => e = .returned (.int .i64 (cmp x.pl p)) ∧ Below W.heap.size W w') := fun W h => pCompare_any (hu.keeps h) (hv.keeps h)
  have B0 : Hid (Below w.heap.size w (w.alloc (.cells #[.int .u8 (x.k : Int), .int .u32 (x.t : Int), .int .u8 (x.r : Int), u, .int .i64 x.p] 36))) := (Below.refl _ _).alloc (Nat.le_refl _) _
  rw [cmpH_is hx hp]
  obtain ⟨q, hq⟩ : ∃ q, cmp x.pl p = q := ⟨_, rfl⟩
  rw [hq] at PC ⊢
  obtain ⟨uo, uc, rfl⟩ := hu.shape
  obtain ⟨vo, vc, rfl⟩ := hv.shape
  obtain ⟨nu, hnu⟩ : ∃ n, x.pl.length = n := ⟨_, rfl⟩
  obtain ⟨nv, hnv⟩ : ∃ n, p.length = n := ⟨_, rfl⟩
  rw [hnu] at PC B0 ⊢
  rw [hnv] at PC ⊢
  clear hq hu hv hnu hnv hx hp
  obtain ⟨k1, t1, r1, l1, p1, hk1, ht1, hr1, hp1⟩ := x
  unfold opv
  simp only at B0 ⊢
  clear hk1 ht1 hr1 hp1
  by_cases h : 0 < q
  · rw [if_pos h]
    have d1 : decide (0 < q) = true := decide_eq_true h
    go_enter Try.func20, Try.ntmps20
    go_wp2_with fail
    refine (PC.out _ B0.out).mono ?_
    rintro e w1 ⟨rfl, b1⟩
    have B1 := Lib.hid (bt B0.out b1)
    clear b1 PC B0
    go_wp2
    go_ret
    exact ⟨rfl, B1.out⟩
  · rw [if_neg h]
    have d1 : decide (0 < q) = false := decide_eq_false h
    go_enter Try.func20, Try.ntmps20
    go_wp2_with fail
    refine (PC.out _ B0.out).mono ?_
    rintro e w1 ⟨rfl, b1⟩
    have B1 := Lib.hid (bt B0.out b1)
    clear b1 PC B0
    go_wp2
    go_ret
    exact ⟨rfl, B1.out⟩
set_option maxRecDepth 100000 in
set_option maxHeartbeats 16000000 in
theorem hBin_any {v u : Value} {live : List Opn} {p : List Run} {w : World} (hv : OpL w v live) (hu : Runs w u p) (hl : live.length ≤ 1000000) (hL : Liv live) (hp : anyB p = true) :
    Calls Try.prog 19 #[v, u, .func (.func 20) #[] #[]] w fun e w' => (∃ q : Bool, e = .returned (.tuple #[.int .i64 (cntM live p : Int), .bool q])) ∧ Below w.heap.size w w' := by
  obtain ⟨ao, cap, rfl⟩ := hv.shape
  obtain ⟨uo, uc, rfl⟩ := hu.shape
  obtain ⟨n, hn⟩ : ∃ n, n = live.length := ⟨_, rfl⟩
  have HV : Hid (∀ W : World, Below w.heap.size w W → OpL W (.slice ao live.length cap) live) := fun W h => hv.keeps h
  have HN := Lib.hid hn
  have S1 : Hid (∀ (x : Opn) (y : Value) (W : World), x ∈ live → Runs W y x.pl → Below w.heap.size w W → Calls Try.prog 20 #[opv x y, .slice uo p.length uc] W fun e w' => e = .returned (.int .i64 (cmpH x p)) ∧ Below W.heap.size W w') := fun x y W hm hy h => hOf1_any hy (hu.keeps h) (hL.may x hm).1 hp
  have HLT : Hid (∀ (j : Nat) (h : j < live.length), cmpH (live[j]'h) p < 0 → j < cntM live p) := fun j h hc => by
    refine (nb_iff hL j h).1 ?_
    unfold cmpH at hc
    split at hc
    · assumption
    · omega
  have HGE : Hid (∀ (j : Nat) (h : j < live.length), ¬ cmpH (live[j]'h) p < 0 → cntM live p ≤ j) := fun j h hc => by
    refine Nat.le_of_not_lt fun h2 => hc ?_
    unfold cmpH
    rw [if_pos ((nb_iff hL j h).2 h2)]
    decide
  have HK := cntM_le live p
  have HC0 : Hid (∀ x : Opn, (cmpH x p == 0) = false) := fun x => by
    unfold cmpH
    split <;> rfl
  obtain ⟨K, hK⟩ : ∃ K, cntM live p = K := ⟨_, rfl⟩
  rw [hK] at HLT HGE HK ⊢
  obtain ⟨np, hnp⟩ : ∃ n, p.length = n := ⟨_, rfl⟩
  rw [hnp] at S1 ⊢
  rw [← hn] at hl HK ⊢
  clear hv hn hu hL hp hK hnp
  have eg := enters_of Try.func20 (by kernel_rfl) rfl
  have B0 : Hid (Below w.heap.size w w) := Below.refl _ _
  go_enter Try.func19, Try.ntmps19
  go_wp2
  go_loopw [9, 10] (fun x y wr => ∃ lo hi : Nat, x = .int .i64 (lo : Int) ∧ y = .int .i64 (hi : Int) ∧ lo ≤ hi ∧ hi ≤ n ∧ lo ≤ K ∧ K ≤ hi ∧ Hid (Below w.heap.size w wr)) (fun x y _ => (intOf y - intOf x).toNat)
  case atStart => exact ⟨0, n, rfl, rfl, by omega, by omega, by omega, HK, B0⟩
  case round =>
    clear B0
    obtain ⟨lo, hi, rfl, rfl, hlh, hhn, hlow, hhigh, hbel⟩ := hrel
    by_cases hlt : lo < hi
    · obtain ⟨m, hm⟩ : ∃ m, m = (lo + hi) / 2 := ⟨_, rfl⟩
      have em : ((lo : Int) + (hi : Int)) / 2 = (m : Int) := by omega
      have m1 : lo ≤ m := by omega
      have m2 : m < hi := by omega
      have q4 : (0 : Int) ≤ (m : Int) := by omega
      have q5 : (m : Int) < (n : Int) := by omega
      have hml : m < live.length := by rw [← HN.out]; omega
      clear hm
      obtain ⟨bb, oo, u, e, hbb, hru, h0, h1, h2, h3, h4⟩ := opl_at (HV.out wr hbel.out) m hml
      subst e
      obtain ⟨x, hx⟩ : ∃ x, x = live[m]'hml := ⟨_, rfl⟩
      rw [← hx] at hru h0 h1 h2 h4
      have HO : Hid (∀ v : Value, opv x v = .agg #[.int .u8 (x.k : Int), .int .u32 (x.t : Int), .int .u8 (x.r : Int), v, .int .i64 x.p]) := fun v => rfl
      obtain ⟨uo, uc, rfl⟩ := hru.shape
      obtain ⟨nu, hnu⟩ : ∃ n, n = x.pl.length := ⟨_, rfl⟩
      have HNU := Lib.hid hnu
      rw [← hnu] at hru h3
      clear hnu
      have hxm : x ∈ live := by rw [hx]; exact List.getElem_mem _
      have SX := Lib.hid (S1.out x _ wr hxm hru hbel.out)
      obtain ⟨c, hc⟩ : ∃ c, cmpH x p = c := ⟨_, rfl⟩
      rw [hc] at SX
      have HLO : Hid (c < 0 → m + 1 ≤ K) := fun h => HLT.out m hml (by rw [← hx, hc]; exact h)
      have HHI : Hid (¬ c < 0 → K ≤ m) := fun h => HGE.out m hml (by rw [← hx, hc]; omega)
      clear hru hx hc hxm
      obtain ⟨k, hk⟩ : ∃ z, x.k = z := ⟨_, rfl⟩
      obtain ⟨t, ht⟩ : ∃ z, x.t = z := ⟨_, rfl⟩
      obtain ⟨r, hr⟩ : ∃ z, x.r = z := ⟨_, rfl⟩
      obtain ⟨p, hp⟩ : ∃ z, x.p = z := ⟨_, rfl⟩
      rw [hk, ht, hr, hp] at HO
      rw [hk] at h0
      rw [ht] at h1
      rw [hr] at h2
      rw [hp] at h4
      simp only [HO.out] at SX
      clear hk ht hr hp HO S1 HLT HGE HC0 HV hbb
      by_cases hc0 : c < 0
      · have d1 : decide (c < 0) = true := decide_eq_true hc0
        have HN2 := HLO.out hc0
        clear HLO HHI
        go_wp2_with fail
        refine SX.out.mono ?_
        rintro e w1 ⟨rfl, b1⟩
        have BW := Lib.hid (bt hbel.out b1)
        clear b1 SX h0 h1 h2 h3 h4
        go_wp2
        go_roundw
        case rel => exact ⟨m + 1, hi, by go_num, rfl, by omega, hhn, HN2, hhigh, BW⟩
        case measure => simp [intOf]; omega
      · have d1 : decide (c < 0) = false := decide_eq_false hc0
        have HN2 := HHI.out hc0
        clear HLO HHI
        go_wp2_with fail
        refine SX.out.mono ?_
        rintro e w1 ⟨rfl, b1⟩
        have BW := Lib.hid (bt hbel.out b1)
        clear b1 SX h0 h1 h2 h3 h4
        go_wp2
        go_roundw
        case rel => exact ⟨lo, m, rfl, rfl, by omega, by omega, hlow, HN2, BW⟩
        case measure => simp [intOf]; omega
    · obtain rfl : hi = lo := by omega
      obtain rfl : K = hi := by omega
      by_cases hkn : K < n
      rotate_left
      · have q8 : decide (K < n) = false := by simpa using hkn
        clear S1 HLT HGE HC0 HV
        go_wp2
        go_ret2
        exact ⟨⟨_, rfl⟩, hbel.out⟩
      have q8 : decide (K < n) = true := by simpa using hkn
      have q4 : (0 : Int) ≤ (K : Int) := by omega
      have q5 : (K : Int) < (n : Int) := by omega
      have hml : K < live.length := by rw [← HN.out]; exact hkn
      obtain ⟨bb, oo, u, e, hbb, hru, h0, h1, h2, h3, h4⟩ := opl_at (HV.out wr hbel.out) K hml
      subst e
      obtain ⟨x, hx⟩ : ∃ x, x = live[K]'hml := ⟨_, rfl⟩
      rw [← hx] at hru h0 h1 h2 h4
      have HO : Hid (∀ v : Value, opv x v = .agg #[.int .u8 (x.k : Int), .int .u32 (x.t : Int), .int .u8 (x.r : Int), v, .int .i64 x.p]) := fun v => rfl
      obtain ⟨uo, uc, rfl⟩ := hru.shape
      obtain ⟨nu, hnu⟩ : ∃ n, n = x.pl.length := ⟨_, rfl⟩
      have HNU := Lib.hid hnu
      rw [← hnu] at hru h3
      clear hnu
      have hxm : x ∈ live := by rw [hx]; exact List.getElem_mem _
      have SX := Lib.hid (S1.out x _ wr hxm hru hbel.out)
      have d1 := HC0.out x
      obtain ⟨c, hc⟩ : ∃ c, cmpH x p = c := ⟨_, rfl⟩
      rw [hc] at SX d1
      have d2 : ¬ c = 0 := by simpa using d1
      clear hru hx hc hxm
      obtain ⟨k, hk⟩ : ∃ z, x.k = z := ⟨_, rfl⟩
      obtain ⟨t, ht⟩ : ∃ z, x.t = z := ⟨_, rfl⟩
      obtain ⟨r, hr⟩ : ∃ z, x.r = z := ⟨_, rfl⟩
      obtain ⟨p, hp⟩ : ∃ z, x.p = z := ⟨_, rfl⟩
      rw [hk, ht, hr, hp] at HO
      rw [hk] at h0
      rw [ht] at h1
      rw [hr] at h2
      rw [hp] at h4
      simp only [HO.out] at SX
      clear hk ht hr hp HO S1 HLT HGE HC0 HV hbb
      go_wp2_with fail
      refine SX.out.mono ?_
      rintro e w1 ⟨rfl, b1⟩
      have BW := Lib.hid (bt hbel.out b1)
      clear b1 SX h0 h1 h2 h3 h4
      go_wp2
      go_ret2
      exact ⟨⟨_, rfl⟩, BW.out⟩
end Go.Proofs.Ytmiepnnpccpicaa.Homes

namespace Go.Proofs.Ytmiepnnpccpicaa.Marks
open Go.RowKit Go.WideShapes Go.Sort Stamp Go.Proofs.Ytmiepnnpccpicaa.Place Ops Codes
theorem flat_list {α : Type} [Inhabited α] (enc : α → List Value) (k : Nat) (hk0 : 0 < k) (hk : ∀ x, (enc x).length = k) : ∀ ds : List α,
    (List.range (ds.length * k)).map (fun t => (enc (ds[t / k]!))[t % k]!) = ds.flatMap enc
  | [] => by simp
  | x :: ds => by
    rw [List.length_cons, show (ds.length + 1) * k = k + ds.length * k by rw [Nat.succ_mul]; omega, List.range_add, List.map_append, List.flatMap_cons]
    congr 1
    · apply List.ext_getElem
      · simp [hk]
      · intro i h1 h2
        have hi : i < k := by simpa using h1
        rw [List.getElem_map, List.getElem_range, Nat.div_eq_of_lt hi, Nat.mod_eq_of_lt hi]
        show (enc x)[i]! = _
        rw [getElem!_pos (enc x) i h2]
    · rw [List.map_map, ← flat_list enc k hk0 hk ds]
      apply List.map_congr_left
      intro t _
      simp only [Function.comp]
      rw [Nat.add_div_left _ hk0, Nat.add_mod_left]
      rfl
theorem flatK_list {α : Type} [Inhabited α] (enc : α → List Value) (k : Nat) (hk0 : 0 < k) (hk : ∀ x, (enc x).length = k) (d : Array α) : (flatK enc k d).toList = d.toList.flatMap enc := by
  rw [← flat_list enc k hk0 hk d.toList]
  unfold flatK
  rw [Array.toList_map, Array.toList_range]
  apply List.map_congr_left
  intro t _
  simp [Array.getElem!_eq_getD, Array.getD_eq_getD_getElem?]
theorem putCells_take (F c : Array Value) (h : F.size ≤ c.size) : (putCells id 0 F c).toList.take F.size = F.toList := by
  apply List.ext_getElem
  · simp [putCells]; omega
  · intro i h1 h2
    have hi : i < F.size := by simpa using h2
    rw [List.getElem_take]
    simp [putCells, hi]
theorem putCells_size (F c : Array Value) (o : Nat) : (putCells id o F c).size = c.size := by simp [putCells]
theorem srt_other {α : Type} [Inhabited α] (enc : α → List Value) (k : Nat) (w : World) (g o m : Nat) (d : Array α) (os : Array Obj) {j : Nat} (hj : j ≠ g) (hs : j < w.heap.size) : (sortWorldK enc k w g o m d os).heap[j]? = w.heap[j]? := by
  show ((w.heap.modify g _) ++ os)[j]? = _
  rw [Array.getElem?_append_left (by simpa using hs), Array.getElem?_modify, if_neg (Ne.symm hj)]
theorem srt_row {α : Type} [Inhabited α] (enc : α → List Value) (k : Nat) {w : World} {g : Nat} (m : Nat) (d : Array α) (os : Array Obj) {cur : Array Value} {e : TypeId} {fr : Nat × Nat} (h : w.heap[g]? = some (.cells cur e fr)) : (sortWorldK enc k w g 0 m d os).heap[g]? = some (.cells (putCells id 0 (flatK enc k d) cur) e fr) := by
  have hs := (Array.getElem?_eq_some_iff.1 h).1
  show ((w.heap.modify g _) ++ os)[g]? = _
  rw [Array.getElem?_append_left (by simpa using hs), Array.getElem?_modify, if_pos rfl, h]
  rfl
theorem srt_below {α : Type} [Inhabited α] (enc : α → List Value) (k : Nat) (w : World) (g o m B : Nat) (d : Array α) (os : Array Obj) (hB : B ≤ g) (hs : g < w.heap.size) : Below B w (sortWorldK enc k w g o m d os) := by
  refine ⟨rfl, rfl, rfl, ?_, fun j hj => srt_other enc k w g o m d os (by omega) (by omega)⟩
  show w.heap.size ≤ ((w.heap.modify g _) ++ os).size
  simp
/-- An operation whose place is of the call's own. -/
def Elt (w : World) (base : Nat) : Type := {x : Opn × Value // anyB x.1.pl = true ∧ w.ownsRow base 42 3 x.2 x.1.pl.length (runs x.1.pl)}
instance (w : World) (base : Nat) : Inhabited (Elt w base) := ⟨⟨(zop, .slice none 0 0), rfl, World.ownsRow_nil _ _ _ _⟩⟩
def encE {w : World} {base : Nat} (x : Elt w base) : List Value := [.int .u8 (x.1.1.k : Int), .int .u32 (x.1.1.t : Int), .int .u8 (x.1.1.r : Int), x.1.2, .int .i64 x.1.1.p]
def opE' {w : World} {base : Nat} (x : Elt w base) : Opn := x.1.1
theorem encE_len {w : World} {base : Nat} (x : Elt w base) : (encE x).length = 5 := rfl
theorem elts_of {w : World} {base : Nat} : ∀ {cs : List Value} {l : List Opn}, HoldP w base cs l → (∀ o ∈ l, anyB o.pl = true) → ∃ ds : List (Elt w base), cs = ds.flatMap encE ∧ l = ds.map opE'
  | _, [], h, _ => ⟨[], h, rfl⟩
  | _, o :: l, ⟨v, d, h1, h2, h3⟩, hm => by
    obtain ⟨ds, e1, e2⟩ := elts_of h3 (fun o ho => hm o (by simp [ho]))
    have ho := hm o (by simp)
    obtain ⟨z, hz⟩ : ∃ z : Elt w base, z.1 = (o, v) := ⟨⟨(o, v), ho, h2⟩, rfl⟩
    refine ⟨z :: ds, ?_, ?_⟩
    · rw [h1, e1, List.flatMap_cons]; unfold encE; rw [hz]
    · rw [List.map_cons, ← e2]; unfold opE'; rw [hz]
theorem holdP_of {w w' : World} {base : Nat} (hk : ∀ x : Elt w base, w'.ownsRow base 42 3 x.1.2 x.1.1.pl.length (runs x.1.1.pl)) : ∀ ds : List (Elt w base), HoldP w' base (ds.flatMap encE) (ds.map opE')
  | [] => rfl
  | x :: ds => ⟨x.1.2, ds.flatMap encE, by rw [List.flatMap_cons]; rfl, hk x, holdP_of hk ds⟩
/-- Places stay while the operations are moved about. -/
theorem elt_stays {w : World} {base g : Nat} {cur : Array Value} (hg : w.heap[g]? = some (.cells cur 36 (0, 0))) (m : Nat) (d : Array (Elt w base)) (os : Array Obj) (x : Elt w base) :
    (sortWorldK encE 5 w g 0 m d os).ownsRow base 42 3 x.1.2 x.1.1.pl.length (runs x.1.1.pl) := by
  obtain ⟨x, _, h⟩ := x
  refine ⟨h.1, ?_⟩
  rcases h.2 with h | ⟨b, cap, c, e1, e2, e3, e4⟩
  · exact .inl h
  · refine .inr ⟨b, cap, c, e1, e2, ?_, e4⟩
    rw [srt_other encE 5 w g 0 m d os ?_ (Array.getElem?_eq_some_iff.1 e3).1]
    · exact e3
    · rintro rfl
      rw [hg] at e3
      injection e3 with e3
      injection e3 with _ e3 _
      exact absurd e3 (by decide)
theorem elt_holds {w : World} {base g cap n : Nat} {ds : List (Elt w base)} (hg : ∃ cur, w.heap[g]? = some (.cells cur 36 (0, 0)) ∧ cur.size = cap * 5 ∧ cur.toList.take (n * 5) = ds.flatMap encE) (hn : n = ds.length) (hc : n ≤ cap) : HoldsK encE 5 w g 0 ds.toArray := by
  obtain ⟨cur, h1, h2, h3⟩ := hg
  intro j hj
  rw [size_flatK] at hj
  have hj' : j < ds.length * 5 := by simpa using hj
  have hjc : j < cur.size := by rw [h2]; have := Nat.mul_le_mul_right 5 hc; omega
  have e : cur[j]? = (flatK encE 5 ds.toArray)[j]? := by
    rw [← Array.getElem?_toList, ← Array.getElem?_toList, flatK_list encE 5 (by decide) encE_len, ← h3, List.getElem?_take, if_pos (by omega)]
  have hf : j < (flatK encE 5 ds.toArray).size := by rw [size_flatK]; exact hj
  rw [Nat.zero_add]
  constructor
  · have e2 : w.cell? ⟨g, j, none⟩ = cur[j]? := by simp [World.cell?, h1]
    rw [e2, e, Array.getElem?_eq_getElem hf, getElem!_pos _ j hf]
    rfl
  · simp [World.frozen?, h1]
def cfE {w : World} {base : Nat} (x y : Elt w base) : Int := cmp x.1.1.pl y.1.1.pl
theorem cfE_is {w : World} {base : Nat} (x y : Elt w base) : cfE x y = Go.Proofs.Ytmiepnnpccpicaa.Place.hold (all x.1.1.pl) (all y.1.1.pl) := by
  unfold cfE cmp
  rw [if_pos ⟨x.2.1, y.2.1⟩]
theorem ltE_is {w : World} {base : Nat} (x y : Elt w base) : ltOf cfE x y = true ↔ Go.Proofs.Ytmiepnnpccpicaa.Place.hold (all x.1.1.pl) (all y.1.1.pl) = -1 := by
  unfold ltOf
  rw [cfE_is, decide_eq_true_iff]
  have := hold_range (all x.1.1.pl) (all y.1.1.pl)
  omega
theorem ltE_no {w : World} {base : Nat} (x y : Elt w base) : ltOf cfE x y = false ↔ ¬ Go.Proofs.Ytmiepnnpccpicaa.Place.hold (all x.1.1.pl) (all y.1.1.pl) = -1 := by
  rw [← ltE_is, Bool.not_eq_true]
theorem swoE (w : World) (base : Nat) : SWO (ltOf (cfE (w := w) (base := base))) where
  irrefl x := by rw [ltE_no, (hold_eq _ _).2 rfl]; decide
  trans x y z h1 h2 := by rw [ltE_is] at *; exact hold_trans _ _ _ h1 h2
  ntrans x y z h1 h2 := by
    rw [ltE_no] at *
    intro h3
    have n1 := hold_neg (all x.1.1.pl) (all y.1.1.pl)
    rcases hold_range (all x.1.1.pl) (all y.1.1.pl) with h | h | h
    · exact h1 h
    · have := (hold_eq _ _).1 h
      rw [this] at h3
      exact h2 h3
    · exact h2 (hold_trans _ _ _ (by omega) h3)
end Go.Proofs.Ytmiepnnpccpicaa.Marks
