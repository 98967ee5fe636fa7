/- Slices of elements of any width: what a slice value holds, cell by cell; append onto a row of the call's own. Conditions: none. Bags in plain words: which may be, one more in its place, two together, without stamps. Conditions: none. Live marks are sorted by their places, strictly; what one operation more makes of them. Conditions: none. Homes of places in plain words. Conditions: none. Homes: what one operation more homes elsewhere. Conditions: none. What counts is closed; with content, or a mark, more all that counted counts; all content is homed in one section. Conditions: none. What is seen of a section, in plain words. Conditions: none. Calls as operations, in plain words: what an insert and a delete make of what is seen. Conditions: none. An insert at a number, a delete of one that is seen: what is seen then. Conditions: none. Deletes of what is seen, and many operations one behind -/
import Derived.Test.YtgjbnbojjgbmcaaGreatChecked
import Derived.WalkKit
import Derived.WalkSpells
import Derived.WalkLawsBesides
import Derived.Laws.BytesArg
import Derived.Lib.Hide
import Derived.Deep.LoopGhost
import Derived.Laws.AppendOwnNone
import Derived.Laws.OwnMore
import Derived.WideShapes
import Derived.Maps.AppendAt
import Derived.RegionTactic
import Derived.Deep.RegionHeld3
import Derived.Deep.DrawnRows
import Derived.Deep.QuietTactic
import Derived.BigQuiet
import Derived.IntWalk
import Derived.Deep.DeepCutAuto
import Derived.ScopeJumps
import Derived.Test.YtgjbnbojjgbmcaaGreatProg
import Derived.LoopTactic
import Derived.Laws.EntriesVeiled
import Derived.RowKit
import Derived.Lib.DecodeN
import Derived.Lib.RuneBytes
import Derived.Shelf.Abstract
import Derived.Shelf.SlSortCmp.InsertionK
import Derived.Calls
import Derived.StepT
import Derived.Below
import Derived.Sort.Grow
import Derived.Deep.Draws
import Derived.Shelf.SlLaysF0
import Derived.Shelf.SlSortCmp.NoneTotal
import Derived.Maps.Own
import Derived.Maps.OwnOps
import Derived.Maps.OwnSet
import Derived.Maps.Views
import Derived.DeepKeys4
import Derived.RangeFuncBox
import Derived.RangeFuncLeaves
import Derived.RangeFuncNested
import Derived.RangeFuncBound
import Derived.RangeFuncCalls
import Derived.OwnWalkIn
import Derived.TacticsInMore
import Derived.LoopNIn
import Derived.LoopIn
import Derived.Test.YtgjbnbojjgbmcaaGreatShelf
import Derived.Lib.OthersKept
import Derived.BigCall
import Derived.Scope
import Derived.Lib.Tables
import Derived.Laws.Bits64
import Derived.Laws.CopyOwn
import Derived.Deep.AppendSrc
import Derived.Lib.AppendZeros
import Derived.Laws.MakeOwn
import Derived.Test.YtgjbnbojjgbmcaaGreatPk01
import Derived.Test.YtgjbnbojjgbmcaaGreatPk15
import Derived.Test.YtgjbnbojjgbmcaaGreatPk04
import Derived.Test.YtgjbnbojjgbmcaaGreatPk03
import Derived.Test.YtgjbnbojjgbmcaaGreatPk02
import Derived.Test.YtgjbnbojjgbmcaaGreatPk14
import Derived.Test.YtgjbnbojjgbmcaaGreatPk05
import Derived.Test.YtgjbnbojjgbmcaaGreatPk06
import Derived.Test.YtgjbnbojjgbmcaaGreatPk09
import Derived.Test.YtgjbnbojjgbmcaaGreatPk08
import Derived.Test.YtgjbnbojjgbmcaaGreatPk07
import Derived.Test.YtgjbnbojjgbmcaaGreatPk10
import Derived.Test.YtgjbnbojjgbmcaaGreatPk11

namespace Go.Proofs.YtgjbnbojjgbmcaaGreat
open Go.RowKit Go.WideShapes
/-- Nothing of the call's own yet. -/
theorem own_none (w : World) (base : Nat) (hb : base ≤ w.heap.size) (e : TypeId) (sz : Nat) : (w.alloc (.cells #[] e)).ownsRow base e sz (.slice (some ⟨w.heap.size, 0, none⟩) 0 0) 0 [] :=
  World.ownsRow_made w #[] 0 hb (by decide) (by simp)
end Go.Proofs.YtgjbnbojjgbmcaaGreat

namespace Go.Proofs.YtgjbnbojjgbmcaaGreat.Bags
open Ops Stamp
theorem lessO_irrefl (a : Opn) : ¬ lessO a a := by unfold lessO; omega
theorem lessO_asymm {a b : Opn} (h : lessO a b) : ¬ lessO b a := by unfold lessO at *; omega
theorem lessO_three (a b : Opn) : lessO a b ∨ idO a = idO b ∨ lessO b a := by rw [idO_eq]; unfold lessO; omega
/-- A bag is known by what it has. -/
theorem pw_ext : ∀ {l m : List Opn}, l.Pairwise lessO → m.Pairwise lessO → (∀ x, x ∈ l ↔ x ∈ m) → l = m
  | [], [], _, _, _ => rfl
  | [], y :: m, _, _, h => by have := (h y).2 (by simp); simp at this
  | x :: l, [], _, _, h => by have := (h x).1 (by simp); simp at this
  | x :: l, y :: m, hl, hm, h => by
    have hl' := List.pairwise_cons.1 hl
    have hm' := List.pairwise_cons.1 hm
    have e : x = y := by
      rcases List.mem_cons.1 ((h x).1 (by simp)) with e | hx
      · exact e
      · rcases List.mem_cons.1 ((h y).2 (by simp)) with e | hy
        · exact e.symm
        · exact absurd (hm'.1 x hx) (lessO_asymm (hl'.1 y hy))
    subst e
    rw [pw_ext hl'.2 hm'.2 (fun z => by
      constructor
      · intro hz
        rcases List.mem_cons.1 ((h z).1 (by simp [hz])) with rfl | hz'
        · exact absurd (hl'.1 z hz) (lessO_irrefl z)
        · exact hz'
      · intro hz
        rcases List.mem_cons.1 ((h z).2 (by simp [hz])) with rfl | hz'
        · exact absurd (hm'.1 z hz) (lessO_irrefl z)
        · exact hz')]
def withO (l : List Opn) (o : Opn) : List Opn := if hasO l (idO o) = true then l else l.filter (fun x => decide (lessO x o)) ++ o :: l.filter (fun x => decide (lessO o x))
theorem mem_withO {l : List Opn} {o x : Opn} : x ∈ withO l o ↔ x ∈ l ∨ x = o ∧ hasO l (idO o) = false := by
  unfold withO
  by_cases h : hasO l (idO o) = true
  · rw [if_pos h]; simp [h]
  · rw [if_neg h]
    have h' : hasO l (idO o) = false := by simpa using h
    simp only [List.mem_append, List.mem_cons, List.mem_filter, decide_eq_true_eq, h', and_true]
    constructor
    · rintro (h1 | rfl | h1)
      · exact .inl h1.1
      · exact .inr rfl
      · exact .inl h1.1
    · rintro (h1 | rfl)
      · rcases lessO_three x o with h2 | h2 | h2
        · exact .inl ⟨h1, h2⟩
        · exact absurd h2 (hasO_no.1 h' x h1)
        · exact .inr (.inr ⟨h1, h2⟩)
      · exact .inr (.inl rfl)
theorem pw_withO {l : List Opn} {o : Opn} (hp : l.Pairwise lessO) : (withO l o).Pairwise lessO := by
  unfold withO
  by_cases h : hasO l (idO o) = true
  · rw [if_pos h]; exact hp
  · rw [if_neg h, List.pairwise_append]
    refine ⟨hp.filter _, List.Pairwise.cons (fun x hx => by simpa using (List.mem_filter.1 hx).2) (hp.filter _), fun a ha b hb => ?_⟩
    have ha2 : lessO a o := by simpa using (List.mem_filter.1 ha).2
    rcases List.mem_cons.1 hb with rfl | hb
    · exact ha2
    · exact lessO_trans ha2 (by simpa using (List.mem_filter.1 hb).2)
theorem filter_parts {l : List Opn} {o : Opn} (h : ∀ x ∈ l, idO x ≠ idO o) : (l.filter (fun x => decide (lessO x o))).length + (l.filter (fun x => decide (lessO o x))).length = l.length := by
  induction l with
  | nil => rfl
  | cons x l ih =>
    have ih' := ih (fun y hy => h y (by simp [hy]))
    have hx := h x (by simp)
    rcases lessO_three x o with h1 | h1 | h1
    · have h2 := lessO_asymm h1
      simp only [List.filter_cons, h1, h2, decide_true, decide_false, if_true, Bool.false_eq_true, if_false, List.length_cons]
      omega
    · exact absurd h1 hx
    · have h2 := lessO_asymm h1
      simp only [List.filter_cons, h1, h2, decide_true, decide_false, if_true, Bool.false_eq_true, if_false, List.length_cons]
      omega
theorem withO_len (l : List Opn) (o : Opn) : (withO l o).length = if hasO l (idO o) = true then l.length else l.length + 1 := by
  unfold withO
  by_cases h : hasO l (idO o) = true
  · rw [if_pos h, if_pos h]
  · rw [if_neg h, if_neg h]
    have := filter_parts (hasO_no.1 (by simpa using h))
    rw [List.length_append, List.length_cons]
    omega
theorem bag_withO {l : List Opn} {o : Opn} (hb : Bag l) (ho : mayO o = true) (hl : (withO l o).length ≤ 1024) : Bag (withO l o) :=
  ⟨hl, fun x hx => by rcases mem_withO.1 hx with h | ⟨rfl, _⟩; exact hb.2.1 x h; exact ho, pw_withO hb.2.2⟩
/-- What Add answers. -/
def addE (l : List Opn) (o : Opn) : Int := if ¬ (bagB l = true ∧ mayO o = true) then 8 else if 1024 < (withO l o).length then 9 else 0
def addL (l : List Opn) (o : Opn) : List Opn := if addE l o = 0 then withO l o else []
theorem addE_cases (l : List Opn) (o : Opn) : (addE l o = 8 ∧ ¬ (Bag l ∧ mayO o = true)) ∨ (addE l o = 9 ∧ Bag l ∧ mayO o = true ∧ 1024 < (withO l o).length) ∨ (addE l o = 0 ∧ Bag l ∧ mayO o = true ∧ (withO l o).length ≤ 1024) := by
  unfold addE
  by_cases h : Bag l ∧ mayO o = true
  · rw [if_neg (by rw [bagB_iff]; exact fun hn => hn h)]
    by_cases h2 : 1024 < (withO l o).length
    · rw [if_pos h2]; exact .inr (.inl ⟨rfl, h.1, h.2, h2⟩)
    · rw [if_neg h2]; exact .inr (.inr ⟨rfl, h.1, h.2, by omega⟩)
  · rw [if_pos (by rw [bagB_iff]; exact h)]; exact .inl ⟨rfl, h⟩
theorem addL_bag {l : List Opn} {o : Opn} (h : addE l o = 0) : addL l o = withO l o ∧ Bag (addL l o) := by
  have e : addL l o = withO l o := by unfold addL; rw [if_pos h]
  rcases addE_cases l o with ⟨h1, _⟩ | ⟨h1, _⟩ | ⟨_, h2, h3, h4⟩
  · rw [h] at h1; cases h1
  · rw [h] at h1; cases h1
  · rw [e]; exact ⟨rfl, bag_withO h2 h3 h4⟩
end Go.Proofs.YtgjbnbojjgbmcaaGreat.Bags

namespace Go.Proofs.YtgjbnbojjgbmcaaGreat.Marks
open Ops Stamp Bags Go.Proofs.YtgjbnbojjgbmcaaGreat.Place
theorem ended_withO {l : List Opn} {o : Opn} (hno : hasO l (idO o) = false) (a : Id) : ended (withO l o) a = (ended l a || (decide (o.k = 4) && decide (tgt o = a))) := by
  rw [Bool.eq_iff_iff, ended_iff, Bool.or_eq_true, ended_iff, Bool.and_eq_true, decide_eq_true_iff, decide_eq_true_iff]
  constructor
  · rintro ⟨x, hx, h1, h2⟩
    rcases mem_withO.1 hx with hx | ⟨rfl, _⟩
    · exact .inl ⟨x, hx, h1, h2⟩
    · exact .inr ⟨h1, h2⟩
  · rintro (⟨x, hx, h1, h2⟩ | ⟨h1, h2⟩)
    · exact ⟨x, mem_withO.2 (.inl hx), h1, h2⟩
    · exact ⟨o, mem_withO.2 (.inr ⟨rfl, hno⟩), h1, h2⟩
end Go.Proofs.YtgjbnbojjgbmcaaGreat.Marks

namespace Go.Proofs.YtgjbnbojjgbmcaaGreat.Homes
open Ops Stamp Bags Marks Go.Proofs.YtgjbnbojjgbmcaaGreat.Place
def allL (l : List Opn) : List Id := if bagB l = true then sectsM (livesM l l) else []
end Go.Proofs.YtgjbnbojjgbmcaaGreat.Homes

namespace Go.Proofs.YtgjbnbojjgbmcaaGreat.Homes
open Ops Stamp Bags Marks Go.Proofs.YtgjbnbojjgbmcaaGreat.Place
theorem lives_stay {l : List Opn} {o : Opn} (hl : Bag l) (hw : Bag (withO l o)) (hno : hasO l (idO o) = false) (h4 : o.k ≠ 4) (h2 : ¬ (o.k = 2 ∧ ended l (idO o) = false)) :
    livesM (withO l o) (withO l o) = livesM l l := by
  have hx : ∀ a, ended (withO l o) a = ended l a := fun a => by rw [ended_withO hno]; simp [h4]
  refine lives_ext hw (lives_may (L := l) hl.2.1) (lives_sorted (L := l) hl.2.1 hl.2.2) (fun y => ?_)
  rw [mem_livesM, hx, mem_withO]
  constructor
  · rintro ⟨h1, h3⟩; exact ⟨.inl h1, h3⟩
  · rintro ⟨h1 | ⟨rfl, _⟩, h3⟩
    · exact ⟨h1, h3⟩
    · exact absurd h3 h2
end Go.Proofs.YtgjbnbojjgbmcaaGreat.Homes

namespace Go.Proofs.YtgjbnbojjgbmcaaGreat.Covers
open Ops Stamp Bags Marks Homes Go.Proofs.YtgjbnbojjgbmcaaGreat.Place
/-- What counts is closed. -/
theorem count_has {l live : List Opn} {s : Id} {o : Opn} (h : o ∈ countL l live s) {k : Nat} (hk : k < manyN o) (e : homeM live (cutN o.pl (k + 1)) = s) : hasO l ((all o.pl).getD k zid) = true :=
  isB_iff.1 (mem_countL.1 h).2 k hk e
theorem sect_where {l : List Opn} (hl : Bag l) {i : Nat} (hi : i < (livesM l l).length + 1) : spanE l ((sectsM (livesM l l)).getD i zid) = 0 := by
  refine spanE_zero.2 ⟨hl, ?_⟩
  rw [whereM_at (liv_bag hl) hi]
  omega
end Go.Proofs.YtgjbnbojjgbmcaaGreat.Covers

namespace Go.Proofs.YtgjbnbojjgbmcaaGreat.Views
open Ops Stamp Bags Marks Homes Covers Go.Proofs.YtgjbnbojjgbmcaaGreat.Place
def wordM (c : List Opn) : List UInt8 := Point.flat (c.map (·.p))
def textL (l : List Opn) (s : Id) : List UInt8 := wordM (elmL l s)
theorem counts_pw {l : List Opn} (hb : Bag l) (s : Id) : (∀ o ∈ countL l (livesM l l) s, mayO o = true) ∧ (countL l (livesM l l) s).Pairwise lessO :=
  ⟨fun o ho => hb.2.1 o (mem_countL.1 ho).1.1, hb.2.2.sublist (countL_sub _ _ _)⟩
theorem elm_sorted (l : List Opn) (s : Id) : (elmL l s).Pairwise pre := by
  by_cases h0 : spanE l s = 0
  · rw [elm_yes h0]
    have := counts_pw (spanE_zero.1 h0).1 s
    exact seen_sorted this.1 this.2
  · rw [elm_no h0]; exact .nil
end Go.Proofs.YtgjbnbojjgbmcaaGreat.Views

namespace Go.Proofs.YtgjbnbojjgbmcaaGreat.Edits
open Ops Stamp Bags Marks Homes Covers Views Go.Proofs.YtgjbnbojjgbmcaaGreat.Place
/-- A new content operation: what is asked of it. -/
structure New (l : List Opn) (t : Nat) (o : Opn) : Prop where
  bag : Bag l
  old : Old l t
  may : mayO o = true
  new : t < o.t
  room : (withO l o).length ≤ 1024
  cont : contB o = true
theorem New.no {l : List Opn} {t : Nat} {o : Opn} (h : New l t o) : hasO l (idO o) = false := by
  cases hh : hasO l (idO o) with
  | false => rfl
  | true =>
    obtain ⟨x, hx, e⟩ := hasO_iff.1 hh
    have h1 := h.old x hx
    have h2 := (idO_eq.1 e).1
    have h3 := h.new
    omega
theorem New.bagw {l : List Opn} {t : Nat} {o : Opn} (h : New l t o) : Bag (withO l o) := bag_withO h.bag h.may h.room
theorem New.mem {l : List Opn} {t : Nat} {o x : Opn} (h : New l t o) : x ∈ withO l o ↔ x ∈ l ∨ x = o := by
  rw [mem_withO]
  constructor
  · rintro (h1 | h1)
    · exact .inl h1
    · exact .inr h1.1
  · rintro (h1 | h1)
    · exact .inl h1
    · exact .inr ⟨h1, h.no⟩
theorem New.kind {l : List Opn} {t : Nat} {o : Opn} (h : New l t o) : o.k = 1 ∨ o.k = 3 := by
  have := h.cont
  unfold contB at this
  simpa using this
theorem New.lives {l : List Opn} {t : Nat} {o : Opn} (h : New l t o) : livesM (withO l o) (withO l o) = livesM l l :=
  lives_stay h.bag h.bagw h.no (by have := h.kind; omega) (by have := h.kind; omega)
theorem New.old2 {l : List Opn} {t : Nat} {o : Opn} (h : New l t o) : Old (withO l o) o.t := fun x hx => by
  rcases h.mem.1 hx with h1 | rfl
  · have := h.old x h1; have := h.new; omega
  · exact Nat.le_refl _
theorem New.has {l : List Opn} {t : Nat} {o : Opn} (h : New l t o) (a : Id) : hasO (withO l o) a = (hasO l a || decide (a = idO o)) := by
  rw [Bool.eq_iff_iff, Bool.or_eq_true, hasO_iff, hasO_iff, decide_eq_true_iff]
  constructor
  · rintro ⟨x, hx, e⟩
    rcases h.mem.1 hx with h1 | rfl
    · exact .inl ⟨x, h1, e⟩
    · exact .inr e.symm
  · rintro (⟨x, hx, e⟩ | e)
    · exact ⟨x, h.mem.2 (.inl hx), e⟩
    · exact ⟨o, h.mem.2 (.inr rfl), e.symm⟩
/-- What counted counts, and nothing else comes to count. -/
theorem New.isB {l : List Opn} {t : Nat} {o x : Opn} (h : New l t o) (hx : x ∈ l) (s : Id) : isB (withO l o) (livesM l l) s x = isB l (livesM l l) s x := by
  rw [Bool.eq_iff_iff, isB_iff, isB_iff]
  have hu := upto_any (h.bag.2.1 x hx) (h.old x hx)
  refine forall_congr' fun k => forall_congr' fun hk => forall_congr' fun _ => ?_
  rw [h.has]
  have hkl : k < (all x.pl).length := Nat.lt_of_lt_of_le hk (Nat.sub_le _ _)
  have hb := hu _ (List.getElem_mem hkl)
  have hne : ¬ (all x.pl).getD k zid = idO o := fun e => by
    rw [List.getD_eq_getElem?_getD, List.getElem?_eq_getElem hkl] at e
    have e2 : (all x.pl)[k]'hkl = idO o := e
    rw [e2] at hb
    have := h.new
    have : o.t ≤ t := hb
    omega
  rw [decide_eq_false hne, Bool.or_false]
theorem New.count {l : List Opn} {t : Nat} {o : Opn} (h : New l t o) {s : Id} {x : Opn} :
    x ∈ countL (withO l o) (livesM l l) s ↔ x ∈ countL l (livesM l l) s ∨ x = o ∧ homeM (livesM l l) o.pl = s ∧ Covers.isB (withO l o) (livesM l l) s o = true := by
  rw [mem_countL, mem_countL, h.mem]
  constructor
  · rintro ⟨⟨h1 | rfl, h2, h3⟩, h4⟩
    · rw [h.isB h1] at h4
      exact .inl ⟨⟨h1, h2, h3⟩, h4⟩
    · exact .inr ⟨rfl, h3, h4⟩
  · rintro (⟨⟨h1, h2, h3⟩, h4⟩ | ⟨rfl, h3, h4⟩)
    · exact ⟨⟨.inl h1, h2, h3⟩, by rw [h.isB h1]; exact h4⟩
    · exact ⟨⟨.inr rfl, h.cont, h3⟩, h4⟩
/-- Elsewhere all counts as it did. -/
theorem New.other {l : List Opn} {t : Nat} {o : Opn} (h : New l t o) {s : Id} (hs : homeM (livesM l l) o.pl ≠ s) : countL (withO l o) (livesM l l) s = countL l (livesM l l) s := by
  refine pw_ext (h.bagw.2.2.sublist (countL_sub _ _ _)) (h.bag.2.2.sublist (countL_sub _ _ _)) (fun x => ?_)
  rw [h.count]
  exact ⟨fun hx => hx.elim id (fun h2 => absurd h2.2.1 hs), .inl⟩
theorem spanE_new {l : List Opn} {t : Nat} {o : Opn} (h : New l t o) (s : Id) : spanE (withO l o) s = 0 ↔ spanE l s = 0 := by
  rw [spanE_zero, spanE_zero, h.lives]
  exact ⟨fun h2 => ⟨h.bag, h2.2⟩, fun h2 => ⟨h.bagw, h2.2⟩⟩
theorem New.elm_other {l : List Opn} {t : Nat} {o : Opn} (h : New l t o) {s : Id} (hs : homeM (livesM l l) o.pl ≠ s) : elmL (withO l o) s = elmL l s := by
  by_cases h0 : spanE l s = 0
  · rw [elm_yes h0, elm_yes ((spanE_new h s).2 h0), h.lives, h.other hs]
  · rw [elm_no h0, elm_no (fun h2 => h0 ((spanE_new h s).1 h2))]
end Go.Proofs.YtgjbnbojjgbmcaaGreat.Edits

namespace Go.Proofs.YtgjbnbojjgbmcaaGreat.Edits
open Ops Stamp Bags Marks Homes Covers Views Go.Proofs.YtgjbnbojjgbmcaaGreat.Place
theorem all_mk {l : List Opn} {j : Nat} (hl : Bag l) (hj : j < (livesM l l).length + 1) : spanE l (sec l j) = 0 := sect_where hl hj
theorem last_getD {p : List Id} {z : Id} (h : p.getLast? = some z) {k : Nat} (hk : k + 1 = p.length) : p.getD k zid = z := by
  rw [List.getLast?_eq_getElem?] at h
  rw [List.getD_eq_getElem?_getD, show k = p.length - 1 by omega, h]
  rfl
/-- What the place of one that counts stands on, itself too, is there. -/
theorem seen_has {l : List Opn} {s : Id} {y : Opn} (hy : y ∈ elmL l s) {k : Nat} (hk : k < (all y.pl).length) (e : homeM (livesM l l) (cutN y.pl (k + 1)) = s) : hasO l ((all y.pl).getD k zid) = true := by
  have hm := mem_elm_l hy
  have hc := (mem_elm hy).1
  unfold countsL at hc
  rw [if_pos hm.1] at hc
  have hoff : manyN y = (all y.pl).length - 1 := by
    unfold manyN offs ownB
    rw [if_pos (by simp [hm.2.2.2.2.2])]
  by_cases h : k < manyN y
  · exact count_has hc h e
  · rw [last_getD (last_tgt hm.2.2.2.2.1) (by omega), ins_tgt hm.2.2.2.2.1 hm.2.2.2.2.2]
    exact hasO_iff.2 ⟨y, hm.2.2.1, rfl⟩
theorem mem_seen {l : List Opn} {s : Id} (h0 : spanE l s = 0) {y : Opn} : y ∈ elmL l s ↔ y ∈ countL l (livesM l l) s ∧ y.k = 1 ∧ goneM (countL l (livesM l l) s) (idO y) = false := by
  rw [elm_yes h0]
  exact mem_seenF
/-- One of the bag with the stamp of another one is that one. -/
theorem same_op {l : List Opn} (hl : Bag l) {x y : Opn} (hx : x ∈ l) (hy : y ∈ l) (h : idO x = idO y) : x = y := by
  have h1 := findO_mem hl.2.2 hx
  have h2 := findO_mem hl.2.2 hy
  rw [h, h2] at h1
  exact (Option.some.inj h1).symm
end Go.Proofs.YtgjbnbojjgbmcaaGreat.Edits

namespace Go.Proofs.YtgjbnbojjgbmcaaGreat.Edits
open Ops Stamp Bags Marks Homes Covers Views Go.Proofs.YtgjbnbojjgbmcaaGreat.Place
theorem fil_two (o : Opn) : ∀ l : List Opn, (l.filter (fun x => decide (lessO x o))).length + (l.filter (fun x => decide (lessO o x))).length ≤ l.length
  | [] => by simp
  | x :: l => by
    have ih := fil_two o l
    rw [List.filter_cons, List.filter_cons]
    by_cases a : lessO x o
    · have b : ¬ lessO o x := by unfold lessO at *; omega
      rw [if_pos (decide_eq_true a), if_neg (by simpa using b)]
      simp only [List.length_cons]
      omega
    · rw [if_neg (by simpa using a)]
      by_cases b : lessO o x
      · rw [if_pos (decide_eq_true b)]
        simp only [List.length_cons]
        omega
      · rw [if_neg (by simpa using b)]
        simp only [List.length_cons]
        omega
theorem withO_len (l : List Opn) (o : Opn) : (withO l o).length ≤ l.length + 1 := by
  unfold withO
  split
  · omega
  · rw [List.length_append, List.length_cons]
    have := fil_two o l
    omega
def puts (l : List Opn) (os : List Opn) : List Opn := os.foldl withO l
theorem puts_cons (l : List Opn) (o : Opn) (os : List Opn) : puts l (o :: os) = puts (withO l o) os := rfl
theorem sec_new {l : List Opn} {t : Nat} {o : Opn} (h : New l t o) (j : Nat) : sec (withO l o) j = sec l j := by unfold sec; rw [h.lives]
end Go.Proofs.YtgjbnbojjgbmcaaGreat.Edits

namespace Go.Proofs.YtgjbnbojjgbmcaaGreat.Homes
open Go.RowKit Go.WideShapes Stamp Go.Proofs.YtgjbnbojjgbmcaaGreat.Place Ops Codes Bags Marks
attribute [local go_sem ↓] Go.wp_at_zero Go.wp_at_succ
attribute [local go_sem] yielded_undef
/-- Stamps of the call's own, and an error. -/
def AllI (L : List Id) (x : Int) (w : World) (e : Ending) (w' : World) : Prop := ∃ ao cap, e = .returned (.tuple #[.slice ao L.length cap, .int .i64 x]) ∧ OwnI w' w.heap.size (.slice ao L.length cap) L ∧ Below w.heap.size w w'
end Go.Proofs.YtgjbnbojjgbmcaaGreat.Homes

namespace Go.Proofs.YtgjbnbojjgbmcaaGreat.Homes
open Go.RowKit Go.WideShapes Stamp Go.Proofs.YtgjbnbojjgbmcaaGreat.Place Ops Codes Bags Marks
attribute [local go_sem ↓] Go.wp_at_zero Go.wp_at_succ
attribute [local go_sem] yielded_undef
theorem sects_take_succ {live : List Opn} {j : Nat} (h : j < live.length + 1) : (sectsM live).take (j + 1) = (sectsM live).take j ++ [(sectsM live).getD j zid] := by
  have h2 : j < (sectsM live).length := by rw [sectsM_len]; exact h
  rw [List.take_succ_eq_append_getElem h2, getD_get h2]
set_option maxRecDepth 100000 in
set_option maxHeartbeats 4000000 in
theorem hAll_any {v : Value} {l : List Opn} {w : World} (hv : OpL w v l) : Calls Tryz.prog 25 #[v] w (AllI (allL l) (chkL l) w) := by
  have LV : Hid (Calls Tryz.prog 36 #[v] w (DoneN (liveL l) (chkL l) w)) := mLive_any hv
  clear hv
  by_cases hb : Bag l
  rotate_left
  · have e2 : allL l = [] := by unfold allL; rw [bagB_no hb]; rfl
    rw [e2]
    rw [chkL_no hb, live_no hb] at LV
    rw [chkL_no hb]
    clear e2 hb
    go_enter Tryz.func25, Tryz.ntmps25
    go_wp2_with fail
    refine LV.out.mono ?_
    rintro e w1 ⟨v1, rfl, o1, b1⟩
    have B1 := Lib.hid b1
    clear b1 o1 LV
    go_wp2
    go_ret2
    exact ⟨_, _, rfl, World.ownsRow_nil _ _ _ _, B1.out⟩
  have e2 : allL l = sectsM (livesM l l) := by unfold allL; rw [(bagB_iff l).2 hb]; rfl
  rw [e2]
  rw [chkL_yes hb, live_yes hb] at LV
  rw [chkL_yes hb]
  have hlen := (lives_fits hb).1
  obtain ⟨V, hV⟩ : ∃ V, livesM l l = V := ⟨_, rfl⟩
  rw [hV] at LV hlen ⊢
  have NA : Hid (∀ (W : World) (y : Value) (i : Nat), i < V.length + 1 → OpL W y V → Calls Tryz.prog 62 #[y, .int .i64 (i : Int)] W fun e w' => e = .returned (.agg #[.int .u32 (((sectsM V).getD i zid).t : Int), .int .u8 (((sectsM V).getD i zid).r : Int)]) ∧ Below W.heap.size W w') := fun W y i hi h => hName_any h (by omega) i (by omega)
  have TK : Hid (∀ j, j < V.length + 1 → (sectsM V).take (j + 1) = (sectsM V).take j ++ [(sectsM V).getD j zid]) := fun j h => sects_take_succ h
  have HN : Hid (V.length + 1 = (sectsM V).length) := (sectsM_len V).symm
  have T0 : Hid ((sectsM V).take 0 = []) := rfl
  have OS : Hid (∀ (W : World) (y : Value), OwnL W w.heap.size y V → OpL W y V ∧ ∃ ao cap, y = .slice ao V.length cap) := fun W y h => ⟨h.opl, h.opl.shape⟩
  obtain ⟨L, hL⟩ : ∃ z, sectsM V = z := ⟨_, rfl⟩
  simp only [hL] at NA TK HN T0 ⊢
  obtain ⟨n, hn⟩ : ∃ n, V.length = n := ⟨_, rfl⟩
  rw [hn] at NA TK HN OS hlen
  obtain ⟨N, hNN⟩ : ∃ N, n + 1 = N := ⟨_, rfl⟩
  rw [hNN] at NA TK HN
  have hNm : N ≤ 1025 := by omega
  have e0 : (n : Int) + 1 = (N : Int) := by omega
  have e1 : IntKind.i64.wrap (N : Int) = (N : Int) := IntWalk.i64_in _ (by omega)
  clear e2 hb hV hL hn hNN
  go_enter Tryz.func25, Tryz.ntmps25
  go_wp2_with fail
  refine LV.out.mono ?_
  rintro e w1 ⟨v1, rfl, o1, b1⟩
  obtain ⟨ol, ao, cap, rfl⟩ := OS.out _ _ o1
  have B1 := Lib.hid b1
  have V1 : Hid (∀ W : World, Below w1.heap.size w1 W → OpL W (.slice ao n cap) V) := fun W h => ol.keeps h
  have S0 : Hid (Shr idE 28 w1 w1 (.slice none 0 0) (L.take 0)) := by
    unfold Hid
    rw [T0.out]
    exact ⟨[], World.ownsRow_nil _ _ _ _, rfl⟩
  have M0 : Hid (0 = (L.take 0).length) := by unfold Hid; rw [T0.out]; rfl
  have Z1 : Hid (Below w1.heap.size w1 w1) := Below.refl _ _
  clear b1 o1 ol LV OS T0
  go_wp2
  go_loopw [6, 19] (fun v i wr => ∃ j : Nat, j ≤ N ∧ i = .int .i64 (j : Int) ∧ (∃ ao cap, v = .slice ao j cap) ∧ Hid (Shr idE 28 w1 wr v (L.take j)) ∧ Hid (Below w1.heap.size w1 wr)) (fun _ i _ => N - (intOf i).toNat)
  case atStart => exact ⟨0, by omega, rfl, ⟨_, _, rfl⟩, S0, Z1⟩
  case round =>
    clear S0 Z1 M0
    obtain ⟨j, hj, rfl, ⟨aoL, capL, rfl⟩, hshr, hbel⟩ := hrel
    by_cases hjn : j < N
    rotate_left
    · have q3 : decide (j < N) = false := by simpa using hjn
      have hkk : L.take j = L := List.take_of_length_le (by have := HN.out; omega)
      obtain rfl : j = N := by omega
      rw [hkk] at hshr
      have SO : Hid (OwnI wr w.heap.size (.slice aoL j capL) L) := op_base (OwnI.of hshr.out) B1.out.size
      have BE := Lib.hid (bt B1.out hbel.out)
      have HNL : Hid (∀ a c, Value.slice a j c = Value.slice a L.length c) := fun a c => by rw [HN.out]
      clear hkk hshr NA TK V1
      go_wp2
      go_ret2
      refine ⟨aoL, capL, ?_, ?_, BE.out⟩
      · rw [← HNL.out]; rfl
      · rw [← HNL.out]; exact SO.out
    have q3 : decide (j < N) = true := by simpa using hjn
    have NX := Lib.hid (NA.out wr _ j hjn (V1.out wr hbel.out))
    have FT := Lib.hid (TK.out j hjn)
    obtain ⟨x, hx⟩ : ∃ x, L.getD j zid = x := ⟨_, rfl⟩
    rw [hx] at NX FT
    have INN : Hid (idE.inn w1 [.int .u32 (x.t : Int), .int .u8 (x.r : Int)] x) := rfl
    have HM : Hid (j = (L.take j).length) := by unfold Hid; rw [List.length_take, ← HN.out]; omega
    obtain ⟨t, ht⟩ : ∃ z, x.t = z := ⟨_, rfl⟩
    obtain ⟨r, hr⟩ : ∃ z, x.r = z := ⟨_, rfl⟩
    rw [ht, hr] at INN NX
    clear hx ht hr
    go_wp2_with fail
    refine NX.out.mono ?_
    rintro e wq ⟨rfl, bq⟩
    have SQ := Lib.hid (hshr.out.keeps bq)
    have BQ := Lib.hid (bt hbel.out bq)
    have HZ : Hid (w1.heap.size ≤ wq.heap.size) := BQ.out.size
    clear bq hshr hbel NX
    go_wp2_with (at_builtin; refine wpList_append_enc (E := idE) Tryz.underlying58 id_info rfl (w0 := w1) (wp := wq) (by rfl) (.tmp 22) (.tmp 26) (by rfl) (by rfl) SQ.out (G := wq.heap.size) (by rfl) rfl (c := #[.int .u32 (t : Int), .int .u8 (r : Int)]) INN.out HM.out (by omega) (by omega) HZ.out ?_)
    rintro v6 w6 s6 va vc rfl b6
    have S6 := Lib.hid s6
    rw [← FT.out] at S6
    have B6 := Lib.hid (BQ.out.trans b6)
    clear s6 b6 SQ BQ
    go_wp2
    go_roundw
    case rel => exact ⟨j + 1, by omega, by go_num, ⟨va, vc, rfl⟩, S6, B6⟩
    case measure => simp [intOf]; omega
end Go.Proofs.YtgjbnbojjgbmcaaGreat.Homes

namespace Go.Proofs.YtgjbnbojjgbmcaaGreat.Views
open Go.RowKit Go.WideShapes Stamp Go.Proofs.YtgjbnbojjgbmcaaGreat.Place Ops Codes Bags Marks Homes Covers
attribute [local go_sem ↓] Go.wp_at_zero Go.wp_at_succ
attribute [local go_sem] yielded_undef
theorem ins_pt {o : Opn} (h : mayO o = true) (hk : o.k = 1) : Point.IsPt o.p := by
  have h3 := (mayO_parts h).2.2
  unfold kindB kindF at h3
  rw [if_pos hk, Bool.and_eq_true] at h3
  exact of_decide_eq_true h3.2
theorem wordM_snoc {c : List Opn} {j : Nat} (h : j < c.length) : wordM (c.take (j + 1)) = wordM (c.take j) ++ Point.enc (c[j]'h).p := by
  unfold wordM
  rw [List.take_succ_eq_append_getElem h, List.map_append, Point.flat_append]
  simp [Point.flat]
theorem wordM_len (c : List Opn) : (wordM c).length ≤ 4 * c.length := by
  unfold wordM
  have := (Point.flat_len (c.map (·.p))).2
  rwa [List.length_map] at this
end Go.Proofs.YtgjbnbojjgbmcaaGreat.Views

namespace Go.Proofs.YtgjbnbojjgbmcaaGreat.Strb
open Go.RowKit
abbrev Is (B b : Nat) (l : List UInt8) (w : World) : Prop := Lib.IsBuilderF 119 5 B b (Lib.byteCells l) w
theorem size_b : (Tryz.prog.info? 119).map (·.size) = some 2 := by kernel_rfl
theorem lies_b : liesAt Tryz.prog Tryz.prog.depth 119 (2 / Tryz.prog.cellsOf 119) 0 119 1 = true := by kernel_rfl
set_option maxHeartbeats 1000000 in
set_option maxRecDepth 100000 in
theorem copyCheck_used (b : Nat) (w : World) (h0 : w.cell? ⟨b, 0, none⟩ = some (.pointer (some ⟨b, 0, none⟩))) :
    Calls Tryz.prog 118 #[.pointer (some ⟨b, 0, none⟩)] w fun e w' => e = .returned (.tuple #[]) ∧ w' = w := by
  obtain ⟨j, hj, _⟩ := Option.map_eq_some_iff.1 size_b
  go_enter Tryz.func118, Tryz.ntmps118
  go_wp2
  rw [Lib.run_neq_ptr_same w _ Tryz.underlying117 hj]
  go_wp2
  go_end0
  exact ⟨rfl, rfl⟩
set_option maxHeartbeats 1000000 in
set_option maxRecDepth 100000 in
theorem copyCheck_fresh (b : Nat) (w : World) (h0 : w.cell? ⟨b, 0, none⟩ = some (.pointer none)) (hsh : w.shape? b = some (119, 2)) (hfz : w.frozen? ⟨b, 0, none⟩ = false) :
    Calls Tryz.prog 118 #[.pointer (some ⟨b, 0, none⟩)] w fun e w' => e = .returned (.tuple #[]) ∧ w' = w.setCell ⟨b, 0, none⟩ (.pointer (some ⟨b, 0, none⟩)) := by
  obtain ⟨j, hj, hjs⟩ := Option.map_eq_some_iff.1 size_b
  go_enter Tryz.func118, Tryz.ntmps118
  go_wp2
  rw [Lib.run_to_unsafe w ⟨b, 0, none⟩ Tryz.underlying117 Tryz.underlying215 hj (by rw [hjs]; decide) hsh (Nat.zero_lt_succ 1)]
  simp only [Result.andThen]
  rw [Oper.upon_value]
  go_wp2
  rw [run_callFunc_extern Tryz.func168 (by kernel_rfl) (by kernel_rfl) (by kernel_rfl) (e := Extern.AbiNoEscape.same) (by kernel_rfl)]
  rw [Lib.run_noEscape]
  simp only [Result.andThen]
  rw [Oper.upon_value]
  go_wp2
  rw [Lib.run_from_unsafe w ⟨b, 0, none⟩ Tryz.underlying215 Tryz.underlying117 hj hsh lies_b]
  simp only [Result.andThen]
  rw [Oper.upon_value]
  go_wp2
  go_end0
  exact ⟨rfl, rfl⟩
theorem copyCheck_any (B b : Nat) (l : List Value) (w : World) (h : Lib.IsBuilderF 119 5 B b l w) :
    Calls Tryz.prog 118 #[.pointer (some ⟨b, 0, none⟩)] w fun e w' => e = .returned (.tuple #[]) ∧ Lib.BuilderAtF 119 5 B b (.pointer (some ⟨b, 0, none⟩)) l w' ∧ Below B w w' ∧ Lib.OthersKept 5 (some b) w w' := by
  rcases h with h | h
  · refine (copyCheck_fresh b w h.cell0 h.shape h.frozen0).mono ?_
    rintro e w' ⟨rfl, rfl⟩
    exact ⟨rfl, h.used _, (Below.refl B w).setCell (p := ⟨b, 0, none⟩) h.1 _, (Lib.OthersKept.refl _ _ w).setCell ⟨b, 0, none⟩ rfl _⟩
  · refine (copyCheck_used b w h.cell0).mono ?_
    rintro e w' ⟨rfl, rfl⟩
    exact ⟨rfl, h, Below.refl B _, Lib.OthersKept.refl _ _ _⟩
set_option maxHeartbeats 4000000 in
set_option maxRecDepth 100000 in
theorem writeRune_any (B b : Nat) (l : List UInt8) (r : Int) (hr0 : -2147483648 ≤ r) (hr1 : r ≤ 2147483647) (w : World) (h : Is B b l w) (hlen : l.length + 4 ≤ 140737488355328) (hBw : B ≤ w.heap.size) :
    Calls Tryz.prog 68 #[.pointer (some ⟨b, 0, none⟩), .int .i32 r] w fun e w' => (∃ v, e = .returned v) ∧ Is B b (l ++ Lib.encodeRune r) w' ∧ Below B w w' ∧ Lib.OthersKept 5 (some b) w w' := by
  have hk4 := Lib.runeCells_le r
  obtain ⟨xs, hxs⟩ : ∃ xs, xs = Lib.byteCells l := ⟨_, rfl⟩
  have hxl : xs.length = l.length := by rw [hxs, Lib.byteCells_length]
  have HX := Lib.hid hxs
  unfold Is at h
  rw [← hxs] at h
  rw [← hxl] at hlen
  clear hxs hxl
  go_enter Tryz.func68, Tryz.ntmps68
  go_wp2_with fail
  refine (copyCheck_any B b xs _ h).mono ?_
  rintro e w1 ⟨rfl, h1, hb1, hk1⟩
  obtain ⟨hB, v, hbk, hown, hne⟩ := h1
  obtain ⟨ao, cap, rfl⟩ : ∃ ao cap, v = .slice ao xs.length cap := by
    rcases hown.2 with ⟨hv, h0⟩ | ⟨g, cap, cur, fz, hv, _⟩
    · exact ⟨none, 0, by rw [hv, h0]⟩
    · exact ⟨_, _, hv⟩
  have c0 : w1.cell? ⟨b, 0, none⟩ = some (.pointer (some ⟨b, 0, none⟩)) := by rw [Lib.cell_of_heap hbk]; rfl
  have c1 : w1.cell? ⟨b, 1, none⟩ = some (.slice ao xs.length cap) := by rw [Lib.cell_of_heap hbk]; rfl
  go_wp2_with fail
  refine (Tryz.utf8_AppendRune_row B _ xs.length xs r hr0 hr1 _ hown hlen (by have := hb1.size; omega)).mono ?_
  rintro e w2 ⟨v', rfl, hown', o, hgrow⟩
  have hlt : b < w1.heap.size := by
    rcases Nat.lt_or_ge b w1.heap.size with h' | h'
    · exact h'
    · simp [Array.getElem?_eq_none h'] at hbk
  have hb2 : w2.heap[b]? = some (.cells #[.pointer (some ⟨b, 0, none⟩), .slice ao xs.length cap] 119 (0, 0)) := by
    rw [hgrow.block b (by simp; omega) (fun e => hne e.symm), Lib.alloc_old w1 _ b hlt]
    exact hbk
  have d0 : w2.cell? ⟨b, 0, none⟩ = some (.pointer (some ⟨b, 0, none⟩)) := by rw [Lib.cell_of_heap hb2]; rfl
  have d1 : w2.cell? ⟨b, 1, none⟩ = some (.slice ao xs.length cap) := by rw [Lib.cell_of_heap hb2]; rfl
  have f1 : w2.frozen? ⟨b, 1, none⟩ = false := Lib.frozen_of_heap hb2 1
  obtain ⟨g, cap', rfl⟩ : ∃ g cap', v' = .slice (some ⟨g, 0, none⟩) (xs.length + (Lib.runeCells r).length) cap' := by
    rcases hown'.2 with ⟨_, h0⟩ | ⟨g, cap', cur, fz, hv, _⟩
    · omega
    · exact ⟨g, cap', hv⟩
  go_wp2
  go_ret2
  refine ⟨⟨_, rfl⟩, ?_, ?_, ((hk1.alloc _).grown hgrow (Lib.ownsRowF_kind (hown.alloc _))).setCell ⟨b, 1, none⟩ rfl _⟩
  · right
    rw [Lib.byteCells_append, Lib.byteCells_encodeRune, ← HX.out]
    exact Lib.BuilderAtF.put (T := 119) (e := 5) hB hb2 (bs' := xs ++ Lib.runeCells r) (by simpa using hown') (by decide)
  · exact ((hb1.alloc (by have := hb1.size; omega) _).grown hgrow (by have := hb1.size; simp; omega) (fun k hk => (hown.lt k hk).1)).setCell (p := ⟨b, 1, none⟩) hB _
end Go.Proofs.YtgjbnbojjgbmcaaGreat.Strb

namespace Go.Proofs.YtgjbnbojjgbmcaaGreat.Views
open Go.RowKit Go.WideShapes Stamp Go.Proofs.YtgjbnbojjgbmcaaGreat.Place Ops Codes Bags Marks Homes Covers
attribute [local go_sem ↓] Go.wp_at_zero Go.wp_at_succ
attribute [local go_sem] yielded_undef
theorem is_below {B b : Nat} {l : List UInt8} {W W' : World} (h : Strb.Is B b l W) (hb : Below W.heap.size W W') : Strb.Is B b l W' := by
  have one : ∀ {p : Value}, Lib.BuilderAtF 119 5 B b p (Lib.byteCells l) W → Lib.BuilderAtF 119 5 B b p (Lib.byteCells l) W' := by
    intro p h
    have hlt := h.lt
    obtain ⟨h1, v, h2, h3, h4⟩ := h
    have hg : W.grownBy W' none := ⟨hb.os, hb.tape, hb.output, hb.size, fun k hk _ => hb.block k hk⟩
    exact ⟨h1, v, (hb.block b hlt).trans h2, h3.kept hg (Classical.em _), h4⟩
  rcases h with h | h
  · exact .inl (one h)
  · exact .inr (one h)
set_option maxRecDepth 1000000 in
set_option maxHeartbeats 8000000 in
theorem vText_any {v : Value} {l : List Opn} (s : Id) {w : World} (hv : OpL w v l) : Calls Tryz.prog 30 #[v, .agg #[.int .u32 (s.t : Int), .int .u8 (s.r : Int)]] w fun e w' => e = .returned (.tuple #[.string (str (textL l s)), .int .i64 (spanE l s)]) ∧ Below w.heap.size w w' := by
  obtain ⟨wl, hwl⟩ : ∃ x, x = w.alloc (.cells #[.int .u32 (s.t : Int), .int .u8 (s.r : Int)] 28) := ⟨_, rfl⟩
  have B0 : Hid (Below w.heap.size w wl) := by rw [hwl]; exact (Below.refl _ _).alloc (Nat.le_refl _) _
  have Y0 : Hid (wl.heap[w.heap.size]? = some (.cells #[.int .u32 (s.t : Int), .int .u8 (s.r : Int)] 28)) := by rw [hwl]; exact blk_new rfl
  have HW := Lib.hid hwl
  have EL : Hid (Calls Tryz.prog 23 #[v, .agg #[.int .u32 (s.t : Int), .int .u8 (s.r : Int)]] wl (DoneOE (elmL l s) (spanE l s) wl)) := vElements_any s (hv.keeps B0.out)
  have HT : Hid (spanE l s ≠ 0 → textL l s = []) := fun h => by unfold textL; rw [elm_no h]; rfl
  have HP : Hid (∀ o ∈ elmL l s, Point.IsPt o.p) := fun o ho => ins_pt (mem_elm_l ho).2.2.2.2.1 (mem_elm_l ho).2.2.2.2.2
  have hlen := (elm_fits l s).1
  have hT0 : textL l s = wordM (elmL l s) := rfl
  rw [hT0] at HT ⊢
  unfold DoneOE at EL
  obtain ⟨L, hL⟩ : ∃ L, elmL l s = L := ⟨_, rfl⟩
  obtain ⟨x, hx⟩ : ∃ x, spanE l s = x := ⟨_, rfl⟩
  rw [hL, hx] at EL
  rw [hL] at HP hlen
  rw [hL, hx] at HT ⊢
  clear hv hwl hL hx hT0
  obtain ⟨ts, rs, hts, hrs⟩ := s
  simp only at Y0 HW EL ⊢
  by_cases h0 : x = 0
  rotate_left
  · have q0 : (x != 0) = true := by simpa using h0
    have q1 : decide (x = 0) = false := decide_eq_false h0
    have e0 : (str (wordM L) : ByteArray) = { data := #[] } := by rw [HT.out h0]; rfl
    rw [e0]
    clear e0 HT HP
    have d0 := cell_of_row _ _ 0 _ _ _ Y0.out
    have d1 := cell_of_row _ _ 1 _ _ _ Y0.out
    go_enter Tryz.func30, Tryz.ntmps30
    go_wp2_with fail
    rw [← HW.out]
    refine EL.out.mono ?_
    rintro e w1 ⟨v1, rfl, o1, b1⟩
    have B1 := Lib.hid (bt B0.out b1)
    clear b1 o1 Y0 B0 HW EL d0 d1
    go_wp2
    exact bodyPost_ret (v := .tuple #[.string { data := #[] }, .int .i64 x]) (by simp [results, Tryz.results30, go_sem]) rfl ⟨rfl, B1.out⟩
  subst h0
  clear HT
  obtain ⟨n, hn⟩ : ∃ n, L.length = n := ⟨_, rfl⟩
  have HN := Lib.hid hn
  rw [hn] at hlen
  have d0 := cell_of_row _ _ 0 _ _ _ Y0.out
  have d1 := cell_of_row _ _ 1 _ _ _ Y0.out
  go_enter Tryz.func30, Tryz.ntmps30
  go_wp2_with fail
  rw [← HW.out]
  refine EL.out.mono ?_
  rintro e w1 ⟨v1, rfl, o1, b1⟩
  obtain ⟨ea, ec, rfl⟩ := o1.el.shape
  have HV : Hid (∀ W : World, Below w1.heap.size w1 W → ElL W (.slice ea L.length ec) L) := fun W h => o1.el.keeps h
  have B1 := Lib.hid (bt B0.out b1)
  rw [hn] at HV ⊢
  have hB1 : Hid (w.heap.size ≤ w1.heap.size) := B1.out.size
  clear b1 o1 Y0 B0 HW EL d0 d1 hn
  have Z0 : Hid (Strb.Is w1.heap.size w1.heap.size (wordM (L.take 0)) (w1.alloc (.cells #[.pointer none, .slice none 0 0] 119))) := Lib.IsBuilderF.of (Lib.fresh_isBuilder _ _ w1)
  have Z1 : Hid (Below w1.heap.size w1 (w1.alloc (.cells #[.pointer none, .slice none 0 0] 119))) := (Below.refl _ _).alloc (Nat.le_refl _) _
  go_wp2
  go_loopw [22] (fun i wr => ∃ j : Nat, j ≤ n ∧ i = .int .i64 (j : Int) ∧ Hid (Strb.Is w1.heap.size w1.heap.size (wordM (L.take j)) wr) ∧ Hid (Below w1.heap.size w1 wr)) (fun i _ => n - (intOf i).toNat)
  case atStart => exact ⟨0, by omega, rfl, Z0, Z1⟩
  case round =>
    clear Z0 Z1
    obtain ⟨j, hj, rfl, hbu, hbm⟩ := hrel
    have hsz : w1.heap.size ≤ wr.heap.size := hbm.out.size
    by_cases hjn : j < n
    rotate_left
    · have q3 : decide (j < n) = false := by simpa using hjn
      have hkk : L.take j = L := List.take_of_length_le (by have := HN.out; omega)
      rw [hkk] at hbu
      clear hkk HV HP
      go_wp2_with fail
      refine (Tryz.Builder_String_any_k w1.heap.size w1.heap.size (wordM L) _ hbu.out hsz).mono ?_
      rintro e w3 ⟨rfl, _, g2, _⟩
      have G2 : Hid (Below w.heap.size w w3) := B1.out.trans ((hbm.out.trans g2).mono hB1.out)
      clear g2
      go_wp2
      exact bodyPost_ret (v := .tuple #[.string (str (wordM L)), .int .i64 0]) (by simp [results, Tryz.results30, go_sem]; rfl) rfl ⟨rfl, G2.out⟩
    have q3 : decide (j < n) = true := by simpa using hjn
    have q4 : (0 : Int) ≤ (j : Int) := by omega
    have q5 : (j : Int) < (n : Int) := by omega
    have hjl : j < L.length := by rw [HN.out]; exact hjn
    obtain ⟨bb, oo, u, e, hbb, hru, h0, h1, h2, h3⟩ := el_at (ao := ea) (m := n) (cap := ec) (HV.out wr hbm.out) j hjl
    subst e
    have hpt := HP.out _ (List.getElem_mem hjl)
    have HWS := Lib.hid (wordM_snoc hjl)
    have hwl := wordM_len (L.take j)
    rw [List.length_take] at hwl
    have hfl : (wordM (L.take j)).length ≤ 4096 := by omega
    obtain ⟨uo, uc, rfl⟩ := hru.shape
    obtain ⟨nu, hnu⟩ : ∃ z, (L[j]'hjl).pl.length = z := ⟨_, rfl⟩
    obtain ⟨t, ht⟩ : ∃ z, (L[j]'hjl).t = z := ⟨_, rfl⟩
    obtain ⟨r, hr⟩ : ∃ z, (L[j]'hjl).r = z := ⟨_, rfl⟩
    obtain ⟨p, hp⟩ : ∃ p, (L[j]'hjl).p = p := ⟨_, rfl⟩
    rw [hnu] at h2
    rw [ht] at h0
    rw [hr] at h1
    rw [hp] at h3 hpt HWS
    have x1 : -2147483648 ≤ p := by have := hpt.1; omega
    have x2 : p ≤ 2147483647 := by have := hpt.2.1; omega
    have w1' : IntKind.i32.wrap p = p := IntWalk.i32_in _ (by omega)
    have BL : Hid (Below wr.heap.size wr (wr.alloc (.cells #[.int .u32 (t : Int), .int .u8 (r : Int), .slice uo nu uc, .int .i64 p] 91))) := (Below.refl _ _).alloc (Nat.le_refl _) _
    have BU := Lib.hid (is_below hbu.out BL.out)
    have BW := Lib.hid (bt hbm.out BL.out)
    have hs2 : Hid (w1.heap.size ≤ (wr.alloc (.cells #[.int .u32 (t : Int), .int .u8 (r : Int), .slice uo nu uc, .int .i64 p] 91)).heap.size) := BW.out.size
    clear hru hnu ht hr hp hwl hbb hbu HV HP hpt BL
    go_wp2_with fail
    refine (Strb.writeRune_any w1.heap.size w1.heap.size _ p x1 x2 _ BU.out (by omega) hs2.out).mono ?_
    rintro e w3 ⟨⟨y, rfl⟩, g1, g2, g3⟩
    have G1 : Hid (Strb.Is w1.heap.size w1.heap.size (wordM (L.take (j + 1))) w3) := by
      unfold Hid
      rw [HWS.out]
      exact g1
    have G2 : Hid (Below w1.heap.size w1 w3) := BW.out.trans g2
    clear g1 g2 g3 BU BW hs2 HWS h0 h1 h2 h3
    go_wp2
    go_roundw
    case rel => exact ⟨j + 1, by omega, by go_num, G1, G2⟩
    case measure => simp [intOf]; omega
end Go.Proofs.YtgjbnbojjgbmcaaGreat.Views

namespace Go.Proofs.YtgjbnbojjgbmcaaGreat
open Go.RowKit Go.WideShapes
theorem run_copy_sz {P : Program} (w : World) (dT sT ty elem : TypeId) (g o dLen dCap n sz : Nat) (a : Addr) (sLen sCap : Nat) (cur : Array Value) (t : TypeId) (cs : List Value)
    (hu : P.underlying dT = some (.slice elem)) (hs : (P.info? elem).map (·.size) = some sz)
    (hg : w.heap[g]? = some (.cells cur t (0, 0))) (hn : Nat.min sLen dLen = n) (hl : cs.length = n * sz)
    (hsrc : ∀ j v, cs[j]? = some v → w.cell? (a.add j) = some v) (hfit : o + cs.length ≤ cur.size) (h1 : ∀ v ∈ cs, v.oneCell' = true) :
    (Builtin.copy_ #[dT, sT] ty #[.slice (some ⟨g, o, none⟩) dLen dCap, .slice (some a) sLen sCap]).run P w =
      .ok (goInt n) (w.setRow g (cur.toList.take o ++ cs ++ cur.toList.drop (o + cs.length)).toArray) := by
  have hld := run_loadCells_list (P := P) w a cs hsrc
  have hst := run_storeCells_at P g o t cs 0 cur w hg (by simpa using hfit) h1
  cases hq : P.info? elem with
  | none => simp [hq] at hs
  | some i =>
    have hi : i.size = sz := by simpa [hq] using hs
    simp [Builtin.copy_, run_underlying hu, Builtin.lenOf, Builtin.firstCells, sizeOf, typeInfo, hq, hi, hn, ← hl, hld, hst]
theorem run_copy_sz_none {P : Program} (w : World) (dT sT ty elem : TypeId) (d a : Option Addr) (dLen dCap sLen sCap sz : Nat) (hu : P.underlying dT = some (.slice elem)) (hs : (P.info? elem).map (·.size) = some sz) (hn : Nat.min sLen dLen = 0) :
    (Builtin.copy_ #[dT, sT] ty #[.slice d dLen dCap, .slice a sLen sCap]).run P w = .ok (goInt 0) w := by
  cases hq : P.info? elem with
  | none => simp [hq] at hs
  | some i =>
    have hl : ∀ (x : Addr), (loadCells x 0).run P w = .ok #[] w := fun x => by simpa using run_loadCells_list (P := P) w x [] (by simp)
    cases d <;> cases a <;> simp [Builtin.copy_, run_underlying hu, Builtin.lenOf, Builtin.firstCells, sizeOf, typeInfo, hq, hn, storeCells, hl]
theorem copied_none {w : World} {g : Nat} {cur : List Value} {off : Nat} {t : TypeId} (hg : w.heap[g]? = some (.cells cur.toArray t (0, 0))) : Copied w g cur off [] t w :=
  ⟨by simpa [splice] using hg, fun _ _ => rfl, rfl, fun _ _ => Below.refl _ _⟩
theorem copied_row {w : World} {g : Nat} {cur : List Value} {off : Nat} {cs : List Value} {t : TypeId} (hg : w.heap[g]? = some (.cells cur.toArray t (0, 0))) :
    Copied w g cur off cs t (w.setRow g (cur.toArray.toList.take off ++ cs ++ cur.toArray.toList.drop (off + cs.length)).toArray) :=
  ⟨by simpa [splice] using setRow_heap w g _ _ t _ hg, fun k hk => setRow_other w g k _ (fun h => hk h), by simp [World.setRow], fun _ hB => below_setRow (Below.refl _ _) hB _⟩
theorem run_copy_any {P : Program} (w : World) (dT sT ty elem : TypeId) (hu : P.underlying dT = some (.slice elem)) {sz : Nat} (hsz : (P.info? elem).map (·.size) = some sz) (dp sp : Option Addr) (dLen dCap sLen sCap n : Nat)
    (g off : Nat) (cur : List Value) (t : TypeId) (hg : w.heap[g]? = some (.cells cur.toArray t (0, 0))) (hn : Nat.min sLen dLen = n) (cs : List Value) (hl : cs.length = n * sz)
    (hpos : 0 < n → dp = some ⟨g, off, none⟩ ∧ ∃ ad, sp = some ad ∧ ∀ j v, cs[j]? = some v → w.cell? (ad.add j) = some v)
    (hfit : off + cs.length ≤ cur.length) (h1 : ∀ v ∈ cs, v.oneCell' = true) :
    ∃ w', (Builtin.copy_ #[dT, sT] ty #[.slice dp dLen dCap, .slice sp sLen sCap]).run P w = .ok (goInt n) w' ∧ Copied w g cur off cs t w' := by
  by_cases h0 : n = 0
  · subst h0
    obtain rfl : cs = [] := List.eq_nil_of_length_eq_zero (by omega)
    exact ⟨w, run_copy_sz_none w dT sT ty elem dp sp dLen dCap sLen sCap sz hu hsz hn, copied_none hg⟩
  · obtain ⟨rfl, ad, rfl, hsrc⟩ := hpos (by omega)
    exact ⟨_, run_copy_sz w dT sT ty elem g off dLen dCap n sz ad sLen sCap cur.toArray t cs hu hsz hg hn hl hsrc (by simpa using hfit) h1, copied_row hg⟩
theorem wpList_copy_any {P : Program} {w : World} {ops : Array Oper} {rest : List Oper} {o : Oper} {a : Act} {Q : Exit → Act → World → Prop} (hgd : o.guard = none) (d s : Operand) (dT sT : TypeId)
    (ho : o.op = .call { callee := .builtin .copy, args := #[d, s], argTypes := #[dT, sT] }) (elem : TypeId) (hu : P.underlying dT = some (.slice elem)) {sz : Nat} (hsz : (P.info? elem).map (·.size) = some sz)
    (dp sp : Option Addr) (dLen dCap sLen sCap n : Nat) (hd : a.eval d = .slice dp dLen dCap) (hs : a.eval s = .slice sp sLen sCap)
    (g off : Nat) (cur : List Value) (t : TypeId) (hg : w.heap[g]? = some (.cells cur.toArray t (0, 0))) (hn : Nat.min sLen dLen = n) (cs : List Value) (hl : cs.length = n * sz)
    (hpos : 0 < n → dp = some ⟨g, off, none⟩ ∧ ∃ ad, sp = some ad ∧ ∀ j v, cs[j]? = some v → w.cell? (ad.add j) = some v)
    (hfit : off + cs.length ≤ cur.length) (h1 : ∀ v ∈ cs, v.oneCell' = true)
    (h : ∀ w', Hid (Copied w g cur off cs t w') → wpList P ops Q rest (a.put o.dst (goInt n)) w') : wpList P ops Q (o :: rest) a w := by
  refine wpList_plain hgd fun K hK => ?_
  obtain ⟨w', hrun, hc⟩ := run_copy_any (P := P) w dT sT o.type elem hu hsz dp sp dLen dCap sLen sCap n g off cur t hg hn cs hl hpos hfit h1
  unfold Oper.wp
  simp [execOp, ho, resolve, invoke, builtin, hd, hs, hrun, Result.andThen]
  exact hK _ _ (h w' hc)
theorem step_copy_any {P : Program} {ops : Array Oper} {o : Oper} {a : Act} {w : World} {K : Act → World → Prop} {Q : Exit → Act → World → Prop} {E : Prop} (hgd : o.guard = none) (d s : Operand) (dT sT : TypeId)
    (ho : o.op = .call { callee := .builtin .copy, args := #[d, s], argTypes := #[dT, sT] }) (elem : TypeId) (hu : P.underlying dT = some (.slice elem)) {sz : Nat} (hsz : (P.info? elem).map (·.size) = some sz)
    (dp sp : Option Addr) (dLen dCap sLen sCap n : Nat) (hd : a.eval d = .slice dp dLen dCap) (hs : a.eval s = .slice sp sLen sCap)
    (g off : Nat) (cur : List Value) (t : TypeId) (hg : w.heap[g]? = some (.cells cur.toArray t (0, 0))) (hn : Nat.min sLen dLen = n) (cs : List Value) (hl : cs.length = n * sz)
    (hpos : 0 < n → dp = some ⟨g, off, none⟩ ∧ ∃ ad, sp = some ad ∧ ∀ j v, cs[j]? = some v → w.cell? (ad.add j) = some v)
    (hfit : off + cs.length ≤ cur.length) (h1 : ∀ v ∈ cs, v.oneCell' = true)
    (h : ∀ w', Hid (Copied w g cur off cs t w') → K (a.put o.dst (goInt n)) w') :
    if Region.wanted o (yielded ops a.tmps) = true then Oper.wp P o a w K Q else E := by
  have hw : Region.wanted o (yielded ops a.tmps) = true := by simp [Region.wanted, hgd]
  rw [if_pos hw]
  obtain ⟨w', hrun, hc⟩ := run_copy_any (P := P) w dT sT o.type elem hu hsz dp sp dLen dCap sLen sCap n g off cur t hg hn cs hl hpos hfit h1
  unfold Oper.wp
  simp [execOp, ho, resolve, invoke, builtin, hd, hs, hrun, Result.andThen]
  exact h w' hc
end Go.Proofs.YtgjbnbojjgbmcaaGreat

namespace Go.Proofs.YtgjbnbojjgbmcaaGreat.Codes
open Go.RowKit Go.WideShapes Go.Proofs.YtgjbnbojjgbmcaaGreat.Place Ops
def TwR (w wr : World) (l : List Opn) (c0 : List Value) (j : Nat) : Prop :=
  ∃ A, HoldP wr w.heap.size A (l.take j) ∧ wr.heap[w.heap.size]? = some (.cells (A ++ c0.drop (j * 5)).toArray 38 (0, 0))
theorem twr_len {w wr : World} {l : List Opn} {j : Nat} {A : List Value} (h : HoldP wr w.heap.size A (l.take j)) (hj : j ≤ l.length) : A.length = j * 5 := by
  rw [h.len, List.length_take, Nat.min_eq_left hj]
theorem twr_at {w wr : World} {l : List Opn} {c0 : List Value} {j : Nat} (hc : opE.rows w c0 l) (h : TwR w wr l c0 j) (hj : j < l.length) :
    ∃ v, Runs w v (l[j]'hj).pl ∧ wr.cell? ⟨w.heap.size, j * 5, none⟩ = some (.int .u8 ((l[j]'hj).k : Int)) ∧ wr.cell? ⟨w.heap.size, j * 5 + 1, none⟩ = some (.int .u32 ((l[j]'hj).t : Int)) ∧ wr.cell? ⟨w.heap.size, j * 5 + 2, none⟩ = some (.int .u8 ((l[j]'hj).r : Int)) ∧
      wr.cell? ⟨w.heap.size, j * 5 + 3, none⟩ = some v ∧ wr.cell? ⟨w.heap.size, j * 5 + 4, none⟩ = some (.int .i64 (l[j]'hj).p) := by
  obtain ⟨A, h1, h2⟩ := h
  have hl := twr_len h1 (Nat.le_of_lt hj)
  obtain ⟨c, ⟨v, rfl, hr⟩, hcs⟩ := Enc.rows_at j hj hc
  have hcell : ∀ i u, i < 5 → ([Value.int .u8 ((l[j]'hj).k : Int), .int .u32 ((l[j]'hj).t : Int), .int .u8 ((l[j]'hj).r : Int), v, .int .i64 (l[j]'hj).p][i]? = some u) → wr.cell? ⟨w.heap.size, j * 5 + i, none⟩ = some u := fun i u hi hu => by
    rw [cell_of_row wr w.heap.size (j * 5 + i) _ _ _ h2]
    have h3 := hcs i hi
    rw [show opE.sz = 5 from rfl, hu] at h3
    rw [List.getElem?_toArray, List.getElem?_append_right (by omega), hl, List.getElem?_drop, show j * 5 + (j * 5 + i - j * 5) = j * 5 + i by omega]
    exact h3
  exact ⟨v, hr, hcell 0 _ (by decide) rfl, hcell 1 _ (by decide) rfl, hcell 2 _ (by decide) rfl, hcell 3 _ (by decide) rfl, hcell 4 _ (by decide) rfl⟩
theorem twr_step {w wr W8 X : World} {l : List Opn} {c0 : List Value} {j : Nat} {x : Opn} {u : Value} (hc : opE.rows w c0 l) (h : TwR w wr l c0 j) (hj : j < l.length) (hx : x = l[j]'hj) (hb : Below wr.heap.size wr W8)
    (ho : W8.ownsRow w.heap.size 32 3 u x.pl.length (runs x.pl))
    (hX : X = (((((W8.setCell ⟨w.heap.size, j * 5, none⟩ (.int .u8 (x.k : Int))).setCell ⟨w.heap.size, j * 5 + 1, none⟩ (.int .u32 (x.t : Int))).setCell ⟨w.heap.size, j * 5 + 2, none⟩ (.int .u8 (x.r : Int))).setCell ⟨w.heap.size, j * 5 + 3, none⟩ u).setCell ⟨w.heap.size, j * 5 + 4, none⟩ (.int .i64 x.p))) :
    TwR w X l c0 (j + 1) ∧ ∀ B, B ≤ w.heap.size → Below B W8 X := by
  obtain ⟨A, h1, h2⟩ := h
  have hl := twr_len h1 (Nat.le_of_lt hj)
  have h3 := blk_below hb h2
  have hcl : c0.length = l.length * 5 := Enc.rows_len hc
  have hc8 := put5_copied (o := j * 5) (.int .u8 (x.k : Int)) (.int .u32 (x.t : Int)) (.int .u8 (x.r : Int)) u (.int .i64 x.p) h3 (by rw [List.length_append, List.length_drop, hcl, hl]; omega)
  rw [← hX] at hc8
  refine ⟨⟨A ++ [.int .u8 (x.k : Int), .int .u32 (x.t : Int), .int .u8 (x.r : Int), u, .int .i64 x.p], ?_, ?_⟩, hc8.2.2.2⟩
  · rw [List.take_succ_eq_append_getElem hj, ← hx]
    exact HoldP.append (HoldP.copied h3 hc8 (h1.keeps hb)) ⟨u, [], rfl, own_copied ho h3 (by decide) hc8, rfl⟩
  · rw [hc8.1]
    congr 3
    unfold splice
    rw [List.take_append_of_le_length (by omega), List.take_of_length_le (by omega), List.append_assoc]
    congr 2
    rw [List.drop_append, List.drop_eq_nil_of_le (by simp; omega), List.nil_append, List.drop_drop]
    congr 1
    simp; omega
end Go.Proofs.YtgjbnbojjgbmcaaGreat.Codes

namespace Go.Proofs.YtgjbnbojjgbmcaaGreat.Bags
open Go.RowKit Go.WideShapes Stamp Go.Proofs.YtgjbnbojjgbmcaaGreat.Place Ops Codes
attribute [local go_sem ↓] Go.wp_at_zero Go.wp_at_succ
set_option maxRecDepth 100000 in
set_option maxHeartbeats 8000000 in
theorem bTwinX_any {v : Value} {l : List Opn} {w : World} (hv : OpL w v l) (hl : l.length ≤ 1000000000) (hp : ∀ o ∈ l, o.pl.length ≤ 8796093022208) :
    Calls Tryz.prog 103 #[v] w fun e w' => e = .returned (.slice (some ⟨w.heap.size, 0, none⟩) l.length l.length) ∧ OwnL w' w.heap.size (.slice (some ⟨w.heap.size, 0, none⟩) l.length l.length) l ∧ Below w.heap.size w w' := by
  obtain ⟨ao, cap, rfl⟩ := hv.shape
  obtain ⟨c0, hs0, hr0⟩ := hv
  obtain ⟨n, hn⟩ : ∃ n, n = l.length := ⟨_, rfl⟩
  have HN := Lib.hid hn
  have HP := Lib.hid hp
  have HR := Lib.hid hr0
  have hcl : c0.length = n * 5 := by rw [hn]; exact Enc.rows_len hr0
  obtain ⟨Z, hZ, MK⟩ := made_opsN n (by omega)
  have HC : Hid (∀ W : World, Below w.heap.size w W → 0 < n → ∃ ad, ao = some ad ∧ ∀ j v, c0[j]? = some v → W.cell? (ad.add j) = some v) := fun W hW h0 => by
    rcases (hs0.keeps hW).2 with ⟨ao', cap', he, _, _, _, h5⟩
    obtain ⟨rfl, -, rfl⟩ := Value.slice.inj he
    rcases h5 with h5 | ⟨b, off, rfl, hb, hc⟩
    · rw [h5] at hcl; simp at hcl; omega
    · exact ⟨_, rfl, fun j v hj => by rw [add_plain]; exact hc j v hj⟩
  have HON : Hid (∀ v ∈ c0, v.oneCell' = true) := Enc.rows_one hr0
  have HCL := Lib.hid hcl
  have HZ := Lib.hid hZ
  rw [← hn]
  rw [← hn] at hl
  have B0 : Hid (Below w.heap.size w (w.alloc (.cells Z.toArray 38))) := (Below.refl _ _).alloc (Nat.le_refl _) _
  have G0 : Hid ((w.alloc (.cells Z.toArray 38)).heap[w.heap.size]? = some (.cells Z.toArray 38)) := blk_new rfl
  clear hn hp hr0 hs0 hcl hZ
  go_enter Tryz.func103, Tryz.ntmps103
  go_wp2_with (refine wpList_copy_any rfl (.tmp 9) (.tmp 10) 22 22 rfl 38 Tryz.underlying22 (sz := 5) (by kernel_rfl) (some ⟨w.heap.size, 0, none⟩) ao n n n cap n rfl rfl w.heap.size 0 Z 38 G0.out (Nat.min_self n) c0 HCL.out (fun h0 => ⟨rfl, HC.out _ B0.out h0⟩) (by rw [HCL.out, HZ.out]; omega) HON.out ?_)
  rintro w2 hc2
  have T0 : Hid (TwR w w2 l c0 0) := ⟨[], rfl, by
    rw [hc2.out.1]
    congr 3
    simp [splice, HCL.out, ← HZ.out]⟩
  have B2 : Hid (Below w.heap.size w w2) := B0.out.trans (hc2.out.2.2.2 _ (Nat.le_refl _))
  clear hc2 B0 G0 MK
  go_wp2
  go_loopw [14] (fun i wr => ∃ j : Nat, j ≤ n ∧ i = .int .i64 (j : Int) ∧ Hid (TwR w wr l c0 j) ∧ Hid (Below w.heap.size w wr)) (fun i _ => n - (intOf i).toNat)
  case atStart => exact ⟨0, by omega, rfl, T0, B2⟩
  case round =>
    clear T0 B2
    obtain ⟨j, hj, rfl, htw, hbel⟩ := hrel
    by_cases hjn : j < n
    rotate_left
    · have q3 : decide (j < n) = false := by simpa using hjn
      have R1 : Hid (OwnL wr w.heap.size (.slice (some ⟨w.heap.size, 0, none⟩) n n) l) := by
        obtain ⟨A, h1, h2⟩ := htw.out
        obtain rfl : j = n := by omega
        rw [List.take_of_length_le (by rw [← HN.out]; omega)] at h1
        exact ownl_row h2 (Nat.le_refl _) h1 HN.out (by rw [List.length_append, List.length_drop, HCL.out, h1.len, ← HN.out]; omega) (by unfold maxLen; omega)
      clear htw
      go_wp2
      go_ret
      exact ⟨rfl, R1.out, hbel.out⟩
    have q3 : decide (j < n) = true := by simpa using hjn
    have q4 : (0 : Int) ≤ (j : Int) := by omega
    have q5 : (j : Int) < (n : Int) := by omega
    have hjl : j < l.length := by rw [← HN.out]; exact hjn
    obtain ⟨u, hru, h0, h1, h2, h3, h4⟩ := twr_at HR.out htw.out hjl
    obtain ⟨x, hx⟩ : ∃ x, x = l[j]'hjl := ⟨_, rfl⟩
    have hpx : x.pl.length ≤ 8796093022208 := HP.out x (by rw [hx]; exact List.getElem_mem hjl)
    rw [← hx] at hru h0 h1 h2 h4
    obtain ⟨uo, uc, rfl⟩ := hru.shape
    obtain ⟨nu, hnu⟩ : ∃ n, n = x.pl.length := ⟨_, rfl⟩
    rw [← hnu] at hru h3
    have ST : Hid (∀ (W8 X : World) (u : Value), Below wr.heap.size wr W8 → W8.ownsRow w.heap.size 32 3 u x.pl.length (runs x.pl) → X = (((((W8.setCell ⟨w.heap.size, j * 5, none⟩ (.int .u8 (x.k : Int))).setCell ⟨w.heap.size, j * 5 + 1, none⟩ (.int .u32 (x.t : Int))).setCell ⟨w.heap.size, j * 5 + 2, none⟩ (.int .u8 (x.r : Int))).setCell ⟨w.heap.size, j * 5 + 3, none⟩ u).setCell ⟨w.heap.size, j * 5 + 4, none⟩ (.int .i64 x.p)) →
        TwR w X l c0 (j + 1) ∧ ∀ B, B ≤ w.heap.size → Below B W8 X) := fun W8 X u hb ho hX => twr_step HR.out htw.out hjl hx hb ho hX
    have HSZ : Hid (w.heap.size ≤ wr.heap.size) := hbel.out.size
    have HGB : Hid (w.heap.size < wr.heap.size) := by
      obtain ⟨A, _, g2⟩ := htw.out
      exact (Array.getElem?_eq_some_iff.1 g2).1
    have HFR : Hid (∀ (W : World) (o : Nat), Below wr.heap.size wr W → W.frozen? ⟨w.heap.size, o, none⟩ = false) := fun W o hW => by
      obtain ⟨A, _, g2⟩ := htw.out
      exact free5 (blk_below hW g2) o
    have TW : Hid (∀ W : World, Below wr.heap.size wr W → Calls Tryz.prog 81 #[opv x (.slice uo nu uc)] W fun e w' => ∃ ao cap, e = .returned (opv x (.slice ao nu cap)) ∧ w'.ownsRow w.heap.size 32 3 (.slice ao nu cap) x.pl.length (runs x.pl) ∧ Below W.heap.size W w') := fun W hW => by
      refine (oTwin_any ((hru.keeps hbel.out).keeps hW) hpx).mono ?_
      rintro e w' ⟨v', rfl, ho, hb⟩
      obtain ⟨ao', cap', rfl⟩ : ∃ ao cap, v' = .slice ao x.pl.length cap := Sees.shape (Sees.own ho)
      rw [← hnu] at ho ⊢
      exact ⟨ao', cap', rfl, op_base ho (Nat.le_trans HSZ.out hW.size), hb⟩
    have HO : Hid (∀ v : Value, opv x v = .agg #[.int .u8 (x.k : Int), .int .u32 (x.t : Int), .int .u8 (x.r : Int), v, .int .i64 x.p]) := fun v => rfl
    obtain ⟨k, hk⟩ : ∃ k, x.k = k := ⟨_, rfl⟩
    obtain ⟨t, ht⟩ : ∃ k, x.t = k := ⟨_, rfl⟩
    obtain ⟨r, hr⟩ : ∃ k, x.r = k := ⟨_, rfl⟩
    obtain ⟨p, hp⟩ : ∃ k, x.p = k := ⟨_, rfl⟩
    rw [hk, ht, hr, hp] at HO ST
    rw [hk] at h0
    rw [ht] at h1
    rw [hr] at h2
    rw [hp] at h4
    simp only [HO.out] at TW
    have BL : Hid (Below wr.heap.size wr (wr.alloc (.cells #[.int .u8 (k : Int), .int .u32 (t : Int), .int .u8 (r : Int), .slice uo nu uc, .int .i64 p] 38))) := (Below.refl _ _).alloc (Nat.le_refl _) _
    have F0 : Hid (FiveAt wr w.heap.size (j * 5) (.int .u8 (k : Int)) (.int .u32 (t : Int)) (.int .u8 (r : Int)) (.slice uo nu uc) (.int .i64 p)) := ⟨HGB.out, h0, h1, h2, h3, h4⟩
    clear hru hx hk ht hr hp hnu htw hpx
    go_wp2_with fail
    refine (TW.out _ BL.out).mono ?_
    rintro e w5 ⟨a5, c5, rfl, o5, b5⟩
    have B5 := Lib.hid (bt BL.out b5)
    have O5 := Lib.hid o5
    have hf := fun o => HFR.out w5 o B5.out
    obtain ⟨_, g0, g1, g2, g3, g4⟩ := F0.out.keeps B5.out
    clear o5 b5 h0 h1 h2 h3 h4
    go_wp2
    obtain ⟨X, hX⟩ : ∃ X, X = (((((w5.setCell ⟨w.heap.size, j * 5, none⟩ (.int .u8 (k : Int))).setCell ⟨w.heap.size, j * 5 + 1, none⟩ (.int .u32 (t : Int))).setCell ⟨w.heap.size, j * 5 + 2, none⟩ (.int .u8 (r : Int))).setCell ⟨w.heap.size, j * 5 + 3, none⟩ (.slice a5 nu c5)).setCell ⟨w.heap.size, j * 5 + 4, none⟩ (.int .i64 p)) := ⟨_, rfl⟩
    have SX := ST.out w5 X _ B5.out O5.out hX
    rw [← hX]
    have TX := Lib.hid SX.1
    have BX := Lib.hid ((bt hbel.out B5.out).trans (SX.2 _ (Nat.le_refl _)))
    clear SX hX
    go_roundw
    case rel => exact ⟨j + 1, by omega, by go_num, TX, BX⟩
    case measure => simp [intOf]; omega
end Go.Proofs.YtgjbnbojjgbmcaaGreat.Bags

namespace Go.Proofs.YtgjbnbojjgbmcaaGreat.Bags
open Ops Stamp
theorem lessI_eq {x : Opn} {a : Id} : (¬ lessI x a ∧ ¬ moreI x a) ↔ idO x = a := by
  rw [Id.eq_iff]
  show _ ↔ x.t = a.t ∧ x.r = a.r
  unfold lessI moreI; omega
theorem lessI_trans {x y : Opn} {a : Id} (h : lessO x y) (k : lessI y a) : lessI x a := by unfold lessO at h; unfold lessI at *; omega
def Pos (l : List Opn) (a : Id) (k : Nat) : Prop := k ≤ l.length ∧ (∀ i (h : i < l.length), i < k → lessI (l[i]'h) a) ∧ ∀ i (h : i < l.length), k ≤ i → ¬ lessI (l[i]'h) a
theorem pw_get {l : List Opn} (hp : l.Pairwise lessO) {i j : Nat} (hj : j < l.length) (hij : i < j) : lessO (l[i]'(by omega)) (l[j]'hj) := List.pairwise_iff_getElem.1 hp i j (by omega) hj hij
theorem lessI_mono {l : List Opn} (hp : l.Pairwise lessO) {a : Id} {i j : Nat} (hj : j < l.length) (hij : i ≤ j) (h : lessI (l[j]'hj) a) : lessI (l[i]'(by omega)) a := by
  rcases Nat.lt_or_ge i j with h1 | h1
  · exact lessI_trans (pw_get hp hj h1) h
  · obtain rfl : i = j := by omega
    exact h
theorem pos_none {l : List Opn} {a : Id} {k : Nat} (hp : l.Pairwise lessO) (h : Pos l a k) (he : ∀ hk : k < l.length, idO (l[k]'hk) ≠ a) : hasO l a = false := by
  rw [hasO_no]
  intro o ho e
  obtain ⟨i, hi, rfl⟩ := List.getElem_of_mem ho
  have h3 := (lessI_eq.2 e).1
  have h1 : k ≤ i := Nat.not_lt.1 (fun hlt => h3 (h.2.1 i hi hlt))
  rcases Nat.lt_or_ge k i with h2 | h2
  · have h4 := pw_get hp hi h2
    refine h.2.2 k (by omega) (Nat.le_refl _) ?_
    have h5 : (l[i]'hi).t = a.t ∧ (l[i]'hi).r = a.r := by rw [Id.eq_iff] at e; exact e
    unfold lessO at h4; unfold lessI; omega
  · obtain rfl : i = k := by omega
    exact he hi e
theorem pos_with {l : List Opn} {o : Opn} {k : Nat} (h : Pos l (idO o) k) (hno : hasO l (idO o) = false) : withO l o = l.take k ++ o :: l.drop k := by
  unfold withO
  rw [if_neg (by rw [hno]; decide)]
  have ht : ∀ x ∈ l.take k, lessO x o := fun x hx => by
    obtain ⟨i, hi, rfl⟩ := List.getElem_of_mem hx
    rw [List.length_take] at hi
    rw [List.getElem_take]
    exact h.2.1 i (by omega) (by omega)
  have hd : ∀ x ∈ l.drop k, lessO o x := fun x hx => by
    have hm := List.mem_of_mem_drop hx
    obtain ⟨i, hi, rfl⟩ := List.getElem_of_mem hx
    rw [List.length_drop] at hi
    have h1 : ¬ lessO _ o := h.2.2 (k + i) (by omega) (by omega)
    have h2 := hasO_no.1 hno _ hm
    rw [List.getElem_drop] at h2 ⊢
    rcases lessO_three (l[k + i]'(by omega)) o with h3 | h3 | h3
    · exact absurd h3 h1
    · exact absurd h3 h2
    · exact h3
  have e1 : l.filter (fun x => decide (lessO x o)) = l.take k := by
    conv => lhs; rw [← List.take_append_drop k l, List.filter_append]
    rw [List.filter_eq_self.2 (fun x hx => decide_eq_true (ht x hx)), List.filter_eq_nil_iff.2 (fun x hx => by simpa using lessO_asymm (hd x hx)), List.append_nil]
  have e2 : l.filter (fun x => decide (lessO o x)) = l.drop k := by
    conv => lhs; rw [← List.take_append_drop k l, List.filter_append]
    rw [List.filter_eq_self.2 (fun x hx => decide_eq_true (hd x hx)), List.filter_eq_nil_iff.2 (fun x hx => by simpa using lessO_asymm (ht x hx)), List.nil_append]
  rw [e1, e2]
end Go.Proofs.YtgjbnbojjgbmcaaGreat.Bags
