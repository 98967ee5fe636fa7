/- Slices of elements of any kind, whose cells may hold slices themselves: what such a slice value holds. Conditions: none. Deletes of what is seen, and many operations one behind the other: what is seen then. Conditions: none. What the calls of edit answer, and that it is what was put one behind the other. Conditions: none. Parts of a slice of elements, by the operations' own words. Conditions: none. octavoref15.Same, SameAll: of like elements, like lists. Conditions: the slices' cells are elements. EditDeletes answers true, and changes nothing that was there. Conditions: none. -/
import Derived.Test.YtgjbnbojjgbmcaaGreatChecked
import Derived.WalkKit
import Derived.WalkSpells
import Derived.WalkLawsBesides
import Derived.Laws.BytesArg
import Derived.Lib.Hide
import Derived.Deep.LoopGhost
import Derived.Laws.AppendOwnNone
import Derived.Laws.OwnMore
import Derived.WideShapes
import Derived.Maps.AppendAt
import Derived.RegionTactic
import Derived.Deep.RegionHeld3
import Derived.Deep.DrawnRows
import Derived.Deep.QuietTactic
import Derived.BigQuiet
import Derived.IntWalk
import Derived.Deep.DeepCutAuto
import Derived.ScopeJumps
import Derived.Test.YtgjbnbojjgbmcaaGreatProg
import Derived.LoopTactic
import Derived.Laws.EntriesVeiled
import Derived.RowKit
import Derived.Lib.DecodeN
import Derived.Lib.RuneBytes
import Derived.Tactics
import Derived.Maps.Own
import Derived.Maps.OwnOps
import Derived.Maps.OwnSet
import Derived.Maps.Views
import Derived.DeepKeys4
import Derived.Shelf.SlSortCmp.InsertionK
import Derived.Calls
import Derived.StepT
import Derived.Below
import Derived.Sort.Grow
import Derived.Deep.Draws
import Derived.Shelf.SlLaysF0
import Derived.Shelf.SlSortCmp.NoneTotal
import Derived.Scope
import Derived.Shelf.Abstract
import Derived.RangeFuncBox
import Derived.RangeFuncLeaves
import Derived.RangeFuncNested
import Derived.RangeFuncBound
import Derived.RangeFuncCalls
import Derived.OwnWalkIn
import Derived.TacticsInMore
import Derived.LoopNIn
import Derived.LoopIn
import Derived.Lib.Tables
import Derived.Laws.Bits64
import Derived.Test.YtgjbnbojjgbmcaaGreatShelf
import Derived.Lib.OthersKept
import Derived.BigCall
import Derived.Laws.CopyOwn
import Derived.Deep.AppendSrc
import Derived.Lib.AppendZeros
import Derived.Laws.MakeOwn
import Derived.Deep.RegionWith
import Derived.BigRegion
import Derived.Lib.AppendZerosOnto
import Derived.Laws.NewBlocks
import Derived.Deep.RegionLaw
import Derived.Test.YtgjbnbojjgbmcaaGreatRw
import Derived.Test.YtgjbnbojjgbmcaaGreatPk04
import Derived.Test.YtgjbnbojjgbmcaaGreatPk15
import Derived.Test.YtgjbnbojjgbmcaaGreatPk19
import Derived.Test.YtgjbnbojjgbmcaaGreatPk01
import Derived.Test.YtgjbnbojjgbmcaaGreatPk16
import Derived.Test.YtgjbnbojjgbmcaaGreatPk06
import Derived.Test.YtgjbnbojjgbmcaaGreatPk05
import Derived.Test.YtgjbnbojjgbmcaaGreatPk03
import Derived.Test.YtgjbnbojjgbmcaaGreatPk02
import Derived.Test.YtgjbnbojjgbmcaaGreatPk14
import Derived.Test.YtgjbnbojjgbmcaaGreatPk12
import Derived.Test.YtgjbnbojjgbmcaaGreatPk11
import Derived.Test.YtgjbnbojjgbmcaaGreatPk10
import Derived.Test.YtgjbnbojjgbmcaaGreatPk07
import Derived.Test.YtgjbnbojjgbmcaaGreatPk08
import Derived.Test.YtgjbnbojjgbmcaaGreatPk09
import Derived.Test.YtgjbnbojjgbmcaaGreatPk13
import Derived.Test.YtgjbnbojjgbmcaaGreatPk17
import Derived.Test.YtgjbnbojjgbmcaaGreatPk18

namespace Go.Proofs.YtgjbnbojjgbmcaaGreat
open Go.RowKit Go.WideShapes
/-- A row of the call's own. -/
theorem Seq.own {α : Type} {E : Enc α} {w : World} {base : Nat} {e : TypeId} {v : Value} {n : Nat} {cs : List Value} {l : List α} (h : w.ownsRow base e E.sz v n cs) (hr : E.rows w cs l) : Seq E w v l := by
  have h1 := h.1
  rw [Enc.rows_len hr] at h1
  obtain rfl : l.length = n := Nat.eq_of_mul_eq_mul_right E.pos h1
  exact ⟨cs, Sees.own h, hr⟩
end Go.Proofs.YtgjbnbojjgbmcaaGreat

namespace Go.Proofs.YtgjbnbojjgbmcaaGreat.Edits
open Ops Stamp Bags Marks Homes Covers Views Go.Proofs.YtgjbnbojjgbmcaaGreat.Place
/-- A delete of one that is seen. -/
structure Del (l : List Opn) (t j i : Nat) (y o : Opn) : Prop extends New l t o where
  del : o.k = 3
  sect : j < (livesM l l).length + 1
  num : (elmL l (sec l j))[i]? = some y
  place : o.pl = y.pl
theorem Del.seen {l : List Opn} {t j i : Nat} {y o : Opn} (h : Del l t j i y o) : y ∈ elmL l (sec l j) := List.mem_of_getElem? h.num
theorem Del.home {l : List Opn} {t j i : Nat} {y o : Opn} (h : Del l t j i y o) : homeM (livesM l l) o.pl = sec l j := by
  rw [h.place]
  exact (mem_elm_l h.seen).2.2.2.1
theorem Del.isB {l : List Opn} {t j i : Nat} {y o : Opn} (h : Del l t j i y o) : isB (withO l o) (livesM l l) (sec l j) o = true := by
  rw [isB_iff]
  intro m hm e
  have hm' : m < (all o.pl).length := Nat.lt_of_lt_of_le hm (Nat.sub_le _ _)
  rw [h.place] at e hm' ⊢
  rw [h.has, seen_has h.seen hm' e, Bool.true_or]
theorem Del.count {l : List Opn} {t j i : Nat} {y o : Opn} (h : Del l t j i y o) {x : Opn} : x ∈ countL (withO l o) (livesM l l) (sec l j) ↔ x ∈ countL l (livesM l l) (sec l j) ∨ x = o := by
  rw [h.toNew.count]
  exact ⟨fun hx => hx.imp id fun h2 => h2.1, fun hx => hx.imp id fun h2 => ⟨h2, h.home, h.isB⟩⟩
theorem Del.tgt {l : List Opn} {t j i : Nat} {y o : Opn} (h : Del l t j i y o) : tgt o = idO y := by
  have hm := mem_elm_l h.seen
  rw [← ins_tgt hm.2.2.2.2.1 hm.2.2.2.2.2]
  unfold Marks.tgt
  simp only [h.place]
theorem Del.gone {l : List Opn} {t j i : Nat} {y o : Opn} (h : Del l t j i y o) (a : Id) : goneM (countL (withO l o) (livesM l l) (sec l j)) a = true ↔ goneM (countL l (livesM l l) (sec l j)) a = true ∨ idO y = a := by
  rw [goneM_iff, goneM_iff]
  constructor
  · rintro ⟨x, hx, h1, h2⟩
    rcases h.count.1 hx with h3 | rfl
    · exact .inl ⟨x, h3, h1, h2⟩
    · exact .inr (by rw [← h.tgt]; exact h2)
  · rintro (⟨x, hx, h1, h2⟩ | e)
    · exact ⟨x, h.count.2 (.inl hx), h1, h2⟩
    · exact ⟨o, h.count.2 (.inr rfl), h.del, by rw [h.tgt]; exact e⟩
/-- Of a list in order, all but one. -/
theorem mem_but {m : List Opn} (hm : ∀ x ∈ m, mayO x = true) (hs : m.Pairwise pre) {i : Nat} {y : Opn} (h : m[i]? = some y) (x : Opn) : x ∈ m.take i ++ m.drop (i + 1) ↔ x ∈ m ∧ x ≠ y := by
  obtain ⟨hi, rfl⟩ := List.getElem?_eq_some_iff.1 h
  have hirr : ∀ x, mayO x = true → ¬ pre x x := fun x hx hp => by
    have h1 := (pre_iff hx hx).1 hp
    have h2 := (hold_eq (all x.pl) (all x.pl)).2 rfl
    omega
  have hone : ∀ a (ha : a < m.length), m[a]'ha = m[i]'hi → a = i := fun a ha e => by
    rcases Nat.lt_trichotomy a i with h1 | h1 | h1
    · have := List.pairwise_iff_getElem.1 hs a i ha hi h1
      rw [e] at this
      exact absurd this (hirr _ (hm _ (List.getElem_mem hi)))
    · exact h1
    · have := List.pairwise_iff_getElem.1 hs i a hi ha h1
      rw [e] at this
      exact absurd this (hirr _ (hm _ (List.getElem_mem hi)))
  rw [List.mem_append]
  constructor
  · rintro (h1 | h1)
    · obtain ⟨a, ha, rfl⟩ := List.getElem_of_mem h1
      rw [List.length_take] at ha
      rw [List.getElem_take]
      exact ⟨List.getElem_mem _, fun e => by have := hone a (by omega) e; omega⟩
    · obtain ⟨a, ha, rfl⟩ := List.getElem_of_mem h1
      rw [List.length_drop] at ha
      rw [List.getElem_drop]
      exact ⟨List.getElem_mem _, fun e => by have := hone (i + 1 + a) (by omega) e; omega⟩
  · rintro ⟨h1, h2⟩
    obtain ⟨a, ha, rfl⟩ := List.getElem_of_mem h1
    rcases Nat.lt_trichotomy a i with h3 | h3 | h3
    · left
      rw [List.mem_take_iff_getElem]
      exact ⟨a, by omega, rfl⟩
    · subst h3; exact absurd rfl h2
    · right
      rw [List.mem_drop_iff_getElem]
      exact ⟨a - (i + 1), by omega, by congr 1; omega⟩
theorem Del.elm {l : List Opn} {t j i : Nat} {y o : Opn} (h : Del l t j i y o) : elmL (withO l o) (sec l j) = (elmL l (sec l j)).take i ++ (elmL l (sec l j)).drop (i + 1) := by
  have h0 := all_mk h.bag h.sect
  have h1 := (spanE_new h.toNew (sec l j)).2 h0
  have hpw := counts_pw h.bagw (sec l j)
  rw [h.lives] at hpw
  rw [elm_yes h1, h.lives]
  have hX : ∀ y ∈ elmL l (sec l j), mayO y = true := fun y hy => (mem_elm_l hy).2.2.2.2.1
  have hs := elm_sorted l (sec l j)
  refine seen_ext hpw.1 hpw.2 ?_ (fun x => ?_)
  · refine List.pairwise_append.2 ⟨hs.sublist (List.take_sublist _ _), hs.sublist (List.drop_sublist _ _), fun x hx z hz => ?_⟩
    obtain ⟨a, ha, rfl⟩ := List.getElem_of_mem hx
    obtain ⟨b, hb, rfl⟩ := List.getElem_of_mem hz
    rw [List.length_take] at ha
    rw [List.length_drop] at hb
    rw [List.getElem_take, List.getElem_drop]
    exact List.pairwise_iff_getElem.1 hs a (i + 1 + b) (by omega) (by omega) (by omega)
  · rw [mem_but hX hs h.num, mem_seen h0, h.count]
    have hg := h.gone (idO x)
    constructor
    · rintro ⟨⟨h1, h2, h3⟩, h4⟩
      refine ⟨.inl h1, h2, ?_⟩
      rw [← Bool.not_eq_true, hg]
      rintro (h5 | h5)
      · rw [h3] at h5; cases h5
      · exact h4 (same_op h.bag (mem_countL.1 h1).1.1 (mem_elm_l h.seen).2.2.1 h5.symm)
    · rintro ⟨h1 | rfl, h2, h3⟩
      · rw [← Bool.not_eq_true, hg] at h3
        exact ⟨⟨h1, h2, by rw [← Bool.not_eq_true]; exact fun h4 => h3 (.inl h4)⟩, fun e => h3 (.inr (by rw [e]))⟩
      · rw [h.del] at h2; cases h2
/-- Deletes of some, in their order. -/
def Dls : Nat → List Opn → List Opn → Prop
  | _, [], [] => True
  | t, o :: os, y :: ys => t < o.t ∧ mayO o = true ∧ o.k = 3 ∧ o.pl = y.pl ∧ Dls o.t os ys
  | _, _, _ => False
theorem puts_del {j : Nat} {A B : List Opn} : ∀ (os ys : List Opn) {l : List Opn} {t : Nat}, Bag l → Old l t → j < (livesM l l).length + 1 → elmL l (sec l j) = A ++ (ys ++ B) → Dls t os ys → l.length + os.length ≤ 1024 →
    Bag (puts l os) ∧ livesM (puts l os) (puts l os) = livesM l l ∧ elmL (puts l os) (sec l j) = A ++ B ∧ (∀ s, s ≠ sec l j → elmL (puts l os) s = elmL l s)
  | [], [], l, t, hb, _, _, he, _, _ => ⟨hb, rfl, by simpa [puts] using he, fun _ _ => rfl⟩
  | [], _ :: _, _, _, _, _, _, _, h, _ => h.elim
  | _ :: _, [], _, _, _, _, _, _, h, _ => h.elim
  | o :: os, y :: ys, l, t, hb, ho, hj, he, ⟨c1, c2, c3, c4, c5⟩, hlen => by
    have hl1 := withO_len l o
    rw [List.length_cons] at hlen
    have hi : Del l t j A.length y o := ⟨⟨hb, ho, c2, c1, by omega, by unfold contB; simp [c3]⟩, c3, hj, by rw [he]; simp, c4⟩
    have hE := hi.elm
    have hS := sec_new hi.toNew j
    have hL := hi.lives
    have hE2 : elmL (withO l o) (sec (withO l o) j) = A ++ (ys ++ B) := by
      rw [hS, hE, he]
      have e1 : (A ++ (y :: ys ++ B)).take A.length = A := by simp
      have e2 : (A ++ (y :: ys ++ B)).drop (A.length + 1) = ys ++ B := by
        rw [List.drop_append, show A.length + 1 - A.length = 1 by omega, List.drop_eq_nil_of_le (by omega)]
        rfl
      rw [e1, e2]
    obtain ⟨r1, r2, r3, r4⟩ := puts_del os ys (l := withO l o) (t := o.t) hi.bagw hi.old2 (by rw [hL]; exact hj) hE2 c5 (by omega)
    rw [hL] at r2
    rw [hS] at r3 r4
    rw [puts_cons]
    exact ⟨r1, r2, r3, fun s hs => by rw [r4 s hs, hi.elm_other (by rw [hi.home]; exact fun e => hs e.symm)]⟩
end Go.Proofs.YtgjbnbojjgbmcaaGreat.Edits

namespace Go.Proofs.YtgjbnbojjgbmcaaGreat.Edits
open Ops Stamp Bags Marks Homes Covers Views Go.Proofs.YtgjbnbojjgbmcaaGreat.Place
theorem mayO_del {r t : Nat} {y : Opn} (hr : r < 8) (ht : t + 1 ≤ 1073741824) (hy : mayO y = true) (hty : y.t ≤ t) : mayO (mkO 3 (mk (t + 1) r) y.pl 0) = true := by
  have e1 : (mk (t + 1) r).t = t + 1 := mk_t (by omega)
  have e2 : (mk (t + 1) r).r = r := mk_r (by omega)
  unfold mayO
  rw [Bool.and_eq_true, Bool.and_eq_true]
  refine ⟨?_, (mayO_parts hy).2.1, ?_⟩
  · show may (mk (t + 1) r).t (mk (t + 1) r).r = true
    rw [e1, e2]
    exact may_iff.2 ⟨by omega, by omega, hr⟩
  · unfold kindB kindF
    have hc := tgt_cells hy
    have hle := tgt_le hy
    rw [if_neg (show ¬ (mkO 3 (mk (t + 1) r) y.pl 0).k = 1 from (by decide : ¬ (3 % 256 = 1))), if_neg (show ¬ (mkO 3 (mk (t + 1) r) y.pl 0).k = 2 from (by decide : ¬ (3 % 256 = 2))), if_pos (show (mkO 3 (mk (t + 1) r) y.pl 0).k = 3 ∨ (mkO 3 (mk (t + 1) r) y.pl 0).k = 4 from .inl rfl), Bool.and_eq_true]
    refine ⟨decide_eq_true ?_, rfl⟩
    show (lastV y.pl).1 < ((mk (t + 1) r).t : Int)
    rw [e1]
    omega
theorem delO_dls : ∀ (ys : List Opn) (r t u : Nat), r < 8 → u ≤ t → t + ys.length ≤ 1073741824 → (∀ y ∈ ys, mayO y = true ∧ y.t ≤ u) → Dls t (delO r t ys) ys
  | [], _, _, _, _, _, _, _ => trivial
  | y :: ys, r, t, u, hr, hu, ht, hy => by
    rw [List.length_cons] at ht
    have e1 : (mk (t + 1) r).t = t + 1 := mk_t (by omega)
    obtain ⟨y1, y3⟩ := hy y (by simp)
    refine ⟨?_, mayO_del hr (by omega) y1 (by omega), rfl, rfl, ?_⟩
    · show t < (mk (t + 1) r).t
      omega
    · show Dls (mk (t + 1) r).t (delO r (t + 1) ys) ys
      rw [e1]
      exact delO_dls ys r (t + 1) u hr (by omega) (by omega) (fun z hz => hy z (by simp [hz]))
theorem delO_len : ∀ (r t : Nat) (ys : List Opn), (delO r t ys).length = ys.length
  | _, _, [] => rfl
  | r, t, y :: ys => by unfold delO; rw [List.length_cons, List.length_cons, delO_len]
/-- Behind a delete. -/
theorem del_after {l : List Opn} {r t : Nat} {s : Id} {k m : Int} (h : delE l r t s k m = 0) (hlen : l.length ≤ 40) :
    spanE l s = 0 ∧ 0 ≤ k ∧ 1 ≤ m ∧ k + m ≤ ((elmL l s).length : Int) ∧ ((delL l r t s k m).length : Int) = m ∧ m ≤ 64 ∧ (∀ o ∈ delL l r t s k m, mayO o = true) ∧
    Bag (puts l (delL l r t s k m)) ∧ livesM (puts l (delL l r t s k m)) (puts l (delL l r t s k m)) = livesM l l ∧ elmL (puts l (delL l r t s k m)) s = (elmL l s).take k.toNat ++ (elmL l s).drop (k + m).toNat ∧
    (∀ z, z ≠ s → elmL (puts l (delL l r t s k m)) z = elmL l z) := by
  have e : delL l r t s k m = delO r t (((elmL l s).drop k.toNat).take m.toNat) := if_pos h
  rw [e]
  unfold delE at h
  by_cases ha : askE l r t s = 0
  rotate_left
  · rw [if_neg ha] at h; exact absurd h ha
  rw [if_pos ha] at h
  by_cases hk : 0 ≤ k ∧ 1 ≤ m ∧ k + m ≤ ((elmL l s).length : Int)
  rotate_left
  · rw [if_neg hk] at h; cases h
  rw [if_pos hk] at h
  by_cases h2 : 64 < m
  · rw [if_pos h2] at h; cases h
  rw [if_neg h2] at h
  by_cases h3 : 1073741824 < (t : Int) + m
  · rw [if_pos h3] at h; cases h
  obtain ⟨a1, a2, a3⟩ := askE_zero.1 ha
  obtain ⟨hj, hs⟩ := sec_where a3
  have hb := (spanE_zero.1 a3).1
  obtain ⟨ys, hys⟩ : ∃ ys, ys = ((elmL l s).drop k.toNat).take m.toNat := ⟨_, rfl⟩
  have hyl : (ys.length : Int) = m := by rw [hys, List.length_take, List.length_drop]; omega
  have hsplit : elmL l s = (elmL l s).take k.toNat ++ (ys ++ (elmL l s).drop (k + m).toNat) := by
    conv => lhs; rw [← List.take_append_drop k.toNat (elmL l s)]
    congr 1
    conv => lhs; rw [← List.take_append_drop m.toNat ((elmL l s).drop k.toNat)]
    rw [← hys, List.drop_drop, show (k + m).toNat = k.toNat + m.toNat by omega]
  have hmem : ∀ y ∈ ys, mayO y = true ∧ y.t ≤ t := fun y hy => by
    have hy2 : y ∈ elmL l s := by rw [hsplit]; simp [hy]
    have hm := mem_elm_l hy2
    exact ⟨hm.2.2.2.2.1, a2 y hm.2.2.1⟩
  rw [← hys]
  have hD := delO_dls ys r t t a1 (Nat.le_refl _) (by omega) hmem
  have R := puts_del (j := whereN (livesM l l) s) (A := (elmL l s).take k.toNat) (B := (elmL l s).drop (k + m).toNat) (delO r t ys) ys (l := l) (t := t) hb a2 hj (by rw [hs]; exact hsplit) hD (by rw [delO_len]; omega)
  rw [hs] at R
  obtain ⟨r1, r2, r3, r4⟩ := R
  have hmay : ∀ (os zs : List Opn) (u : Nat), Dls u os zs → ∀ o ∈ os, mayO o = true := fun os => by
    induction os with
    | nil => intro _ _ _ o ho; cases ho
    | cons x os ih =>
      intro zs u hc o ho
      cases zs with
      | nil => exact hc.elim
      | cons z zs =>
        rcases List.mem_cons.1 ho with rfl | ho
        · exact hc.2.1
        · exact ih _ _ hc.2.2.2.2 o ho
  exact ⟨a3, hk.1, hk.2.1, hk.2.2, by rw [delO_len]; exact hyl, by omega, hmay _ _ _ hD, r1, r2, r3, r4⟩
end Go.Proofs.YtgjbnbojjgbmcaaGreat.Edits

namespace Go.Proofs.YtgjbnbojjgbmcaaGreat.Views
open Go.RowKit Go.WideShapes Stamp Go.Proofs.YtgjbnbojjgbmcaaGreat.Place Ops Codes Bags Marks Homes Covers
set_option maxRecDepth 100000 in
theorem el_to {w : World} {ao : Option Addr} {n cap k : Nat} {c : List Opn} (h : ElL w (.slice ao n cap) c) (hk : k ≤ n) :
    ∃ V cs, (∀ W : World, (Instr.slice 52 (.slice ao n cap) none (some (.int .i64 (k : Int))) none).run Tryz.prog W = .ok V W) ∧ ∀ W : World, Below w.heap.size w W → Sees W V 4 (c.take k).length cs ∧ elmE.rows W cs (c.take k) := by
  have hc := (Seq.cap h).2.1
  have hn := (Seq.cap h).1
  obtain ⟨cs, hs, hr⟩ := Seq.take h (m := k) (by omega)
  refine ⟨.slice ao k cap, cs, fun W => ?_, fun W hb => ⟨hs.keeps hb, Enc.rows_keep hb hr⟩⟩
  have q1 : (0 : Int) ≤ (k : Int) := by omega
  have q2 : (k : Int) ≤ (cap : Int) := by omega
  rw [run_slice_h W 52 ao n cap Tryz.underlying52 .i64 (k : Int) q1 q2]
  rw [show Tryz.prog.elem 52 = 91 by kernel_rfl, Tryz.sizeOf91]
  simp only [Result.andThen, sliced, Int.toNat_natCast, Nat.zero_mul, Nat.sub_zero]
  congr 1
  split
  · rfl
  · cases ao with
    | none => rfl
    | some a => obtain ⟨b, o, s⟩ := a; rfl
set_option maxRecDepth 100000 in
theorem el_from {w : World} {ao : Option Addr} {n cap k : Nat} {c : List Opn} (h : ElL w (.slice ao n cap) c) (hk : k ≤ n) (h0 : c ≠ []) :
    ∃ V cs, (∀ W : World, (Instr.slice 52 (.slice ao n cap) (some (.int .i64 (k : Int))) none none).run Tryz.prog W = .ok V W) ∧ ∀ W : World, Below w.heap.size w W → Sees W V 4 (c.drop k).length cs ∧ elmE.rows W cs (c.drop k) := by
  have q1 : (0 : Int) ≤ (k : Int) := by omega
  have q2 : (k : Int) ≤ (n : Int) := by omega
  obtain ⟨b, off, o', rfl, h1, h2⟩ := part_drop h hk h0
  obtain ⟨cs, hs, hr⟩ := h2
  refine ⟨.slice (some ⟨b, o', none⟩) (n - k) (cap - k), cs, fun W => ?_, fun W hb => ⟨hs.keeps hb, Enc.rows_keep hb hr⟩⟩
  rw [run_slice_l W 52 _ n cap Tryz.underlying52 .i64 (k : Int) q1 q2]
  rw [show Tryz.prog.elem 52 = 91 by kernel_rfl, Tryz.sizeOf91]
  have hadd : (⟨b, off, none⟩ : Addr).add (k * 4) = ⟨b, off + k * 4, none⟩ := by unfold Addr.add; split <;> simp_all
  simp only [Result.andThen, sliced, Int.toNat_natCast, Option.map_some, hadd]
  rw [← h1]
  rfl
end Go.Proofs.YtgjbnbojjgbmcaaGreat.Views

namespace Go.Proofs.YtgjbnbojjgbmcaaGreat.Views
open Go.RowKit Go.WideShapes Stamp Go.Proofs.YtgjbnbojjgbmcaaGreat.Place Ops Codes Bags Marks Homes Covers
attribute [local go_sem ↓] Go.wp_at_zero Go.wp_at_succ
attribute [local go_sem] yielded_undef
set_option maxRecDepth 100000 in
set_option maxHeartbeats 8000000 in
theorem refSameE_yes {u v : Value} {x : Opn} {w : World} (hu : Runs w u x.pl) (hv : Runs w v x.pl) : Calls Tryz.prog 70 #[elv x u, elv x v] w fun e w' => e = .returned (.bool true) ∧ Below w.heap.size w w' := by
  have SR : Hid (∀ W : World, Below w.heap.size w W → Calls Tryz.prog 87 #[u, v] W fun e w' => e = .returned (.bool true) ∧ Below W.heap.size W w') := fun W h => by
    have := Go.Proofs.YtgjbnbojjgbmcaaGreat.Place.refSame_any (hu.keeps h) (hv.keeps h)
    rwa [decide_eq_true rfl] at this
  obtain ⟨uo, uc, rfl⟩ := hu.shape
  obtain ⟨vo, vc, rfl⟩ := hv.shape
  obtain ⟨n, hn⟩ : ∃ n, x.pl.length = n := ⟨_, rfl⟩
  rw [hn] at SR ⊢
  unfold elv
  obtain ⟨t, ht⟩ : ∃ z, x.t = z := ⟨_, rfl⟩
  obtain ⟨r, hr⟩ : ∃ z, x.r = z := ⟨_, rfl⟩
  obtain ⟨p, hp⟩ : ∃ z, x.p = z := ⟨_, rfl⟩
  rw [ht, hr, hp]
  have B0 : Hid (Below w.heap.size w ((w.alloc (.cells #[.int .u32 (t : Int), .int .u8 (r : Int), .slice uo n uc, .int .i64 p] 91)).alloc (.cells #[.int .u32 (t : Int), .int .u8 (r : Int), .slice vo n vc, .int .i64 p] 91))) := ((Below.refl _ _).alloc (Nat.le_refl _) _).alloc (by simp) _
  have CE : Hid (∀ w2 : World, Below ((w.alloc (.cells #[.int .u32 (t : Int), .int .u8 (r : Int), .slice uo n uc, .int .i64 p] 91)).alloc (.cells #[.int .u32 (t : Int), .int .u8 (r : Int), .slice vo n vc, .int .i64 p] 91)).heap.size ((w.alloc (.cells #[.int .u32 (t : Int), .int .u8 (r : Int), .slice uo n uc, .int .i64 p] 91)).alloc (.cells #[.int .u32 (t : Int), .int .u8 (r : Int), .slice vo n vc, .int .i64 p] 91)) w2 →
      w2.cell? ⟨w.heap.size, 3, none⟩ = some (.int .i64 p) ∧ w2.cell? ⟨w.heap.size + 1, 3, none⟩ = some (.int .i64 p)) := fun w2 h => by
    have g1 : w2.heap[w.heap.size]? = some (.cells #[.int .u32 (t : Int), .int .u8 (r : Int), .slice uo n uc, .int .i64 p] 91) := blk_below h (blk_old (blk_new rfl))
    have g2 : w2.heap[w.heap.size + 1]? = some (.cells #[.int .u32 (t : Int), .int .u8 (r : Int), .slice vo n vc, .int .i64 p] 91) := blk_below h (blk_new (by simp))
    exact ⟨(cells4 g1).2.2.2, (cells4 g2).2.2.2⟩
  clear hu hv hn ht hr hp
  go_enter Tryz.func70, Tryz.ntmps70
  go_wp2_with fail
  refine (SR.out _ B0.out).mono ?_
  rintro e w1 ⟨rfl, b1⟩
  obtain ⟨g1, g2⟩ := CE.out _ b1
  have B1 := Lib.hid (bt B0.out b1)
  clear b1 CE B0 SR
  go_wp2
  go_ret
  exact ⟨rfl, B1.out⟩
set_option maxRecDepth 100000 in
set_option maxHeartbeats 8000000 in
theorem refSameAll_yes {u v : Value} {c : List Opn} {w : World} (hu : ElL w u c) (hv : ElL w v c) : Calls Tryz.prog 31 #[u, v] w fun e w' => e = .returned (.bool true) ∧ Below w.heap.size w w' := by
  obtain ⟨ao, ac, rfl⟩ := hu.shape
  obtain ⟨bo, bc, rfl⟩ := hv.shape
  obtain ⟨n, hn⟩ : ∃ n, n = c.length := ⟨_, rfl⟩
  have hmx : n ≤ 9223372036854775807 := by rw [hn]; exact hu.max
  have HU : Hid (∀ W : World, Below w.heap.size w W → ElL W (.slice ao c.length ac) c) := fun W h => hu.keeps h
  have HV : Hid (∀ W : World, Below w.heap.size w W → ElL W (.slice bo c.length bc) c) := fun W h => hv.keeps h
  have HN := Lib.hid hn
  rw [← hn]
  have B0 : Hid (Below w.heap.size w w) := Below.refl _ _
  clear hu hv hn
  go_enter Tryz.func31, Tryz.ntmps31
  go_wp2
  go_loopw [5] (fun i wr => ∃ j : Nat, j ≤ n ∧ i = .int .i64 (j : Int) ∧ Hid (Below w.heap.size w wr)) (fun i _ => n - (intOf i).toNat)
  case atStart => exact ⟨0, by omega, rfl, B0⟩
  case round =>
    clear B0
    obtain ⟨j, hj, rfl, hbel⟩ := hrel
    by_cases hjn : j < n
    rotate_left
    · have q3 : decide (j < n) = false := by simpa using hjn
      go_wp2
      go_ret
      exact ⟨rfl, hbel.out⟩
    have q3 : decide (j < n) = true := by simpa using hjn
    have q4 : (0 : Int) ≤ (j : Int) := by omega
    have q5 : (j : Int) < (n : Int) := by omega
    have hjl : j < c.length := by rw [← HN.out]; exact hjn
    obtain ⟨b1, o1, y1, e1, k1, r1, h0, h1, h2, h3⟩ := el_at (HU.out wr hbel.out) j hjl
    obtain ⟨b2, o2, y2, e2, k2, r2, g0, g1, g2, g3⟩ := el_at (HV.out wr hbel.out) j hjl
    cases e1
    cases e2
    obtain ⟨x, hx⟩ : ∃ x, c[j]'hjl = x := ⟨_, rfl⟩
    rw [hx] at r1 r2 h0 h1 h3 g0 g1 g3
    have SX : Hid (∀ W : World, Below wr.heap.size wr W → Calls Tryz.prog 70 #[elv x y1, elv x y2] W fun e w' => e = .returned (.bool true) ∧ Below W.heap.size W w') := fun W h => refSameE_yes (r1.keeps h) (r2.keeps h)
    have HOE : Hid (∀ u : Value, elv x u = .agg #[.int .u32 (x.t : Int), .int .u8 (x.r : Int), u, .int .i64 x.p]) := fun u => rfl
    simp only [HOE.out] at SX
    obtain ⟨uo, uc, rfl⟩ := r1.shape
    obtain ⟨vo, vc, rfl⟩ := r2.shape
    obtain ⟨nx, hnx⟩ : ∃ z, x.pl.length = z := ⟨_, rfl⟩
    rw [hnx] at SX h2 g2
    obtain ⟨t, ht⟩ : ∃ z, x.t = z := ⟨_, rfl⟩
    obtain ⟨r, hr⟩ : ∃ z, x.r = z := ⟨_, rfl⟩
    obtain ⟨p, hp⟩ : ∃ z, x.p = z := ⟨_, rfl⟩
    rw [ht, hr, hp] at SX
    rw [ht] at h0 g0
    rw [hr] at h1 g1
    rw [hp] at h3 g3
    have SK : Hid (∀ w' : World, Below wr.heap.size wr w' → Below wr.heap.size wr w' ∧ w'.cell? ⟨b1, o1 + j * 4, none⟩ = some (.int .u32 (t : Int)) ∧ w'.cell? ⟨b1, o1 + j * 4 + 1, none⟩ = some (.int .u8 (r : Int)) ∧ w'.cell? ⟨b1, o1 + j * 4 + 2, none⟩ = some (.slice uo nx uc) ∧ w'.cell? ⟨b1, o1 + j * 4 + 3, none⟩ = some (.int .i64 p) ∧ w'.cell? ⟨b2, o2 + j * 4, none⟩ = some (.int .u32 (t : Int)) ∧ w'.cell? ⟨b2, o2 + j * 4 + 1, none⟩ = some (.int .u8 (r : Int)) ∧ w'.cell? ⟨b2, o2 + j * 4 + 2, none⟩ = some (.slice vo nx vc) ∧ w'.cell? ⟨b2, o2 + j * 4 + 3, none⟩ = some (.int .i64 p)) := fun W h => ⟨h, (h.cell (p := ⟨b1, o1 + j * 4, none⟩) k1).trans h0, (h.cell (p := ⟨b1, o1 + j * 4 + 1, none⟩) k1).trans h1, (h.cell (p := ⟨b1, o1 + j * 4 + 2, none⟩) k1).trans h2, (h.cell (p := ⟨b1, o1 + j * 4 + 3, none⟩) k1).trans h3, (h.cell (p := ⟨b2, o2 + j * 4, none⟩) k2).trans g0, (h.cell (p := ⟨b2, o2 + j * 4 + 1, none⟩) k2).trans g1, (h.cell (p := ⟨b2, o2 + j * 4 + 2, none⟩) k2).trans g2, (h.cell (p := ⟨b2, o2 + j * 4 + 3, none⟩) k2).trans g3⟩
    clear h0 h1 h2 h3 g0 g1 g2 g3 k1 k2 r1 r2 hx hnx ht hr hp HOE HU HV
    go_wp2
    refine wp_region_held_drew (S := fun w' => Below wr.heap.size wr w' ∧ w'.cell? ⟨b1, o1 + j * 4, none⟩ = some (.int .u32 (t : Int)) ∧ w'.cell? ⟨b1, o1 + j * 4 + 1, none⟩ = some (.int .u8 (r : Int)) ∧ w'.cell? ⟨b1, o1 + j * 4 + 2, none⟩ = some (.slice uo nx uc) ∧ w'.cell? ⟨b1, o1 + j * 4 + 3, none⟩ = some (.int .i64 p) ∧ w'.cell? ⟨b2, o2 + j * 4, none⟩ = some (.int .u32 (t : Int)) ∧ w'.cell? ⟨b2, o2 + j * 4 + 1, none⟩ = some (.int .u8 (r : Int)) ∧ w'.cell? ⟨b2, o2 + j * 4 + 2, none⟩ = some (.slice vo nx vc) ∧ w'.cell? ⟨b2, o2 + j * 4 + 3, none⟩ = some (.int .i64 p)) (by kernel_rfl) (SK.out _ (drew1 _)) (fun hHeld => ?_)
    refine rN 0 ?_
    refine rN 1 ?_
    refine rN 2 ?_
    refine rN 3 ?_
    refine rN 4 ?_
    refine rN 5 ?_
    refine rN 6 ?_
    refine rN 7 ?_
    refine wpAnyH_ready (rs := [8]) (by kernel_rfl) (by simp) ?_
    refine AllReadyH.cons rfl (fun K hK => ?_) ?za8
    case za8 => exact AllReadyH.nil
    go_simp
    refine (SX.out _ hHeld.1).mono ?_
    rintro e w9a8 ⟨rfl, b9⟩
    refine hK.out _ _ (SK.out _ (bt hHeld.1 b9)) (fun hNew => ?_)
    clear hHeld
    have hHeld := hNew
    clear hNew hK K
    refine rX ?_
    refine rN 9 ?_
    refine wpAnyH_done (by kernel_rfl) ?_ _
    have BE := Lib.hid (bt hbel.out hHeld.1)
    clear hHeld SK SX hbel
    go_wp2
    go_roundw
    case rel => exact ⟨j + 1, by omega, by go_num, BE⟩
    case measure => simp [intOf]; omega
end Go.Proofs.YtgjbnbojjgbmcaaGreat.Views

namespace Go.Proofs.YtgjbnbojjgbmcaaGreat.Edits
open Go.RowKit Go.WideShapes Stamp Go.Proofs.YtgjbnbojjgbmcaaGreat.Place Ops Codes Bags Marks Homes Covers Views
attribute [local go_sem ↓] Go.wp_at_zero Go.wp_at_succ
attribute [local go_sem] yielded_undef
/-- What a delete leaves, as the walk asks of it. -/
structure Gone (l M : List Opn) (a : Id) (k m : Int) : Prop where
  bag : Bag l
  span : spanE l a = 0
  lo : 0 ≤ k
  one : 1 ≤ m
  hi : k + m ≤ ((elmL l a).length : Int)
  many : (M.length : Int) = m
  may : ∀ o ∈ M, mayO o = true
  room : l.length + M.length ≤ 1024
  span2 : spanE (puts l M) a = 0
  seen : elmL (puts l M) a = (elmL l a).take k.toNat ++ (elmL l a).drop (k + m).toNat
  other : ∀ z, z ≠ a → elmL (puts l M) z = elmL l z
  sects : ∀ z, spanE l z = 0 → spanE (puts l M) z = 0
theorem gone_del {l : List Opn} {r t : Nat} {a : Id} {k m : Int} (h : delE l r t a k m = 0) (hlen : l.length ≤ 40) : Gone l (delL l r t a k m) a k m := by
  obtain ⟨h1, h2, h3, h4, h5, h6, h7, h8, h9, h10, h11⟩ := del_after h hlen
  have hs : ∀ z, spanE l z = 0 → spanE (puts l (delL l r t a k m)) z = 0 := fun z hz => spanE_zero.2 ⟨h8, by rw [h9]; exact (spanE_zero.1 hz).2⟩
  exact ⟨(spanE_zero.1 h1).1, h1, h2, h3, h4, h5, h7, by omega, hs a h1, h10, h11, hs⟩
set_option maxRecDepth 100000 in
set_option maxHeartbeats 16000000 in
theorem deletes_walk {l : List Opn} {ao0 : Option Addr} {cap0 r t : Nat} (a : Id) (k m : Int) {w : World} (hr0 : OpL w (.slice ao0 l.length cap0) l) (hr : r < 256) (ht : t < 4294967296) (hk0 : k ≤ 9223372036854775807) :
    Calls Tryz.prog 6 #[.slice ao0 l.length cap0, .int .u8 (r : Int), .int .u32 (t : Int), .agg #[.int .u32 (a.t : Int), .int .u8 (a.r : Int)], .int .i64 k, .int .i64 m] w fun e w' => e = .returned (.bool true) ∧ Below w.heap.size w w' := by
  have HV : Hid (∀ W : World, Below w.heap.size w W → OpL W (.slice ao0 l.length cap0) l) := fun W h => hr0.keeps h
  have AV := Lib.hid alive16_any
  have GR : Hid (∀ W : World, Below w.heap.size w W → Calls Tryz.prog 13 #[.slice ao0 l.length cap0, .int .i64 40] W fun e w' => GrtO l 40 e ∧ W = w') := fun W h => greatO_any (HV.out W h)
  have hgr : ∀ {e : Ending}, GrtO l 40 e → ∃ g, e = .returned (.bool g) ∧ Hid (g = false → l.length ≤ 40) := fun ⟨g, h1, h2⟩ => ⟨g, h1, fun h => by have := (h2 h).1; omega⟩
  have CI : Hid (∀ (W : World) (v : Value), OpL W v l → Calls Tryz.prog 16 #[v, .int .u8 (r : Int), .int .u32 (t : Int), .agg #[.int .u32 (a.t : Int), .int .u8 (a.r : Int)], .int .i64 k, .int .i64 m] W (DoneN (delL l r t a k m) (delE l r t a k m) W)) := fun W v h => eDelete_any a k m h hr ht hk0
  have MZ : Hid (delE l r t a k m ≠ 0 → (delL l r t a k m).length = 0) := fun h => by unfold delL; rw [if_neg h]; rfl
  have AF : Hid (delE l r t a k m = 0 → l.length ≤ 40 → Gone l (delL l r t a k m) a k m) := fun h h2 => gone_del h h2
  obtain ⟨M, hM⟩ : ∃ z, delL l r t a k m = z := ⟨_, rfl⟩
  obtain ⟨E, hE⟩ : ∃ z, delE l r t a k m = z := ⟨_, rfl⟩
  rw [hM, hE] at CI
  rw [hM, hE] at MZ
  rw [hM, hE] at AF
  have PU : Hid (Gone l M a k m → ∀ (W : World) (v u : Value), OpL W v l → OpL W u M → Calls Tryz.prog 22 #[v, u] W fun e w' => ∃ x, e = .returned (.tuple #[x, .bool true]) ∧ OpL w' x (puts l M) ∧ Below W.heap.size W w') := fun A W v u h h2 => put16_any h h2 A.bag A.may A.room
  have EL : Hid (∀ (W : World) (v : Value), OpL W v l → Calls Tryz.prog 23 #[v, .agg #[.int .u32 (a.t : Int), .int .u8 (a.r : Int)]] W (DoneOE (elmL l a) (spanE l a) W)) := fun W v h => vElements_any a h
  have EX : Hid (∀ (W : World) (v : Value), OpL W v (puts l M) → Calls Tryz.prog 23 #[v, .agg #[.int .u32 (a.t : Int), .int .u8 (a.r : Int)]] W (DoneOE (elmL (puts l M) a) (spanE (puts l M) a) W)) := fun W v h => vElements_any a h
  have AL : Hid (∀ (W : World) (v : Value), OpL W v l → Calls Tryz.prog 25 #[v] W (AllI (allL l) (chkL l) W)) := fun W v h => hAll_any h
  have SM : Hid (∀ (W : World) (u v : Value) (q : List Opn), ElL W u q → ElL W v q → Calls Tryz.prog 31 #[u, v] W fun e w' => e = .returned (.bool true) ∧ Below W.heap.size W w') := fun W u v q h h2 => refSameAll_yes h h2
  have TL : Hid (∀ (W : World) (v : Value) (s : Id), OpL W v l → Calls Tryz.prog 30 #[v, .agg #[.int .u32 (s.t : Int), .int .u8 (s.r : Int)]] W fun e w' => e = .returned (.tuple #[.string (str (textL l s)), .int .i64 (spanE l s)]) ∧ Below W.heap.size W w') := fun W v s h => vText_any s h
  have TX : Hid (∀ (W : World) (v : Value) (s : Id), OpL W v (puts l M) → Calls Tryz.prog 30 #[v, .agg #[.int .u32 (s.t : Int), .int .u8 (s.r : Int)]] W fun e w' => e = .returned (.tuple #[.string (str (textL (puts l M) s)), .int .i64 (spanE (puts l M) s)]) ∧ Below W.heap.size W w') := fun W v s h => vText_any s h
  obtain ⟨n0, hn0⟩ : ∃ n, n = l.length := ⟨_, rfl⟩
  rw [← hn0] at HV GR ⊢
  obtain ⟨sx, hsx⟩ : ∃ z, a.t = z := ⟨_, rfl⟩
  obtain ⟨sy, hsy⟩ : ∃ z, a.r = z := ⟨_, rfl⟩
  have HA : Hid (∀ x : Id, x = a ↔ x.t = sx ∧ x.r = sy) := fun x => by rw [Id.eq_iff, hsx, hsy]
  rw [hsx, hsy] at CI EL EX ⊢
  have B_0 : Hid (Below w.heap.size w (w.alloc (.cells #[.int .u32 (sx : Int), .int .u8 (sy : Int)] 28))) := (Below.refl _ _).alloc (Nat.le_refl _) _
  have CE : Hid (∀ W : World, Below (w.alloc (.cells #[.int .u32 (sx : Int), .int .u8 (sy : Int)] 28)).heap.size (w.alloc (.cells #[.int .u32 (sx : Int), .int .u8 (sy : Int)] 28)) W → W.cell? ⟨w.heap.size, 0, none⟩ = some (.int .u32 (sx : Int)) ∧ W.cell? ⟨w.heap.size, 1, none⟩ = some (.int .u8 (sy : Int))) := fun W h => by
    have g2 := cells_blk (blk_below h (blk_new rfl))
    exact ⟨g2.1, g2.2.1⟩
  have BK_0 : Hid (Below (w.alloc (.cells #[.int .u32 (sx : Int), .int .u8 (sy : Int)] 28)).heap.size (w.alloc (.cells #[.int .u32 (sx : Int), .int .u8 (sy : Int)] 28)) (w.alloc (.cells #[.int .u32 (sx : Int), .int .u8 (sy : Int)] 28))) := Below.refl _ _
  clear hr0 hn0 hsx hsy hM hE hr ht hk0
  go_enter Tryz.func6, Tryz.ntmps6
  go_wp2_with fail
  refine (AV.out _).mono ?_
  rintro e w1 ⟨rfl, b1⟩
  have B_1 := Lib.hid (bt B_0.out b1)
  clear B_0
  have BK_2 := Lib.hid (bt BK_0.out b1)
  clear BK_0
  clear b1
  clear AV
  go_wp2_with fail
  refine (GR.out _ B_1.out).mono ?_
  rintro e w2 ⟨hg, rfl⟩
  obtain ⟨g, rfl, hg2⟩ := hgr hg
  clear hg hgr GR
  cases g
  rotate_left
  · go_wp2
    go_ret
    exact ⟨rfl, B_1.out⟩
  have HL : Hid (l.length ≤ 40) := hg2.out rfl
  clear hg2
  obtain ⟨d0, d1⟩ := CE.out _ BK_2.out
  go_wp2_with fail
  refine (CI.out _ _ (HV.out _ B_1.out)).mono ?_
  rintro e w3 ⟨u, rfl, o3, b3⟩
  have B_3 := Lib.hid (bt B_1.out b3)
  clear B_1
  have BK_4 := Lib.hid (bt BK_2.out b3)
  clear BK_2
  have U_5 := Lib.hid (o3.opl)
  clear b3 o3
  clear CI d0 d1
  obtain ⟨uo, uc, rfl⟩ := U_5.out.shape
  obtain ⟨nM, hnM⟩ : ∃ z, z = M.length := ⟨_, rfl⟩
  rw [← hnM] at U_5 ⊢
  have HNM := Lib.hid hnM
  clear hnM
  by_cases hE0 : E = 0
  rotate_left
  · have q1 : (E != 0) = true := by simpa using hE0
    have q2 : decide (E = 0) = false := decide_eq_false hE0
    obtain rfl : nM = 0 := by rw [HNM.out]; exact MZ.out hE0
    go_wp2
    go_ret
    exact ⟨rfl, B_3.out⟩
  subst hE0
  have A := Lib.hid (AF.out (by first | trivial | rfl) HL.out)
  have PU2 := Lib.hid (PU.out A.out)
  have eS := A.out.span
  have eX := A.out.span2
  rw [eS] at EL
  rw [eX] at EX
  obtain ⟨kk, rfl⟩ : ∃ j : Nat, k = (j : Int) := ⟨k.toNat, by have := A.out.lo; omega⟩
  obtain rfl : m = (nM : Int) := by rw [HNM.out]; exact A.out.many.symm
  obtain ⟨ss, hss⟩ : ∃ z, z = kk + nM := ⟨_, rfl⟩
  have hkW := A.out.hi
  have hm1 := A.out.one
  have EK : Hid (elmL (puts l M) a = (elmL l a).take kk ++ (elmL l a).drop ss) := by
    have := A.out.seen
    rw [Int.toNat_natCast, show ((kk : Int) + (nM : Int)).toNat = ss by omega] at this
    exact this
  have HB := Lib.hid A.out.bag
  have LW : Hid ((elmL l a).length ≤ 1024) := (elm_fits l a).1
  have SEC : Hid (∀ z : Id, spanE l z = 0 → spanE (puts l M) z = 0 ∧ (z ≠ a → textL (puts l M) z = textL l z)) := fun z hz => ⟨A.out.sects z hz, fun hne => by unfold textL; rw [A.out.other z hne]⟩
  have ALL : Hid (chkL l = 0 ∧ allL l = sectsM (livesM l l) ∧ (livesM l l).length ≤ 1024 ∧ ∀ i, i < (livesM l l).length + 1 → spanE l ((sectsM (livesM l l)).getD i zid) = 0) := ⟨chkL_yes HB.out, by unfold allL; rw [(bagB_iff l).2 HB.out]; rfl, (lives_fits HB.out).1, fun i hi => sect_where HB.out hi⟩
  clear AF MZ PU A eS eX HB HL
  go_wp2_with fail
  refine (PU2.out _ _ _ (HV.out _ B_3.out) U_5.out).mono ?_
  rintro e w4 ⟨vx, rfl, o4, b4⟩
  have B_6 := Lib.hid (bt B_3.out b4)
  clear B_3
  have BK_7 := Lib.hid (bt BK_4.out b4)
  clear BK_4
  have U_8 := Lib.hid (U_5.out.keeps b4)
  clear U_5
  have X_9 := Lib.hid (o4)
  clear b4 o4
  clear PU2
  clear U_8
  obtain ⟨d0, d1⟩ := CE.out _ BK_7.out
  go_wp2_with fail
  refine (EL.out _ _ (HV.out _ B_6.out)).mono ?_
  rintro e w5 ⟨ve, rfl, o5, b5⟩
  have B_10 := Lib.hid (bt B_6.out b5)
  clear B_6
  have BK_11 := Lib.hid (bt BK_7.out b5)
  clear BK_7
  have X_12 := Lib.hid (X_9.out.keeps b5)
  clear X_9
  have P_13 := Lib.hid (o5.el)
  clear b5 o5
  clear EL d0 d1
  obtain ⟨eo, ec, rfl⟩ := P_13.out.shape
  obtain ⟨WS, hWS⟩ : ∃ z, elmL l a = z := ⟨_, rfl⟩
  obtain ⟨nW, hnW⟩ : ∃ z, z = WS.length := ⟨_, rfl⟩
  rw [hWS] at hkW EK LW P_13 ⊢
  rw [← hnW] at hkW LW P_13 ⊢
  have HNW := Lib.hid hnW
  clear hWS hnW
  have hkN : kk ≤ nW ∧ ss ≤ nW ∧ 1 ≤ nM := by omega
  have HKN := Lib.hid hkN
  have HSS := Lib.hid hss
  clear hss
  obtain ⟨d0, d1⟩ := CE.out _ BK_11.out
  go_wp2_with fail
  refine (EX.out _ _ X_12.out).mono ?_
  rintro e w6 ⟨vn, rfl, o6, b6⟩
  have B_14 := Lib.hid (bt B_10.out b6)
  clear B_10
  have BK_15 := Lib.hid (bt BK_11.out b6)
  clear BK_11
  have X_16 := Lib.hid (X_12.out.keeps b6)
  clear X_12
  have P_17 := Lib.hid (P_13.out.keeps b6)
  clear P_13
  have R_18 := Lib.hid (o6.el)
  clear b6 o6
  clear EX d0 d1
  go_wp2_with fail
  refine (AL.out _ _ (HV.out _ B_14.out)).mono ?_
  rintro e w7 ⟨lo, lc, rfl, o7, b7⟩
  have B_19 := Lib.hid (bt B_14.out b7)
  clear B_14
  have BK_20 := Lib.hid (bt BK_15.out b7)
  clear BK_15
  have X_21 := Lib.hid (X_16.out.keeps b7)
  clear X_16
  have P_22 := Lib.hid (P_17.out.keeps b7)
  clear P_17
  have R_23 := Lib.hid (R_18.out.keeps b7)
  clear R_18
  have I_24 := Lib.hid (Go.Proofs.YtgjbnbojjgbmcaaGreat.Ids.own o7)
  clear b7 o7
  clear AL
  obtain ⟨eA1, eA2, hVl, hS⟩ := ALL.out
  rw [eA2] at I_24 ⊢
  rw [eA1]
  have XAT : Hid (∀ i, i < (livesM l l).length + 1 → spanE l ((sectsM (livesM l l)).getD i zid) = 0) := hS
  have HNS := sectsM_len (livesM l l)
  clear ALL eA1 eA2 hS
  obtain ⟨V, hV⟩ : ∃ z, livesM l l = z := ⟨_, rfl⟩
  rw [hV] at I_24 HNS hVl XAT ⊢
  obtain ⟨L, hL⟩ : ∃ z, z = sectsM V := ⟨_, rfl⟩
  rw [← hL] at I_24 XAT HNS ⊢
  obtain ⟨NS, hN⟩ : ∃ z, z = L.length := ⟨_, rfl⟩
  rw [← hN] at I_24 HNS ⊢
  have hNm : NS ≤ 1025 := by omega
  have HNV := Lib.hid HNS
  have HLN := Lib.hid hN
  have HNm := Lib.hid hNm
  obtain ⟨dd, hdd⟩ : ∃ z : Nat, (nW : Int) - (kk : Int) = (z : Int) := ⟨nW - kk, by omega⟩
  have LWW := LW.out
  have hde := IntWalk.i64_in (dd : Int) (by omega)
  have hse := IntWalk.i64_in (ss : Int) (by omega)
  have hsi : (kk : Int) + (nM : Int) = (ss : Int) := by have := HSS.out; omega
  have k1 : decide ((kk : Int) < 0) = false := decide_eq_false (by omega)
  have k2 : decide ((dd : Int) < (nM : Int)) = false := decide_eq_false (by have := HSS.out; omega)
  have k3 : decide (dd < nM) = false := decide_eq_false (by have := HSS.out; omega)
  have k4 : decide ((nM : Int) < 1) = false := decide_eq_false (by omega)
  have k5 : decide (nM < 1) = false := decide_eq_false (by omega)
  have k6 : decide (nM = 0) = false := decide_eq_false (by omega)
  have k7 : ((nM : Int) != (nM : Int)) = false := by simp
  obtain ⟨V1, cs4, hV1, hI1⟩ := el_to P_22.out HKN.out.1
  obtain ⟨V2, cs10, hV2, hI2⟩ := el_from P_22.out HKN.out.2.1 (by intro h; have h1 := HNW.out; rw [h] at h1; have h2 := HKN.out; simp at h1; omega)
  have HI1 := Lib.hid hI1
  have HI2 := Lib.hid hI2
  have hl1 : (WS.take kk).length = kk := by rw [List.length_take, ← HNW.out]; have := HKN.out; omega
  have hl2 : (WS.drop ss).length = nW - ss := by rw [List.length_drop, ← HNW.out]
  have HL1 := Lib.hid hl1
  have HL2 := Lib.hid hl2
  have KN := HKN.out
  clear hV hL hN HNS hVl hNm hkW hkN hm1 hI1 hI2 hl1 hl2
  go_upto_region 13 with fail
  refine wp_region_held_drew (S := fun w' => Below w7.heap.size w7 w') (by kernel_rfl) (drew1 _) (fun hHeld => ?_)
  generalize w7.drew = wd at hHeld ⊢
  refine rN 1 ?_
  refine rN 2 ?_
  refine rN 3 ?_
  refine rN 5 ?_
  refine rN 6 ?_
  refine rN 7 ?_
  refine rN 8 ?_
  refine rN 9 ?_
  clear hV1 hV2 k1 k2 k3 k4 k5 k6 k7 hde hse hsi hdd
  refine wpAnyH_ready (rs := [0]) (by kernel_rfl) (by simp) ?_
  refine AllReadyH.cons rfl (fun K hK => ?_) AllReadyH.nil
  go_simp
  have O0 := Lib.hid (own_none wd w7.heap.size hHeld.size 91 4)
  refine hK.out _ _ (hHeld.alloc hHeld.size _) (fun hNew => ?_)
  clear hHeld
  have hHeld := hNew
  clear hNew hK K
  refine rX ?_
  have XZ : Hid (∃ wz, wz = wd.alloc (.cells #[] 91)) := ⟨_, rfl⟩
  obtain ⟨wz, hwz⟩ := XZ.out
  rw [← hwz] at O0 hHeld ⊢
  clear XZ
  refine wpAnyH_ready (rs := [4]) (by kernel_rfl) (by simp) ?_
  refine AllReadyH.cons rfl (fun K hK => ?_) AllReadyH.nil
  obtain ⟨hc4, hd4⟩ := HI1.out _ hHeld
  rw [HL1.out] at hc4
  refine step_append_sees rfl (.tmp 112) (.tmp 115) 52 91 rfl Tryz.underlying52 elm_info rfl (by decide) w7.heap.size _ 0 _ rfl O0.out _ kk _ rfl hc4 (Enc.rows_one hd4) (by omega) (by omega) hHeld.size ?_
  intro v4 wa4 oa4 ga4 ba4
  have O4 : Hid (wa4.ownsRow w7.heap.size 91 4 v4 (0 + kk) ([] ++ cs4)) := oa4
  refine hK.out _ _ (hHeld.trans ba4) (fun hNew => ?_)
  clear hHeld
  have hHeld := hNew
  clear hNew hK K oa4 ga4 hc4 hd4 ba4
  refine rX ?_
  refine wpAnyH_ready (rs := [10]) (by kernel_rfl) (by simp) ?_
  refine AllReadyH.cons rfl (fun K hK => ?_) AllReadyH.nil
  obtain ⟨hc10, hd10⟩ := HI2.out _ hHeld
  rw [HL2.out] at hc10
  refine step_append_sees rfl (.tmp 116) (.tmp 121) 52 91 rfl Tryz.underlying52 elm_info rfl (by decide) w7.heap.size _ (0 + kk) _ rfl O4.out _ (nW - ss) _ rfl hc10 (Enc.rows_one hd10) (by omega) (by omega) hHeld.size ?_
  intro v10 wa10 oa10 ga10 ba10
  have O10 : Hid (wa10.ownsRow w7.heap.size 91 4 v10 ((0 + kk) + (nW - ss)) (([] ++ cs4) ++ cs10)) := oa10
  refine hK.out _ _ (hHeld.trans ba10) (fun hNew => ?_)
  clear hHeld
  have hHeld := hNew
  clear hNew hK K oa10 ga10 hc10 hd10 ba10
  refine rX ?_
  refine rN 11 ?_
  refine wpAnyH_done (by kernel_rfl) ?_ _
  have WI : Hid (ElL wa10 v10 (elmL (puts l M) a)) := by
    have h := O10.out
    rw [List.nil_append] at h
    rw [EK.out]
    exact Seq.own h (Enc.rows_append (HI1.out _ hHeld).2 (HI2.out _ hHeld).2)
  have BZ := Lib.hid hHeld
  clear hHeld O0 O4 O10 HI1 HI2 HL1 HL2 KN LWW EK hwz
  have B_25 := Lib.hid (bt B_19.out BZ.out)
  clear B_19
  have BK_26 := Lib.hid (bt BK_20.out BZ.out)
  clear BK_20
  have X_27 := Lib.hid (X_21.out.keeps BZ.out)
  clear X_21
  have P_28 := Lib.hid (P_22.out.keeps BZ.out)
  clear P_22
  have R_29 := Lib.hid (R_23.out.keeps BZ.out)
  clear R_23
  have I_30 := Lib.hid (I_24.out.keeps BZ.out)
  clear I_24
  clear P_28
  clear BZ
  have R4 : Hid (∀ W : World, Below wa10.heap.size wa10 W → ElL W vn (elmL (puts l M) a)) := fun W h => R_29.out.keeps h
  have W4 : Hid (∀ W : World, Below wa10.heap.size wa10 W → ElL W v10 (elmL (puts l M) a)) := fun W h => WI.out.keeps h
  have I4 : Hid (∀ W : World, Below wa10.heap.size wa10 W → Ids W (.slice lo NS lc) L) := fun W h => I_30.out.keeps h
  have X4 : Hid (∀ W : World, Below wa10.heap.size wa10 W → OpL W vx (puts l M)) := fun W h => X_27.out.keeps h
  have Z4 : Hid (Below wa10.heap.size wa10 wa10) := Below.refl _ _
  have HNm2 := HNm.out
  clear R_29 WI I_30 X_27
  go_wp2
  go_loopw [25] (fun i wr => ∃ q : Nat, q ≤ NS ∧ i = .int .i64 (q : Int) ∧ Hid (Below wa10.heap.size wa10 wr)) (fun i _ => NS - (intOf i).toNat)
  case atStart => exact ⟨0, by omega, rfl, Z4⟩
  case round =>
    clear Z4
    obtain ⟨q, hq, rfl, hbq⟩ := hrel
    have BW := Lib.hid (bt B_25.out hbq.out)
    by_cases hqN : q < NS
    rotate_left
    · have q3 : decide (q < NS) = false := by simpa using hqN
      have SX := Lib.hid (SM.out _ _ _ _ (R4.out _ hbq.out) (W4.out _ hbq.out))
      clear I4 X4 XAT TL TX SEC HV R4 W4 SM
      go_wp2_with fail
      refine SX.out.mono ?_
      rintro e wf ⟨rfl, bf⟩
      have BF := Lib.hid (bt BW.out bf)
      clear bf SX
      go_wp2
      go_ret
      exact ⟨rfl, BF.out⟩
    have q3 : decide (q < NS) = true := by simpa using hqN
    have q4 : (0 : Int) ≤ (q : Int) := by omega
    have q5 : (q : Int) < (NS : Int) := by omega
    have hjV : q < V.length + 1 := by have := HNV.out; omega
    have hjl : q < L.length := by have := HLN.out; omega
    obtain ⟨bb, oo, e, hbb, h0, h1⟩ := Ids.at (I4.out wr hbq.out) q hjl
    subst e
    have x3 := XAT.out q hjV
    obtain ⟨x4, x5⟩ := SEC.out _ x3
    have TX1 := TL.out wr _ (L.getD q zid) (HV.out wr BW.out)
    have TY1 : Hid (∀ W : World, Below wr.heap.size wr W → Calls Tryz.prog 30 #[vx, .agg #[.int .u32 ((L.getD q zid).t : Int), .int .u8 ((L.getD q zid).r : Int)]] W fun e w' => e = .returned (.tuple #[.string (str (textL (puts l M) (L.getD q zid))), .int .i64 (spanE (puts l M) (L.getD q zid))]) ∧ Below W.heap.size W w') := fun W h => TX.out W _ (L.getD q zid) (X4.out W (hbq.out.trans (h.mono hbq.out.size)))
    rw [x3] at TX1
    rw [x4] at TY1
    have HAq := Lib.hid (HA.out (L.getD q zid))
    have X5 : Hid (¬ ((L.getD q zid).t = sx ∧ (L.getD q zid).r = sy) → str (textL (puts l M) (L.getD q zid)) = str (textL l (L.getD q zid))) := fun h => by rw [x5 (fun e => h (HAq.out.1 e))]
    obtain ⟨⟨t0, r0, ht0, hr0⟩, hs⟩ : ∃ z, L.getD q zid = z := ⟨_, rfl⟩
    rw [hs] at h0 h1 TX1 TY1 X5
    simp only at h0 h1 TX1 TY1 X5
    obtain ⟨S1, hS1⟩ : ∃ z, str (textL l ⟨t0, r0, ht0, hr0⟩) = z := ⟨_, rfl⟩
    obtain ⟨S2, hS2⟩ : ∃ z, str (textL (puts l M) ⟨t0, r0, ht0, hr0⟩) = z := ⟨_, rfl⟩
    rw [hS1] at TX1
    rw [hS2] at TY1
    rw [hS1, hS2] at X5
    have ELT : Hid (∀ W : World, Below wr.heap.size wr W → W.cell? ⟨bb, oo + q * 2, none⟩ = some (.int .u32 (t0 : Int)) ∧ W.cell? ⟨bb, oo + q * 2 + 1, none⟩ = some (.int .u8 (r0 : Int))) := fun W h => ⟨(h.cell (p := ⟨bb, oo + q * 2, none⟩) hbb).trans h0, (h.cell (p := ⟨bb, oo + q * 2 + 1, none⟩) hbb).trans h1⟩
    have CEQ : Hid (∀ W : World, Below wr.heap.size wr W → W.cell? ⟨w.heap.size, 0, none⟩ = some (.int .u32 (sx : Int)) ∧ W.cell? ⟨w.heap.size, 1, none⟩ = some (.int .u8 (sy : Int))) := fun W h => CE.out W (bt BK_26.out (hbq.out.trans (h.mono hbq.out.size)))
    have TX2 := Lib.hid TX1
    clear TX1 x3 x4 x5 HAq hs hS1 hS2 hbb TL TX I4 X4 XAT SEC HV HA CE R4 W4 SM
    go_wp2_with fail
    refine TX2.out.mono ?_
    rintro e wp ⟨rfl, bp⟩
    have BP := Lib.hid (bt hbq.out bp)
    have BQ0 := Lib.hid bp
    obtain ⟨y0, y1⟩ := ELT.out _ bp
    clear bp h0 h1 TX2
    go_wp2_with fail
    refine (TY1.out _ BQ0.out).mono ?_
    rintro e wv ⟨rfl, bv⟩
    have BQ := Lib.hid (bt BP.out bv)
    have BT := Lib.hid (bt BQ0.out bv)
    obtain ⟨z0, z1⟩ := ELT.out _ BT.out
    obtain ⟨s0, s1⟩ := CEQ.out _ BT.out
    clear bv y0 y1 TY1 BP BQ0 ELT hbq BW
    by_cases hT : t0 = sx
    · by_cases hR : r0 = sy
      · subst hT hR
        have u1 : ((t0 : Int) != (t0 : Int)) = false := by simp
        have u2 : ((r0 : Int) != (r0 : Int)) = false := by simp
        clear X5
        go_wp2
        go_quiet (fail)
        go_wp2
        go_roundw
        case rel => exact ⟨q + 1, by omega, by go_num, below_draw BQ.out _⟩
        case measure => simp [intOf]; omega
      · subst hT
        obtain rfl := X5.out (fun h => hR h.2)
        have u1 : ¬ ((r0 : Int) = (sy : Int)) := by omega
        have u2 : ¬ r0 = sy := hR
        have u3 : decide ((r0 : Int) = (sy : Int)) = false := decide_eq_false u1
        have u4 : decide (r0 = sy) = false := decide_eq_false hR
        have u5 : (S2.toList == S2.toList) = true := by simp
        clear X5 hR
        go_wp2
        go_quiet (fail)
        go_wp2
        go_roundw
        case rel => exact ⟨q + 1, by omega, by go_num, below_draw BQ.out _⟩
        case measure => simp [intOf]; omega
    · obtain rfl := X5.out (fun h => hT h.1)
      have u1 : ¬ ((t0 : Int) = (sx : Int)) := by omega
      have u2 : ¬ t0 = sx := hT
      have u3 : decide ((t0 : Int) = (sx : Int)) = false := decide_eq_false u1
      have u4 : decide (t0 = sx) = false := decide_eq_false hT
      have u5 : (S2.toList == S2.toList) = true := by simp
      clear X5 hT
      go_wp2
      go_quiet (fail)
      go_wp2
      go_roundw
      case rel => exact ⟨q + 1, by omega, by go_num, below_draw BQ.out _⟩
      case measure => simp [intOf]; omega
end Go.Proofs.YtgjbnbojjgbmcaaGreat.Edits
