/- An insert at a number, a delete of one that is seen: what is seen then. Conditions: none. Deletes of what is seen, and many operations one behind the other: what is seen then. Conditions: none. What the calls of edit answer, and that it is what was put one behind the other. Conditions: none. Sets of times, cut off below a time; two of them gone through side by side, stretch by stretch. Conditions: the spans may be. octavo/span: Check, Count, Twin, Same: what each answers. Conditions: the slices' cells are spans. octavo/span: Has with what it calls, the two choosers, upFrom, next, with, stretches: what each answers. Conditions: the slices' cells are spans. octavo/span.with: what it answers. Conditions: the row is the call's own and holds spans that end at MaxTime at the most. octavo/clock: Check, Count, Top, and stamp.Check: what each answers. Conditions: the slices' cells are replicas' s -/
import Derived.Test.YtgjbnbojjgbmcaaGreatChecked
import Derived.WalkKit
import Derived.WalkSpells
import Derived.WalkLawsBesides
import Derived.Laws.BytesArg
import Derived.Lib.Hide
import Derived.Deep.LoopGhost
import Derived.Laws.AppendOwnNone
import Derived.Laws.OwnMore
import Derived.WideShapes
import Derived.Maps.AppendAt
import Derived.RegionTactic
import Derived.Deep.RegionHeld3
import Derived.Deep.DrawnRows
import Derived.Deep.QuietTactic
import Derived.BigQuiet
import Derived.IntWalk
import Derived.Deep.DeepCutAuto
import Derived.ScopeJumps
import Derived.Test.YtgjbnbojjgbmcaaGreatProg
import Derived.LoopTactic
import Derived.Laws.EntriesVeiled
import Derived.RowKit
import Derived.Lib.DecodeN
import Derived.Lib.RuneBytes
import Derived.Shelf.Abstract
import Derived.RangeFuncBox
import Derived.RangeFuncLeaves
import Derived.RangeFuncNested
import Derived.RangeFuncBound
import Derived.RangeFuncCalls
import Derived.OwnWalkIn
import Derived.TacticsInMore
import Derived.LoopNIn
import Derived.LoopIn
import Derived.Maps.Own
import Derived.Maps.OwnOps
import Derived.Maps.Views
import Derived.Test.YtgjbnbojjgbmcaaGreatPk06
import Derived.Test.YtgjbnbojjgbmcaaGreatPk16
import Derived.Test.YtgjbnbojjgbmcaaGreatPk23
import Derived.Test.YtgjbnbojjgbmcaaGreatPk15
import Derived.Test.YtgjbnbojjgbmcaaGreatPk05
import Derived.Test.YtgjbnbojjgbmcaaGreatPk04
import Derived.Test.YtgjbnbojjgbmcaaGreatPk03
import Derived.Test.YtgjbnbojjgbmcaaGreatPk02
import Derived.Test.YtgjbnbojjgbmcaaGreatPk01
import Derived.Test.YtgjbnbojjgbmcaaGreatPk14
import Derived.Test.YtgjbnbojjgbmcaaGreatPk20
import Derived.Test.YtgjbnbojjgbmcaaGreatPk09

namespace Go.Proofs.YtgjbnbojjgbmcaaGreat.Edits
open Ops Stamp Bags Marks Homes Covers Views Go.Proofs.YtgjbnbojjgbmcaaGreat.Place
theorem cnt_of {l : List Opn} (hl : Bag l) {j : Nat} (hj : j < (livesM l l).length + 1) {p : List Run} (h : homeM (livesM l l) p = sec l j) : cntM (livesM l l) p = j := by
  have hL := liv_bag hl
  rw [homeM_is hL] at h
  have := cntM_le (livesM l l) p
  exact sects_inj hL (by omega) hj h
theorem of_cnt {l : List Opn} (hl : Bag l) {j : Nat} {p : List Run} (h : cntM (livesM l l) p = j) : homeM (livesM l l) p = sec l j := by
  rw [homeM_is (liv_bag hl), h]
/-- What the place left of a number stands on is there, as far as it is homed in the section. -/
theorem left_has {l : List Opn} (hl : Bag l) {j k : Nat} (hj : j < (livesM l l).length + 1) (hk : k ≤ (elmL l (sec l j)).length) {i : Nat} (hi : i < (all (leftM (livesM l l) j (elmL l (sec l j)) k)).length)
    (e : homeM (livesM l l) (cutN (leftM (livesM l l) j (elmL l (sec l j)) k) (i + 1)) = sec l j) : hasO l ((all (leftM (livesM l l) j (elmL l (sec l j)) k)).getD i zid) = true := by
  unfold leftM at hi e ⊢
  by_cases h0 : 0 < k
  · have hk1 : k - 1 < (elmL l (sec l j)).length := by omega
    rw [if_pos h0, getD_of hk1] at hi e ⊢
    exact seen_has (List.getElem_mem hk1) hi e
  · rw [if_neg h0] at hi e ⊢
    cases j with
    | zero => simp [begin_zero, all] at hi
    | succ j =>
      have hj' : j < (livesM l l).length := by omega
      rw [show ((j + 1 : Nat) : Int) = (j : Int) + 1 by omega, begin_succ hj'] at hi e ⊢
      have hv := (mem_livesM.1 (List.getElem_mem hj'))
      have hmv := hl.2.1 _ hv.1
      have hch := ((mayB_iff _).1 (mayO_parts hmv).2.1).2.2.1
      by_cases h : i + 1 = (all ((livesM l l)[j]'hj').pl).length
      · rw [last_getD (last_tgt hmv) h, mark_tgt hmv hv.2.1]
        exact hasO_iff.2 ⟨_, hv.1, rfl⟩
      · exfalso
        have hc := cnt_of hl hj e
        have h1 := (nb_iff (liv_bag hl) j hj').2 (by rw [hc]; omega)
        rw [nb_iff0, all_cutN hch] at h1
        have h2 : all ((livesM l l)[j]'hj').pl = (all ((livesM l l)[j]'hj').pl).take (i + 1) ++ (all ((livesM l l)[j]'hj').pl).drop (i + 1) := (List.take_append_drop _ _).symm
        cases h3 : (all ((livesM l l)[j]'hj').pl).drop (i + 1) with
        | nil =>
          have := congrArg List.length h3
          rw [List.length_drop] at this
          simp at this
          omega
        | cons a m =>
          have h4 := hold_front ((all ((livesM l l)[j]'hj').pl).take (i + 1)) a m
          rw [← h3, ← h2, hold_neg] at h4
          omega
/-- An insert under the place left of a number. -/
structure Ins (l : List Opn) (t j k : Nat) (o : Opn) : Prop extends New l t o where
  ins : o.k = 1
  sect : j < (livesM l l).length + 1
  num : k ≤ (elmL l (sec l j)).length
  any : Chain (leftM (livesM l l) j (elmL l (sec l j)) k)
  child : all o.pl = all (leftM (livesM l l) j (elmL l (sec l j)) k) ++ [idO o]
theorem Ins.home {l : List Opn} {t j k : Nat} {o : Opn} (h : Ins l t j k o) : homeM (livesM l l) o.pl = sec l j := by
  refine of_cnt h.bag ?_
  rw [cnt_new (liv_bag h.bag) (old_lives h.bag h.old) (a := idO o) h.new (m := []) h.child]
  exact home_left h.bag h.sect h.num
theorem Ins.isB {l : List Opn} {t j k : Nat} {o : Opn} (h : Ins l t j k o) : isB (withO l o) (livesM l l) (sec l j) o = true := by
  rw [isB_iff]
  intro i hi e
  have hch := ((mayB_iff _).1 (mayO_parts h.may).2.1).2.2.1
  have hoff : manyN o = (all (leftM (livesM l l) j (elmL l (sec l j)) k)).length := by
    unfold manyN offs ownB
    rw [if_pos (by simp [h.ins]), h.child, List.length_append]
    simp
  rw [hoff] at hi
  have e2 : cutN o.pl (i + 1) = cutN (leftM (livesM l l) j (elmL l (sec l j)) k) (i + 1) := by
    refine all_inj (chain_cutN hch) (chain_cutN h.any) ?_
    rw [all_cutN hch, all_cutN h.any, h.child, List.take_append_of_le_length (by omega)]
  rw [e2] at e
  rw [h.has, h.child, List.getD_eq_getElem?_getD, List.getElem?_append_left hi, ← List.getD_eq_getElem?_getD, left_has h.bag h.sect h.num hi e, Bool.true_or]
theorem Ins.count {l : List Opn} {t j k : Nat} {o : Opn} (h : Ins l t j k o) {x : Opn} : x ∈ countL (withO l o) (livesM l l) (sec l j) ↔ x ∈ countL l (livesM l l) (sec l j) ∨ x = o := by
  rw [h.toNew.count]
  exact ⟨fun hx => hx.imp id fun h2 => h2.1, fun hx => hx.imp id fun h2 => ⟨h2, h.home, h.isB⟩⟩
theorem goneM_ext {c d : List Opn} (h : ∀ o, o.k = 3 → (o ∈ c ↔ o ∈ d)) (a : Id) : goneM c a = goneM d a := by
  rw [Bool.eq_iff_iff, goneM_iff, goneM_iff]
  exact ⟨fun ⟨o, h1, h2, h3⟩ => ⟨o, (h o h2).1 h1, h2, h3⟩, fun ⟨o, h1, h2, h3⟩ => ⟨o, (h o h2).2 h1, h2, h3⟩⟩
/-- Where the place left of a number stands among what is seen. -/
theorem left_at {l : List Opn} (hl : Bag l) {j k : Nat} (hj : j < (livesM l l).length + 1) (hk : k ≤ (elmL l (sec l j)).length) {i : Nat} (hi : i < (elmL l (sec l j)).length) :
    (i < k → Go.Proofs.YtgjbnbojjgbmcaaGreat.Place.hold (all ((elmL l (sec l j))[i]'hi).pl) (all (leftM (livesM l l) j (elmL l (sec l j)) k)) ≤ 0) ∧ (k ≤ i → Go.Proofs.YtgjbnbojjgbmcaaGreat.Place.hold (all ((elmL l (sec l j))[i]'hi).pl) (all (leftM (livesM l l) j (elmL l (sec l j)) k)) = 1) := by
  have hs := elm_sorted l (sec l j)
  have mi := mem_elm_l (List.getElem_mem hi)
  unfold leftM
  by_cases h0 : 0 < k
  · have hk1 : k - 1 < (elmL l (sec l j)).length := by omega
    have mk' := mem_elm_l (List.getElem_mem hk1)
    rw [if_pos h0, getD_of hk1]
    refine ⟨fun h => ?_, fun h => ?_⟩
    · by_cases e : i = k - 1
      · subst e
        have := (hold_eq (all ((elmL l (sec l j))[k - 1]'hi).pl) (all ((elmL l (sec l j))[k - 1]'hi).pl)).2 rfl
        omega
      · have := (pre_iff mi.2.2.2.2.1 mk'.2.2.2.2.1).1 (List.pairwise_iff_getElem.1 hs i (k - 1) hi hk1 (by omega))
        omega
    · have h1 := (pre_iff mk'.2.2.2.2.1 mi.2.2.2.2.1).1 (List.pairwise_iff_getElem.1 hs (k - 1) i hk1 hi (by omega))
      rw [hold_neg, h1]
      omega
  · rw [if_neg h0]
    refine ⟨fun h => by omega, fun _ => ?_⟩
    have hmi := mi.2.2.2.2.1
    have hci := (mayB_iff _).1 (mayO_parts hmi).2.1
    cases j with
    | zero =>
      show Go.Proofs.YtgjbnbojjgbmcaaGreat.Place.hold (all ((elmL l (sec l 0))[i]'hi).pl) [] = 1
      have hne : all ((elmL l (sec l 0))[i]'hi).pl ≠ [] := fun h => by
        have h2 := (all_nil hci.2.2.1).1 h
        have h3 := hci.1
        rw [h2] at h3
        simp at h3
      cases h : all ((elmL l (sec l 0))[i]'hi).pl with
      | nil => exact absurd h hne
      | cons b q => rfl
    | succ j =>
      have hj' : j < (livesM l l).length := by omega
      rw [show ((j + 1 : Nat) : Int) = (j : Int) + 1 by omega, begin_succ hj']
      have hv := (mem_livesM.1 (List.getElem_mem hj'))
      have hmv := hl.2.1 _ hv.1
      have hcv := (mayB_iff _).1 (mayO_parts hmv).2.1
      have hc := cnt_of hl hj mi.2.2.2.1
      have h1 := nb_iff0.1 ((nb_iff (liv_bag hl) j hj').2 (by rw [hc]; omega))
      have h2 := hold_neg (all ((livesM l l)[j]'hj').pl) (all ((elmL l (sec l (j + 1)))[i]'hi).pl)
      have h3 := hold_range (all ((livesM l l)[j]'hj').pl) (all ((elmL l (sec l (j + 1)))[i]'hi).pl)
      have h4 : Go.Proofs.YtgjbnbojjgbmcaaGreat.Place.hold (all ((livesM l l)[j]'hj').pl) (all ((elmL l (sec l (j + 1)))[i]'hi).pl) ≠ 0 := fun e => by
        have e2 := (hold_same hcv.2.2.1 hci.2.2.1).1 e
        have e3 : tgt ((livesM l l)[j]'hj') = tgt ((elmL l (sec l (j + 1)))[i]'hi) := by unfold tgt; simp only [e2]
        rw [mark_tgt hmv hv.2.1, ins_tgt hmi mi.2.2.2.2.2] at e3
        have e4 := same_op hl hv.1 mi.2.2.1 e3
        have k1 := hv.2.1
        have k2 := mi.2.2.2.2.2
        rw [e4] at k1
        omega
      omega
theorem Ins.elm {l : List Opn} {t j k : Nat} {o : Opn} (h : Ins l t j k o) : elmL (withO l o) (sec l j) = (elmL l (sec l j)).take k ++ o :: (elmL l (sec l j)).drop k := by
  have h0 := all_mk h.bag h.sect
  have h1 := (spanE_new h.toNew (sec l j)).2 h0
  have hpw := counts_pw h.bagw (sec l j)
  rw [h.lives] at hpw
  rw [elm_yes h1, h.lives]
  have hX : ∀ y ∈ elmL l (sec l j), mayO y = true := fun y hy => (mem_elm_l hy).2.2.2.2.1
  have hat : ∀ (i : Nat) (hi : i < (elmL l (sec l j)).length), (i < k → pre ((elmL l (sec l j))[i]'hi) o) ∧ (k ≤ i → pre o ((elmL l (sec l j))[i]'hi)) := fun i hi => by
    have mi := hX _ (List.getElem_mem hi)
    have ml := (mem_elm_l (List.getElem_mem hi)).2.2.1
    have hn := hold_new (a := idO o) h.new [] (all ((elmL l (sec l j))[i]'hi).pl) (all (leftM (livesM l l) j (elmL l (sec l j)) k)) (upto_any mi (h.old _ ml))
    rw [← h.child] at hn
    have hl := left_at h.bag h.sect h.num hi
    refine ⟨fun hik => (pre_iff mi h.may).2 ?_, fun hik => (pre_iff h.may mi).2 ?_⟩
    · have := hl.1 hik
      have h3 := hold_range (all ((elmL l (sec l j))[i]'hi).pl) (all (leftM (livesM l l) j (elmL l (sec l j)) k))
      rw [hn]
      split <;> omega
    · have := hl.2 hik
      rw [hold_neg, hn, this]
      simp
  refine seen_ext hpw.1 hpw.2 ?_ (fun y => ?_)
  · refine List.pairwise_append.2 ⟨(elm_sorted _ _).sublist (List.take_sublist _ _), List.Pairwise.cons (fun y hy => ?_) ((elm_sorted _ _).sublist (List.drop_sublist _ _)), fun x hx y hy => ?_⟩
    · obtain ⟨i, hi, rfl⟩ := List.getElem_of_mem hy
      rw [List.length_drop] at hi
      rw [List.getElem_drop]
      exact (hat _ (by omega)).2 (by omega)
    · obtain ⟨i, hi, rfl⟩ := List.getElem_of_mem hx
      rw [List.length_take] at hi
      rw [List.getElem_take]
      rcases List.mem_cons.1 hy with rfl | hy
      · exact (hat i (by omega)).1 (by omega)
      · obtain ⟨m, hm, rfl⟩ := List.getElem_of_mem hy
        rw [List.length_drop] at hm
        rw [List.getElem_drop]
        exact List.pairwise_iff_getElem.1 (elm_sorted l (sec l j)) i (k + m) (by omega) (by omega) (by omega)
  · have hg : ∀ a, goneM (countL (withO l o) (livesM l l) (sec l j)) a = goneM (countL l (livesM l l) (sec l j)) a := goneM_ext fun x hx => by
      rw [h.count]
      exact ⟨fun h2 => h2.elim id (fun e => by rw [e, h.ins] at hx; cases hx), .inl⟩
    have hgo : goneM (countL l (livesM l l) (sec l j)) (idO o) = false := by
      rw [← Bool.not_eq_true, goneM_iff]
      rintro ⟨x, hx, _, e⟩
      have hxl := (mem_countL.1 hx).1.1
      have h1 := tgt_le (h.bag.2.1 x hxl)
      have h2 := h.old x hxl
      have h3 := h.new
      rw [e] at h1
      have h4 : o.t ≤ x.t := h1
      omega
    have hmem : y ∈ (elmL l (sec l j)).take k ++ o :: (elmL l (sec l j)).drop k ↔ y ∈ elmL l (sec l j) ∨ y = o := by
      conv => rhs; rw [← List.take_append_drop k (elmL l (sec l j))]
      simp only [List.mem_append, List.mem_cons]
      constructor
      · rintro (h1 | h1 | h1)
        · exact .inl (.inl h1)
        · exact .inr h1
        · exact .inl (.inr h1)
      · rintro ((h1 | h1) | h1)
        · exact .inl h1
        · exact .inr (.inr h1)
        · exact .inr (.inl h1)
    rw [hmem, mem_seen h0, hg, h.count]
    constructor
    · rintro (⟨h1, h2⟩ | rfl)
      · exact ⟨.inl h1, h2⟩
      · exact ⟨.inr rfl, h.ins, hgo⟩
    · rintro ⟨h1 | rfl, h2⟩
      · exact .inl ⟨h1, h2⟩
      · exact .inr rfl
end Go.Proofs.YtgjbnbojjgbmcaaGreat.Edits

namespace Go.Proofs.YtgjbnbojjgbmcaaGreat.Edits
open Ops Stamp Bags Marks Homes Covers Views Go.Proofs.YtgjbnbojjgbmcaaGreat.Place
/-- Inserts, each under the one ahead. -/
def Chd : List Run → Nat → List Opn → Prop
  | _, _, [] => True
  | p, t, o :: os => t < o.t ∧ mayO o = true ∧ o.k = 1 ∧ all o.pl = all p ++ [idO o] ∧ Chd o.pl o.t os
theorem puts_ins {j : Nat} : ∀ (os : List Opn) {l : List Opn} {t k : Nat}, Bag l → Old l t → j < (livesM l l).length + 1 → k ≤ (elmL l (sec l j)).length → Chain (leftM (livesM l l) j (elmL l (sec l j)) k) → Chd (leftM (livesM l l) j (elmL l (sec l j)) k) t os → l.length + os.length ≤ 1024 →
    Bag (puts l os) ∧ livesM (puts l os) (puts l os) = livesM l l ∧ elmL (puts l os) (sec l j) = (elmL l (sec l j)).take k ++ os ++ (elmL l (sec l j)).drop k ∧ (∀ s, s ≠ sec l j → elmL (puts l os) s = elmL l s) ∧
    (∀ x, x ∈ countL l (livesM l l) (sec l j) ∨ x ∈ os → x ∈ countL (puts l os) (livesM l l) (sec l j))
  | [], l, t, k, hb, _, _, _, _, _, _ => ⟨hb, rfl, by simp [puts], fun _ _ => rfl, fun x hx => hx.elim id (fun h => by cases h)⟩
  | o :: os, l, t, k, hb, ho, hj, hk, hch, ⟨c1, c2, c3, c4, c5⟩, hlen => by
    have hl1 := withO_len l o
    rw [List.length_cons] at hlen
    have hi : Ins l t j k o := ⟨⟨hb, ho, c2, c1, by omega, by unfold contB; simp [c3]⟩, c3, hj, hk, hch, c4⟩
    have hE := hi.elm
    have hS := sec_new hi.toNew j
    have hL := hi.lives
    have hlen2 : (elmL (withO l o) (sec (withO l o) j)).length = (elmL l (sec l j)).length + 1 := by
      rw [hS, hE, List.length_append, List.length_cons, List.length_take, List.length_drop]
      omega
    have hleft : leftM (livesM (withO l o) (withO l o)) j (elmL (withO l o) (sec (withO l o) j)) (k + 1) = o.pl := by
      unfold leftM
      rw [if_pos (by omega), hS, hE, Nat.add_sub_cancel, List.getD_eq_getElem?_getD, List.getElem?_append_right (by rw [List.length_take]; omega), List.length_take, show k - min k (elmL l (sec l j)).length = 0 by omega]
      rfl
    obtain ⟨r1, r2, r3, r4, r5⟩ := puts_ins os (l := withO l o) (t := o.t) (k := k + 1) hi.bagw hi.old2 (by rw [hL]; exact hj) (by rw [hlen2]; omega) (by rw [hleft]; exact ((mayB_iff _).1 (mayO_parts c2).2.1).2.2.1) (by rw [hleft]; exact c5) (by omega)
    rw [hL] at r2 r5
    rw [hS] at r3 r4 r5
    rw [puts_cons]
    refine ⟨r1, r2, ?_, fun s hs => ?_, fun x hx => r5 x ?_⟩
    · rw [r3, hE]
      have e1 : ((elmL l (sec l j)).take k ++ o :: (elmL l (sec l j)).drop k).take (k + 1) = (elmL l (sec l j)).take k ++ [o] := by
        rw [List.take_append, List.length_take, show k + 1 - min k (elmL l (sec l j)).length = 1 by omega, List.take_of_length_le (by rw [List.length_take]; omega)]
        rfl
      have e2 : ((elmL l (sec l j)).take k ++ o :: (elmL l (sec l j)).drop k).drop (k + 1) = (elmL l (sec l j)).drop k := by
        rw [List.drop_append, List.length_take, show k + 1 - min k (elmL l (sec l j)).length = 1 by omega, List.drop_eq_nil_of_le (by rw [List.length_take]; omega)]
        rfl
      rw [e1, e2]
      simp
    · rw [r4 s hs, hi.elm_other (by rw [hi.home]; exact fun e => hs e.symm)]
    · rcases hx with hx | hx
      · exact .inl (hi.count.2 (.inl hx))
      · rcases List.mem_cons.1 hx with rfl | hx
        · exact .inl (hi.count.2 (.inr rfl))
        · exact .inr hx
end Go.Proofs.YtgjbnbojjgbmcaaGreat.Edits

namespace Go.Proofs.YtgjbnbojjgbmcaaGreat.Edits
open Ops Stamp Bags Marks Homes Covers Views Go.Proofs.YtgjbnbojjgbmcaaGreat.Place
theorem mkO_p {k : Nat} {a : Id} {q : List Run} {c : Int} (h : Point.IsPt c) : (mkO k a q c).p = c := if_pos (by obtain ⟨h1, h2, _⟩ := h; omega)
theorem mayO_ins {a : Id} {q : List Run} {P : List Id} {c : Int} (ha : may a.t a.r = true) (hq : mayB q = true) (e : all q = P ++ [a]) (hc : Point.IsPt c) : mayO (mkO 1 a q c) = true := by
  unfold mayO
  rw [Bool.and_eq_true, Bool.and_eq_true]
  refine ⟨ha, hq, ?_⟩
  unfold kindB kindF
  rw [if_pos (show (mkO 1 a q c).k = 1 from rfl), Bool.and_eq_true]
  have hl := lastV_of hq e
  refine ⟨?_, ?_⟩
  · show decide (((lastV q).1, (lastV q).2) = ((a.t : Int), (a.r : Int))) = true
    rw [hl]
    simp
  · rw [mkO_p hc]
    exact decide_eq_true hc
theorem typed_chd : ∀ (cs : List Int) (p : List Run) (r t : Nat), r < 8 → t + cs.length ≤ 1073741824 → (∀ c ∈ cs, Point.IsPt c) → (typed p r t cs).2 = true →
    Chd p t (typed p r t cs).1 ∧ (typed p r t cs).1.map (·.p) = cs ∧ ∀ o ∈ (typed p r t cs).1, o.r = r ∧ t < o.t
  | [], p, r, t, _, _, _, _ => ⟨trivial, rfl, fun o h => by cases h⟩
  | c :: cs, p, r, t, hr, ht, hc, h => by
    rw [List.length_cons] at ht
    unfold typed at h ⊢
    by_cases h0 : (und p (mk (t + 1) r)).2 = 0
    · rw [if_pos h0] at h ⊢
      obtain ⟨u1, u2, u3, u4⟩ := und_ok h0
      have e1 : (mk (t + 1) r).t = t + 1 := mk_t (by omega)
      have e2 : (mk (t + 1) r).r = r := mk_r (by omega)
      obtain ⟨i1, i2, i3⟩ := typed_chd cs (und p (mk (t + 1) r)).1 r (t + 1) hr (by omega) (fun x hx => hc x (by simp [hx])) h
      refine ⟨⟨?_, mayO_ins u2 u3 u4 (hc c (by simp)), rfl, u4, ?_⟩, ?_, ?_⟩
      · show t < (mk (t + 1) r).t
        omega
      · show Chd (und p (mk (t + 1) r)).1 (mk (t + 1) r).t _
        rw [e1]
        exact i1
      · rw [List.map_cons, i2, mkO_p (hc c (by simp))]
      · intro o ho
        rcases List.mem_cons.1 ho with rfl | ho
        · exact ⟨e2, by show t < (mk (t + 1) r).t; omega⟩
        · have := i3 o ho
          exact ⟨this.1, by omega⟩
    · rw [if_neg h0] at h
      cases h
/-- Behind an insert. -/
theorem ins_after {l : List Opn} {r t : Nat} {s : Id} {k : Int} {cs : List Int} {f : Int} (h : insE l r t s k cs f = 0) (hc : ∀ c ∈ cs, Point.IsPt c) (hlen : l.length ≤ 40) :
    spanE l s = 0 ∧ f = 0 ∧ 0 ≤ k ∧ k ≤ ((elmL l s).length : Int) ∧ (insL l r t s k cs f).map (·.p) = cs ∧ (∀ o ∈ insL l r t s k cs f, o.r = r ∧ t < o.t ∧ mayO o = true) ∧ (insL l r t s k cs f).length ≤ 64 ∧
    Bag (puts l (insL l r t s k cs f)) ∧ livesM (puts l (insL l r t s k cs f)) (puts l (insL l r t s k cs f)) = livesM l l ∧ elmL (puts l (insL l r t s k cs f)) s = (elmL l s).take k.toNat ++ insL l r t s k cs f ++ (elmL l s).drop k.toNat ∧
    (∀ z, z ≠ s → elmL (puts l (insL l r t s k cs f)) z = elmL l z) ∧ (∀ o ∈ insL l r t s k cs f, o ∈ countL (puts l (insL l r t s k cs f)) (livesM l l) s) := by
  have e : insL l r t s k cs f = (typed (leftP l s k.toNat) r t cs).1 := if_pos h
  rw [e]
  unfold insE at h
  by_cases ha : askE l r t s = 0
  rotate_left
  · rw [if_neg ha] at h; exact absurd h ha
  rw [if_pos ha] at h
  by_cases hk : 0 ≤ k ∧ k ≤ ((elmL l s).length : Int)
  rotate_left
  · rw [if_neg hk] at h; cases h
  rw [if_pos hk] at h
  by_cases hf : f = 0
  rotate_left
  · rw [if_neg hf] at h; exact absurd h hf
  rw [if_pos hf] at h
  by_cases h1 : cs = []
  · rw [if_pos h1] at h; cases h
  rw [if_neg h1] at h
  by_cases h2 : 64 < cs.length
  · rw [if_pos h2] at h; cases h
  rw [if_neg h2] at h
  by_cases h3 : 1073741824 < t + cs.length
  · rw [if_pos h3] at h; cases h
  rw [if_neg h3] at h
  by_cases h4 : (typed (leftP l s k.toNat) r t cs).2 = true
  rotate_left
  · rw [if_neg h4] at h; cases h
  obtain ⟨a1, a2, a3⟩ := askE_zero.1 ha
  obtain ⟨t1, t2, t3⟩ := typed_chd cs (leftP l s k.toNat) r t a1 (by omega) hc h4
  obtain ⟨hj, hs⟩ := sec_where a3
  have hb := (spanE_zero.1 a3).1
  have hl : (typed (leftP l s k.toNat) r t cs).1.length = cs.length := by have h5 := congrArg List.length t2; rwa [List.length_map] at h5
  have hany := left_any (k := k.toNat) a3 (by omega)
  unfold leftP at t1 t2 t3 h4 hl hany ⊢
  have R := puts_ins (j := whereN (livesM l l) s) (typed (leftM (livesM l l) (whereN (livesM l l) s) (elmL l s) k.toNat) r t cs).1 (l := l) (t := t) (k := k.toNat) hb a2 hj (by rw [hs]; omega) (by rw [hs]; exact ((anyB_iff _).1 hany).chain) (by rw [hs]; exact t1) (by omega)
  rw [hs] at R
  obtain ⟨r1, r2, r3, r4, r5⟩ := R
  have hmay : ∀ (os : List Opn) (p : List Run) (u : Nat), Chd p u os → ∀ o ∈ os, mayO o = true := fun os => by
    induction os with
    | nil => intro _ _ _ o ho; cases ho
    | cons x os ih =>
      intro p u hc o ho
      rcases List.mem_cons.1 ho with rfl | ho
      · exact hc.2.1
      · exact ih _ _ hc.2.2.2.2 o ho
  exact ⟨a3, hf, hk.1, hk.2, t2, fun o ho => ⟨(t3 o ho).1, (t3 o ho).2, hmay _ _ _ t1 o ho⟩, by omega, r1, r2, r3, r4, fun o ho => r5 o (.inr ho)⟩
end Go.Proofs.YtgjbnbojjgbmcaaGreat.Edits

namespace Go.Proofs.YtgjbnbojjgbmcaaGreat.Spans
theorem nil_or_snoc {α : Type} (l : List α) : l = [] ∨ ∃ m x, l = m ++ [x] := by
  rcases List.eq_nil_or_concat l with h | ⟨m, x, h⟩
  · exact .inl h
  · exact .inr ⟨m, x, by rw [h, List.concat_eq_append]⟩
theorem fine_last : ∀ {l : List Sp} {x : Sp}, Fine (l ++ [x]) → ∀ a ∈ l, a.t + 2 ≤ x.f
  | [], _, _, a, ha => by simp at ha
  | y :: l, x, h, a, ha => by
    rw [List.cons_append] at h
    rw [List.mem_cons] at ha
    rcases ha with rfl | ha
    · exact h.far x (by simp)
    · exact fine_last h.tail a ha
theorem fine_snoc_ok {l : List Sp} {x : Sp} (h : Fine (l ++ [x])) : Ok x := h.all x (by simp)
end Go.Proofs.YtgjbnbojjgbmcaaGreat.Spans

namespace Go.Proofs.YtgjbnbojjgbmcaaGreat.Spans
open Go.RowKit
attribute [local go_sem ↓] Go.wp_at_zero Go.wp_at_succ
theorem chk_no {l : List Sp} (h : ¬ (Fine l ∧ l.length ≤ 1024)) : chk l = 8 := by
  unfold chk
  rw [if_neg (fun hb => h ((mayB_iff l).1 hb))]
theorem chk_yes {l : List Sp} (h : Fine l ∧ l.length ≤ 1024) : chk l = 0 := by
  unfold chk
  rw [if_pos ((mayB_iff l).2 h)]
set_option maxRecDepth 100000 in
set_option maxHeartbeats 4000000 in
theorem pCheck_any {v : Value} {l : List Sp} {w : World} (hv : Sps w v l) :
    Calls Tryz.prog 114 #[v] w fun e w' => e = .returned (.int .i64 (chk l)) ∧ Below w.heap.size w w' := by
  obtain ⟨ao, cap, rfl⟩ := hv.shape
  obtain ⟨n, hn⟩ : ∃ n, n = l.length := ⟨_, rfl⟩
  have hm : n ≤ 9223372036854775807 := by rw [hn]; exact Sees.max hv
  have HV := Lib.hid hv
  have HN := Lib.hid hn
  have HBad := Lib.hid (chk_no (l := l))
  have HGood := Lib.hid (chk_yes (l := l))
  obtain ⟨c, hc⟩ : ∃ c, c = chk l := ⟨_, rfl⟩
  rw [← hc] at HBad HGood ⊢
  rw [← hn] at HBad HGood ⊢
  clear hv hn hc
  by_cases hbig : 1024 < n
  · have t1 : decide ((1024 : Int) < (n : Int)) = true := decide_eq_true (by omega)
    have t2 : decide (1024 < n) = true := decide_eq_true hbig
    obtain rfl : c = 8 := HBad.out (fun h => by omega)
    go_enter Tryz.func114, Tryz.ntmps114
    go_wp2
    go_ret
    exact ⟨rfl, Below.refl _ _⟩
  have t1 : decide ((1024 : Int) < (n : Int)) = false := decide_eq_false (by omega)
  have t2 : decide (1024 < n) = false := decide_eq_false hbig
  have B0 := Lib.hid (Below.refl w.heap.size w)
  go_enter Tryz.func114, Tryz.ntmps114
  go_wp2
  go_loopw [3, 11] (fun m i wr => ∃ k b : Nat, k ≤ n ∧ i = .int .i64 (k : Int) ∧ m = .int .u32 (b : Int) ∧ 1 ≤ b ∧ Hid ((k = 0 ∧ b = 1) ∨ ∃ j, k = j + 1 ∧ b = (l.getD j zsp).t + 2) ∧ Hid (Fine (l.take k)) ∧ Hid (Below w.heap.size w wr)) (fun _ i _ => n - (intOf i).toNat)
  case atStart => exact ⟨0, 1, by omega, rfl, rfl, by omega, Lib.hid (.inl ⟨rfl, rfl⟩), Lib.hid (by simp [Fine]), B0⟩
  case round =>
    obtain ⟨k, b, hk, rfl, rfl, hb1, hlast, hfin, hbel⟩ := hrel
    by_cases hkn : k < n
    · have q1 : decide (k < n) = true := by simpa using hkn
      have q2 : (0 : Int) ≤ (k : Int) := by omega
      have q3 : (k : Int) < (n : Int) := by omega
      obtain ⟨b1, o1, rfl, hb1', ha0, ha1⟩ := (HV.out.keeps hbel.out).at k (by rw [← HN.out]; exact hkn)
      obtain ⟨x, hx⟩ : ∃ x, x = l.getD k zsp := ⟨_, rfl⟩
      rw [← hx] at ha0 ha1
      have hno1 : ¬ Ok x → c = 8 := fun h => HBad.out (fun hF => h (by rw [hx]; exact fine_ok hF.1 (by rw [← HN.out]; exact hkn)))
      have hno2 : x.f < b → c = 8 := fun h => by
        rcases hlast.out with ⟨rfl, rfl⟩ | ⟨j, rfl, rfl⟩
        · exact hno1 (fun hok => by unfold Ok at hok; omega)
        · refine HBad.out (fun hF => ?_)
          have h3 := fine_next hF.1 (k := j) (by rw [← HN.out]; exact hkn)
          rw [← hx] at h3
          omega
      have hyes : Ok x → b ≤ x.f → Fine (l.take (k + 1)) := fun h1 h2 => by
        refine fine_take_succ (by rw [← HN.out]; exact hkn) hfin.out (by rw [← hx]; exact h1) ?_
        rcases hlast.out with ⟨h3, -⟩ | ⟨j, rfl, rfl⟩
        · exact .inl h3
        · refine .inr ?_
          rw [← hx]
          exact h2
      have HX := Lib.hid (congrArg Sp.t hx.symm)
      have HNo1 := Lib.hid hno1
      have HNo2 := Lib.hid hno2
      have HYes := Lib.hid hyes
      have XB := Lib.hid (fun o : Obj => hbel.out.alloc hbel.out.size o)
      obtain ⟨xf, xt, hxf, hxt⟩ := x
      simp only at ha0 ha1 HX HNo2 HYes
      clear hx hno1 hno2 hyes
      by_cases h1 : xf < b
      · have s1 : decide ((xf : Int) < (b : Int)) = true := decide_eq_true (by omega)
        have s2 : decide (xf < b) = true := decide_eq_true h1
        obtain rfl : c = 8 := HNo2.out h1
        go_wp2
        go_ret
        exact ⟨rfl, XB.out _⟩
      have s1 : decide ((xf : Int) < (b : Int)) = false := decide_eq_false (by omega)
      have s2 : decide (xf < b) = false := decide_eq_false h1
      by_cases h2 : xt < xf
      · have s3 : decide ((xt : Int) < (xf : Int)) = true := decide_eq_true (by omega)
        have s4 : decide (xt < xf) = true := decide_eq_true h2
        obtain rfl : c = 8 := HNo1.out (fun h => by unfold Ok at h; simp only at h; omega)
        go_wp2
        go_ret
        exact ⟨rfl, XB.out _⟩
      have s3 : decide ((xt : Int) < (xf : Int)) = false := decide_eq_false (by omega)
      have s4 : decide (xt < xf) = false := decide_eq_false h2
      by_cases h3 : 1073741824 < xt
      · have s5 : decide ((1073741824 : Int) < (xt : Int)) = true := decide_eq_true (by omega)
        have s6 : decide (1073741824 < xt) = true := decide_eq_true h3
        obtain rfl : c = 8 := HNo1.out (fun h => by unfold Ok at h; simp only at h; omega)
        go_wp2
        go_ret
        exact ⟨rfl, XB.out _⟩
      have s5 : decide ((1073741824 : Int) < (xt : Int)) = false := decide_eq_false (by omega)
      have s6 : decide (1073741824 < xt) = false := decide_eq_false h3
      have HF2 : Hid (Fine (l.take (k + 1))) := HYes.out (by unfold Ok; simp only; omega) (by omega)
      have eT : IntKind.u32.wrap ((xt : Int) + 2) = (xt : Int) + 2 := by rw [IntKind.wrap_u32]; omega
      have hb2 : 1 ≤ xt + 2 := by omega
      clear HNo1 HNo2 HYes
      go_wp2
      go_roundw
      case rel => exact ⟨k + 1, xt + 2, by omega, by go_num, by go_num, hb2, Lib.hid (.inr ⟨k, rfl, by rw [HX.out]⟩), HF2, Lib.hid (XB.out _)⟩
      case measure => simp [intOf]; omega
    · have q1 : decide (k < n) = false := by simpa using hkn
      have hkk : l.take k = l := List.take_of_length_le (by have := HN.out; omega)
      obtain rfl : c = 0 := HGood.out ⟨by have := hfin.out; rwa [hkk] at this, by omega⟩
      clear hkk
      go_wp2
      go_ret
      exact ⟨rfl, hbel.out⟩
theorem pCheck_is {v : Value} {l : List Sp} {w : World} (hv : Sps w v l) {c : Int} (h : chk l = c) :
    Calls Tryz.prog 114 #[v] w fun e w' => e = .returned (.int .i64 c) ∧ Below w.heap.size w w' := by
  rw [← h]; exact pCheck_any hv
end Go.Proofs.YtgjbnbojjgbmcaaGreat.Spans

namespace Go.Proofs.YtgjbnbojjgbmcaaGreat.Spans
open Go.RowKit Go.Shelf
attribute [local go_sem ↓] Go.wp_at_zero Go.wp_at_succ
theorem hasOne_any (x : Sp) (t B : Nat) {w : World} (hc : w.cell? ⟨B, 0, none⟩ = some (.int .u32 (t : Int))) (hB : B < w.heap.size) :
    Calls Tryz.prog 117 #[.agg #[.int .u32 (x.f : Int), .int .u32 (x.t : Int)], .pointer (some ⟨B, 0, none⟩)] w fun e w' => e = .returned (.bool (decide (x.f ≤ t ∧ t ≤ x.t))) ∧ Below w.heap.size w w' := by
  obtain ⟨f, u, _, _⟩ := x
  simp only
  have c0 := (((Below.refl w.heap.size w).alloc (Nat.le_refl _) (.cells #[.int .u32 (f : Int), .int .u32 (u : Int)] 174)).cell (p := ⟨B, 0, none⟩) hB).trans hc
  clear hc
  by_cases h1 : f ≤ t
  · have s1 : decide ((f : Int) ≤ (t : Int)) = true := decide_eq_true (by omega)
    have s2 : decide (f ≤ t) = true := decide_eq_true h1
    by_cases h2 : t ≤ u
    · have s3 : decide ((t : Int) ≤ (u : Int)) = true := decide_eq_true (by omega)
      have s4 : decide (t ≤ u) = true := decide_eq_true h2
      rw [decide_eq_true (p := f ≤ t ∧ t ≤ u) ⟨h1, h2⟩]
      go_enter Tryz.func117, Tryz.ntmps117
      go_wp2
      go_ret
      exact ⟨rfl, (Below.refl _ _).alloc (Nat.le_refl _) _⟩
    · have s3 : decide ((t : Int) ≤ (u : Int)) = false := decide_eq_false (by omega)
      have s4 : decide (t ≤ u) = false := decide_eq_false h2
      rw [decide_eq_false (p := f ≤ t ∧ t ≤ u) (fun h => h2 h.2)]
      go_enter Tryz.func117, Tryz.ntmps117
      go_wp2
      go_ret
      exact ⟨rfl, (Below.refl _ _).alloc (Nat.le_refl _) _⟩
  · have s1 : decide ((f : Int) ≤ (t : Int)) = false := decide_eq_false (by omega)
    have s2 : decide (f ≤ t) = false := decide_eq_false h1
    rw [decide_eq_false (p := f ≤ t ∧ t ≤ u) (fun h => h1 h.1)]
    go_enter Tryz.func117, Tryz.ntmps117
    go_wp2
    go_ret
    exact ⟨rfl, (Below.refl _ _).alloc (Nat.le_refl _) _⟩
set_option maxRecDepth 100000 in
set_option maxHeartbeats 2000000 in
theorem idx_any {v : Value} {l : List Sp} (t B : Nat) {w : World} (hv : Sps w v l) (hc : w.cell? ⟨B, 0, none⟩ = some (.int .u32 (t : Int))) (hB : B < w.heap.size) :
    Calls Tryz.prog 167 #[v, .func (.func 117) #[] #[.pointer (some ⟨B, 0, none⟩)]] w fun e w' => (∃ q : Int, e = .returned (.int .i64 q) ∧ decide (0 ≤ q) = inB l t) ∧ Below w.heap.size w w' := by
  obtain ⟨ao, cap, rfl⟩ := hv.shape
  obtain ⟨n, hn⟩ : ∃ n, n = l.length := ⟨_, rfl⟩
  have hm : n ≤ 9223372036854775807 := by rw [hn]; exact Sees.max hv
  have HV := Lib.hid hv
  have HN := Lib.hid hn
  have HC := Lib.hid hc
  obtain ⟨b0, hb0⟩ : ∃ b, inB l t = b := ⟨_, rfl⟩
  have HB0 := Lib.hid hb0
  rw [← hn, hb0]
  have B0 := Lib.hid (Below.refl w.heap.size w)
  clear hv hn hb0 hc
  have eg := enters_of Tryz.func117 (by kernel_rfl) rfl
  go_enter Tryz.func167, Tryz.ntmps167
  go_wp2
  go_loopw [8] (fun i wr => ∃ k : Nat, k ≤ n ∧ i = .int .i64 (k : Int) ∧ Hid (inB (l.take k) t = false) ∧ Hid (Below w.heap.size w wr)) (fun i _ => n - (intOf i).toNat)
  case atStart => exact ⟨0, by omega, rfl, Lib.hid rfl, B0⟩
  case round =>
    obtain ⟨k, hk, rfl, hno, hbel⟩ := hrel
    by_cases hkn : k < n
    · have q1 : decide (k < n) = true := by simpa using hkn
      have q2 : (0 : Int) ≤ (k : Int) := by omega
      have q3 : (k : Int) < (n : Int) := by omega
      obtain ⟨b1, o1, rfl, hb1, ha0, ha1⟩ := (HV.out.keeps hbel.out).at k (by rw [← HN.out]; exact hkn)
      have hs := take_snoc l k (by rw [← HN.out]; exact hkn)
      obtain ⟨x, hx⟩ : ∃ x, x = l.getD k zsp := ⟨_, rfl⟩
      rw [← hx] at ha0 ha1 hs
      have hsn := inB_snoc (l.take k) x t
      rw [← hs, hno.out, Bool.false_or] at hsn
      have hin : decide (x.f ≤ t ∧ t ≤ x.t) = true → b0 = true := fun h => by
        rw [← HB0.out]
        have h := of_decide_eq_true h
        exact (inB_iff l t).2 ⟨x, by rw [hx, List.getD, List.getElem?_eq_getElem (by rw [← HN.out]; exact hkn)]; exact List.getElem_mem _, h.1, h.2⟩
      have C := Lib.hid (hasOne_any x t B (w := wr) ((hbel.out.cell (p := ⟨B, 0, none⟩) hB).trans HC.out) (Nat.lt_of_lt_of_le hB hbel.out.size))
      obtain ⟨q, hq⟩ : ∃ q, decide (x.f ≤ t ∧ t ≤ x.t) = q := ⟨_, rfl⟩
      rw [hq] at C hsn hin
      have HIn := Lib.hid hin
      have HSn := Lib.hid hsn
      obtain ⟨xf, xt, _, _⟩ := x
      simp only at ha0 ha1 C
      clear hx hs hsn hin hq
      cases q
      · go_wp2_with fail
        refine C.out.mono ?_
        rintro e w1 ⟨rfl, b1⟩
        have B1 := Lib.hid (bt hbel.out b1)
        clear b1
        go_wp2
        go_roundw
        case rel => exact ⟨k + 1, by omega, by go_num, HSn, B1⟩
        case measure => simp [intOf]; omega
      · obtain rfl : b0 = true := HIn.out rfl
        go_wp2_with fail
        refine C.out.mono ?_
        rintro e w1 ⟨rfl, b1⟩
        have B1 := Lib.hid (bt hbel.out b1)
        clear b1
        go_wp2
        go_ret
        exact ⟨⟨_, rfl, decide_eq_true q2⟩, B1.out⟩
    · have q1 : decide (k < n) = false := by simpa using hkn
      have hkk : l.take k = l := List.take_of_length_le (by have := HN.out; omega)
      have hf : b0 = false := by rw [← HB0.out, ← hkk]; exact hno.out
      subst hf
      clear hkk
      go_wp2
      go_ret
      exact ⟨⟨_, rfl, rfl⟩, hbel.out⟩
theorem contains_any {v : Value} {l : List Sp} (t B : Nat) {w : World} (hv : Sps w v l) (hc : w.cell? ⟨B, 0, none⟩ = some (.int .u32 (t : Int))) (hB : B < w.heap.size) :
    Calls Tryz.prog 116 #[v, .func (.func 117) #[] #[.pointer (some ⟨B, 0, none⟩)]] w fun e w' => e = .returned (.bool (inB l t)) ∧ Below w.heap.size w w' := by
  have C := Lib.hid (idx_any t B hv hc hB)
  obtain ⟨b0, hb0⟩ : ∃ b, inB l t = b := ⟨_, rfl⟩
  rw [hb0] at C ⊢
  clear hv hc hb0
  go_enter Tryz.func116, Tryz.ntmps116
  go_wp2_with fail
  refine C.out.mono ?_
  rintro e w1 ⟨⟨q, rfl, hq⟩, b1⟩
  go_wp2
  go_ret
  exact ⟨rfl, b1⟩
set_option maxRecDepth 100000 in
set_option maxHeartbeats 2000000 in
theorem pHas_any {v : Value} {l : List Sp} (t : Nat) {w : World} (hv : Sps w v l) :
    Calls Tryz.prog 67 #[v, .int .u32 (t : Int)] w fun e w' => e = .returned (.bool (has l t)) ∧ Below w.heap.size w w' := by
  obtain ⟨c, hc⟩ : ∃ c, chk l = c := ⟨_, rfl⟩
  have X0 := Lib.hid ((Below.refl w.heap.size w).alloc (Nat.le_refl _) (.cells #[.int .u32 (t : Int)] 26))
  have C0 : Hid ((w.alloc (.cells #[.int .u32 (t : Int)] 26)).cell? ⟨w.heap.size, 0, none⟩ = some (.int .u32 (t : Int))) := cell_of_row _ w.heap.size 0 _ _ _ (heap_alloc_new w _)
  have M := Lib.hid (pCheck_is (hv.keeps X0.out) hc)
  have HV := Lib.hid hv
  unfold has
  cases hb : mayB l
  · have hc8 : c = 8 := by rw [← hc]; unfold chk; rw [hb]; rfl
    subst hc8
    rw [Bool.false_and]
    clear hb hv hc
    go_enter Tryz.func67, Tryz.ntmps67
    go_wp2_with fail
    refine M.out.mono ?_
    rintro e w1 ⟨rfl, b1⟩
    have B1 := Lib.hid (bt X0.out b1)
    clear b1
    go_wp2
    go_ret
    exact ⟨rfl, B1.out⟩
  · have hc0 : c = 0 := by rw [← hc]; unfold chk; rw [hb]; rfl
    subst hc0
    rw [Bool.true_and]
    obtain ⟨b0, hb0⟩ : ∃ b, inB l t = b := ⟨_, rfl⟩
    have HB0 := Lib.hid hb0
    rw [hb0]
    clear hb hv hc hb0
    go_enter Tryz.func67, Tryz.ntmps67
    go_wp2_with fail
    refine M.out.mono ?_
    rintro e w1 ⟨rfl, b1⟩
    have B1 := Lib.hid (bt X0.out b1)
    have K := contains_any t w.heap.size (w := w1) ((HV.out.keeps X0.out).keeps b1) ((b1.cell (p := ⟨w.heap.size, 0, none⟩) (by simp)).trans C0.out) (by have := b1.size; simp at this; omega)
    rw [HB0.out] at K
    have K := Lib.hid K
    clear b1
    go_wp2_with fail
    refine K.out.mono ?_
    rintro e w2 ⟨rfl, b2⟩
    have B2 := Lib.hid (bt B1.out b2)
    clear b2
    go_wp2
    go_ret
    exact ⟨rfl, B2.out⟩
end Go.Proofs.YtgjbnbojjgbmcaaGreat.Spans

namespace Go.Proofs.YtgjbnbojjgbmcaaGreat.Spans
open Go.RowKit Go.Shelf
attribute [local go_sem ↓] Go.wp_at_zero Go.wp_at_succ
theorem sps_set_last (l : List Sp) (x : Sp) (t : Nat) (ht : t < 4294967296) : (sps (l ++ [x])).set (l.length * 2 + 1) (.int .u32 (t : Int)) = sps (l ++ [mk x.f t]) := by
  rw [sps_append, sps_append, List.set_append_right _ _ (by rw [sps_len]; omega), sps_len]
  congr 1
  rw [show l.length * 2 + 1 - l.length * 2 = 1 by omega]
  simp only [sps, mk_f x.hf, mk_t ht, List.set_cons_succ, List.set_cons_zero]
end Go.Proofs.YtgjbnbojjgbmcaaGreat.Spans

namespace Go.Proofs.YtgjbnbojjgbmcaaGreat.Clocks
open Go.RowKit Go.Proofs.YtgjbnbojjgbmcaaGreat.Spans
attribute [local go_sem ↓] Go.wp_at_zero Go.wp_at_succ
def chkI (a : Id) : Int := if mayI a then 0 else 8
theorem stCheck_any (a : Id) (w : World) :
    Calls Tryz.prog 73 #[idv a] w fun e w' => e = .returned (.int .i64 (chkI a)) ∧ Below w.heap.size w w' := by
  obtain ⟨t, r, ht, hr⟩ := a
  unfold idv
  simp only
  obtain ⟨c, hc⟩ : ∃ c, c = chkI ⟨t, r, ht, hr⟩ := ⟨_, rfl⟩
  rw [← hc]
  have q : (decide ((t : Int) < 1) = true ∧ c = 8) ∨ (decide ((t : Int) < 1) = false ∧ decide ((1073741824 : Int) < (t : Int)) = true ∧ c = 8) ∨
      (decide ((t : Int) < 1) = false ∧ decide ((1073741824 : Int) < (t : Int)) = false ∧ decide ((8 : Int) ≤ (r : Int)) = true ∧ c = 8) ∨
      (decide ((t : Int) < 1) = false ∧ decide ((1073741824 : Int) < (t : Int)) = false ∧ decide ((8 : Int) ≤ (r : Int)) = false ∧ c = 0) := by
    rw [hc]
    unfold chkI mayI
    simp only
    by_cases h1 : t < 1
    · exact .inl ⟨decide_eq_true (by omega), if_neg (by omega)⟩
    · by_cases h2 : 1073741824 < t
      · exact .inr (.inl ⟨decide_eq_false (by omega), decide_eq_true (by omega), if_neg (by omega)⟩)
      · by_cases h3 : 8 ≤ r
        · exact .inr (.inr (.inl ⟨decide_eq_false (by omega), decide_eq_false (by omega), decide_eq_true (by omega), if_neg (by omega)⟩))
        · exact .inr (.inr (.inr ⟨decide_eq_false (by omega), decide_eq_false (by omega), decide_eq_false (by omega), if_pos (by omega)⟩))
  clear hc
  rcases q with ⟨q1, rfl⟩ | ⟨q1, q2, rfl⟩ | ⟨q1, q2, q3, rfl⟩ | ⟨q1, q2, q3, rfl⟩
  all_goals
    go_enter Tryz.func73, Tryz.ntmps73
    go_wp2
    go_ret
    exact ⟨rfl, (Below.refl _ _).alloc (Nat.le_refl _) _⟩
theorem chkC_no {c : List Tm} (h : ¬ Cok c) : chkC c = 8 := by unfold chkC; rw [mayC_no h]; rfl
theorem chkC_yes {c : List Tm} (h : Cok c) : chkC c = 0 := by unfold chkC; rw [(mayC_iff c).2 h]; rfl
set_option maxRecDepth 100000 in
set_option maxHeartbeats 4000000 in
theorem cCheck_any {v : Value} {c : List Tm} {w : World} (hv : Tms w v c) :
    Calls Tryz.prog 64 #[v] w fun e w' => e = .returned (.int .i64 (chkC c)) ∧ Below w.heap.size w w' := by
  obtain ⟨ao, cap, rfl⟩ := hv.shape
  obtain ⟨n, hn⟩ : ∃ n, n = c.length := ⟨_, rfl⟩
  have hm : n ≤ 9223372036854775807 := by rw [hn]; exact Tms.max hv
  have HV := Lib.hid hv
  have HN := Lib.hid hn
  obtain ⟨R, hR⟩ : ∃ R, R = chkC c := ⟨_, rfl⟩
  have HNo : Hid (¬ Cok c → R = 8) := fun h => by rw [hR]; exact chkC_no h
  have HYes : Hid (Cok c → R = 0) := fun h => by rw [hR]; exact chkC_yes h
  have B0 := Lib.hid (Below.refl w.heap.size w)
  rw [← hn, ← hR]
  clear hv hn hR
  go_enter Tryz.func64, Tryz.ntmps64
  go_wp2
  go_loopw [3, 8] (fun m i wr => ∃ k b : Nat, k ≤ n ∧ i = .int .i64 (k : Int) ∧ m = .int .u8 (b : Int) ∧ b ≤ 8 ∧ Hid ((k = 0 ∧ b = 0) ∨ ∃ j, k = j + 1 ∧ b = (c.getD j ztm).1 + 1) ∧ Hid (Up 0 (c.take k)) ∧ Hid (Below w.heap.size w wr)) (fun _ i _ => n - (intOf i).toNat)
  case atStart => exact ⟨0, 0, by omega, rfl, rfl, by omega, Lib.hid (.inl ⟨rfl, rfl⟩), Lib.hid trivial, B0⟩
  case round =>
    obtain ⟨k, b, hk, rfl, rfl, hb8, hlast, hch, hbel⟩ := hrel
    by_cases hkn : k < n
    · have q1 : decide (k < n) = true := by simpa using hkn
      have q2 : (0 : Int) ≤ (k : Int) := by omega
      have q3 : (k : Int) < (n : Int) := by omega
      have hkl : k < c.length := by rw [← HN.out]; exact hkn
      obtain ⟨b1, o1, u, rfl, hb1, ha0, ha1, -, hsp⟩ := (HV.out.keeps hbel.out).at k hkl
      obtain ⟨x, hx⟩ : ∃ x, x = c.getD k ztm := ⟨_, rfl⟩
      have hx' : c.getD k (0, []) = x := hx.symm
      rw [hx'] at ha0 hsp
      have hno : ¬ (x.1 < 8 ∧ x.2 ≠ [] ∧ mayB x.2 = true) → R = 8 := fun h => HNo.out (fun hc => h (by
        have := up_all hc (c.getD k ztm) (tm_mem hkl)
        rw [← hx] at this
        exact this.2))
      have hno2 : x.1 < b → R = 8 := fun h => by
        rcases hlast.out with ⟨h1, h2⟩ | ⟨j, h1, h2⟩
        · omega
        · refine HNo.out (fun hc => ?_)
          have := up_next hc (k := j) (by rw [← h1]; exact hkl)
          rw [← h1, ← hx] at this
          omega
      have hyes : x.1 < 8 → x.2 ≠ [] → mayB x.2 = true → b ≤ x.1 → Up 0 (c.take (k + 1)) := fun h1 h2 h3 h4 => by
        refine up_take_succ hkl hch.out (by rw [← hx]; exact h1) (by rw [← hx]; exact h2) (by rw [← hx]; exact h3) ?_
        rw [← hx]
        rcases hlast.out with ⟨g1, -⟩ | ⟨j, g1, g2⟩
        · exact .inl g1
        · refine .inr ?_
          rw [show k - 1 = j by omega]
          omega
      have HX : Hid (x.1 = (c.getD k ztm).1) := by rw [hx]; rfl
      have HNo1 := Lib.hid hno
      have HNo2 := Lib.hid hno2
      have HYes2 := Lib.hid hyes
      have XB := Lib.hid (fun o : Obj => hbel.out.alloc hbel.out.size o)
      obtain ⟨so, sc, rfl⟩ := hsp.shape
      obtain ⟨xr, xs⟩ := x
      simp only at ha0 ha1 hsp HX HNo1 HNo2 HYes2
      obtain ⟨sl, hsl⟩ : ∃ sl, sl = xs.length := ⟨_, rfl⟩
      rw [← hsl] at ha1 hsp
      have HSL := Lib.hid hsl
      obtain ⟨wo, rfl⟩ : ∃ wo : World, wo = wr := ⟨_, rfl⟩
      have CK : Hid (∀ o : Obj, Calls Tryz.prog 114 #[.slice so sl sc] (wo.alloc o) fun e w' => e = .returned (.int .i64 (chk xs)) ∧ Below (wo.alloc o).heap.size (wo.alloc o) w') := fun o =>
        pCheck_any (hsp.keeps ((Below.refl _ _).alloc (Nat.le_refl _) o))
      obtain ⟨q, hq⟩ : ∃ q, chk xs = q := ⟨_, rfl⟩
      rw [hq] at CK
      have HQ : Hid ((q = 0 ∧ mayB xs = true) ∨ (q = 8 ∧ mayB xs = false)) := by
        show _ ∨ _
        rw [← hq]
        unfold chk
        cases mayB xs <;> simp
      clear hx hx' hno hno2 hyes hsp hsl hq
      by_cases h1 : xr < b
      · have s1 : decide ((xr : Int) < (b : Int)) = true := decide_eq_true (by omega)
        have s2 : decide (xr < b) = true := decide_eq_true h1
        obtain rfl : R = 8 := HNo2.out h1
        go_wp2
        go_ret
        exact ⟨rfl, XB.out _⟩
      have s1 : decide ((xr : Int) < (b : Int)) = false := decide_eq_false (by omega)
      have s2 : decide (xr < b) = false := decide_eq_false h1
      by_cases h2 : 8 ≤ xr
      · have s3 : decide ((8 : Int) ≤ (xr : Int)) = true := decide_eq_true (by omega)
        have s4 : decide (8 ≤ xr) = true := decide_eq_true h2
        obtain rfl : R = 8 := HNo1.out (by omega)
        go_wp2
        go_ret
        exact ⟨rfl, XB.out _⟩
      have s3 : decide ((8 : Int) ≤ (xr : Int)) = false := decide_eq_false (by omega)
      have s4 : decide (8 ≤ xr) = false := decide_eq_false h2
      by_cases h3 : sl = 0
      · obtain rfl : R = 8 := HNo1.out (fun h => h.2.1 (List.length_eq_zero_iff.1 (by rw [← HSL.out]; exact h3)))
        subst h3
        go_wp2
        go_ret
        exact ⟨rfl, XB.out _⟩
      have s5 : ((sl : Int) == 0) = false := by simpa using h3
      rcases HQ.out with ⟨rfl, hmb⟩ | ⟨rfl, hmb⟩
      · have HUp : Hid (Up 0 (c.take (k + 1))) := HYes2.out (by omega) (fun h => h3 (by rw [HSL.out, h]; rfl)) hmb (by omega)
        have eT : IntKind.u8.wrap ((xr : Int) + 1) = (xr : Int) + 1 := by rw [IntKind.wrap_u8]; omega
        have hb2 : xr + 1 ≤ 8 := by omega
        have HL2 : Hid ((k + 1 = 0 ∧ xr + 1 = 0) ∨ ∃ j, k + 1 = j + 1 ∧ xr + 1 = (c.getD j ztm).1 + 1) := .inr ⟨k, rfl, by rw [HX.out]⟩
        clear HNo1 HNo2 HYes2 hmb HX hlast hch
        go_wp2_with fail
        refine (CK.out _).mono ?_
        rintro e w2 ⟨rfl, b2⟩
        have B2 := Lib.hid (bt (XB.out _) b2)
        have c2 := (b2.cell (p := ⟨wo.heap.size, 0, none⟩) (by simp)).trans (cell_of_row _ wo.heap.size 0 _ _ _ (heap_alloc_new wo _))
        clear b2
        go_wp2
        go_roundw
        case rel => exact ⟨k + 1, xr + 1, by omega, by go_num, by go_num, hb2, HL2, HUp, B2⟩
        case measure => simp [intOf]; omega
      · obtain rfl : R = 8 := HNo1.out (fun h => by rw [hmb] at h; cases h.2.2)
        clear HNo1 HNo2 HYes2 hmb HX hlast hch
        go_wp2_with fail
        refine (CK.out _).mono ?_
        rintro e w2 ⟨rfl, b2⟩
        go_wp2
        go_ret
        exact ⟨rfl, bt (XB.out _) b2⟩
    · have q1 : decide (k < n) = false := by simpa using hkn
      have hkk : c.take k = c := List.take_of_length_le (by have := HN.out; omega)
      obtain rfl : R = 0 := HYes.out (by have := hch.out; rwa [hkk] at this)
      clear hkk
      go_wp2
      go_ret
      exact ⟨rfl, hbel.out⟩
end Go.Proofs.YtgjbnbojjgbmcaaGreat.Clocks

namespace Go.Proofs.YtgjbnbojjgbmcaaGreat
open Go.RowKit Go.WideShapes
open Go.Maps (Keyed int_keyed IsMap keyOf_int_mk)
/-- A value as a token: every value reads so. -/
def tokR (v : Value) : Option (DataW Value × List MemPlace) := some (.held v, [])
theorem u8law : Keyed Tryz.prog 5 := int_keyed Tryz.underlying5
theorem u8wf {r : Nat} (h : r < 256) : (Lit.int .u8 (r : Int)).wf = true := by
  have h1 : IntKind.u8.min = 0 := by decide
  have h2 : IntKind.u8.max = 255 := by decide
  simp [Lit.wf, h1, h2]
  omega
theorem u8key {r : Nat} (h : r < 256) : keyOf Tryz.prog 5 (.int .u8 (r : Int)) = some (.int .u8 (r : Int)) := keyOf_int_mk Tryz.underlying5 (u8wf h)
/-- Block b is a map of at most n entries; where M is none it has no entry. -/
def MapV (w : World) (b n : Nat) (M : Nat → Option Value) : Prop :=
  ∃ D : DataW Value, w.ownsMap Tryz.prog 5 tokR b n D ∧ IsMap D ∧ ∀ r : Nat, r < 256 → ∀ z, D.atKey (.int .u8 (r : Int)) (.held z) = .held ((M r).getD z)
theorem MapV.made (w : World) : MapV (w.alloc (.map #[] 0)) w.heap.size 0 (fun _ => none) := ⟨_, World.ownsMap_made w _ _ _, Maps.isMap_empty, fun _ _ _ => rfl⟩
theorem MapV.keeps {w w' : World} {b n : Nat} {M : Nat → Option Value} (h : MapV w b n M) (hb : Below w.heap.size w w') : MapV w' b n M := by
  obtain ⟨D, ⟨es, clock, h1, h2, h3, h4⟩, h5, h6⟩ := h
  exact ⟨D, ⟨es, clock, (hb.block b (Array.getElem?_eq_some_iff.1 h1).1).trans h1, h2, h3, h4⟩, h5, h6⟩
theorem MapV.other {w w' : World} {b n : Nat} {M : Nat → Option Value} (h : MapV w b n M) (hb : w'.heap[b]? = w.heap[b]?) : MapV w' b n M := by
  obtain ⟨D, ⟨es, clock, h1, h2, h3, h4⟩, h5, h6⟩ := h
  exact ⟨D, ⟨es, clock, hb.trans h1, h2, h3, h4⟩, h5, h6⟩
theorem MapV.run {w : World} {b n : Nat} {M : Nat → Option Value} (h : MapV w b n M) {t e : TypeId} (ht : Tryz.prog.underlying t = some (.map 5 e)) {z : Value} (hz : (zeroValue e).run Tryz.prog w = .ok z w) {r : Nat} (hr : r < 256) :
    (Instr.lookup t (.map (some b)) (.int .u8 (r : Int)) false).run Tryz.prog w = .ok ((M r).getD z) w := by
  obtain ⟨D, h1, h2, h3⟩ := h
  obtain ⟨v, ps, hrun, hv⟩ := h1.lookup u8law ht hz (zd := .held z) (zp := []) rfl (u8key hr)
  rw [h3 r hr] at hv
  have : v = (M r).getD z := by
    have := (Prod.mk.inj (Option.some.inj hv)).1
    exact DataW.held.inj this
  rw [← this]
  exact hrun
theorem MapV.put {w' : World} {b n : Nat} {M : Nat → Option Value} {D : DataW Value} {r : Nat} {v : Value} (hD : IsMap D) (hat : ∀ r : Nat, r < 256 → ∀ z, D.atKey (.int .u8 (r : Int)) (.held z) = .held ((M r).getD z))
    (h : w'.ownsMap Tryz.prog 5 tokR b n (D.put (.int .u8 (r : Int)) (.held v))) : MapV w' b n (fun k => if k = r then some v else M k) := by
  refine ⟨_, h, hD.put _ _, fun k hk z => ?_⟩
  by_cases hkr : k = r
  · subst hkr
    rw [Maps.atKey_put_same hD (show WideAt.IsKeyLit (.int .u8 (k : Int)) from trivial)]
    simp
  · rw [Maps.atKey_put_other (by intro h; injection h with _ h; omega), hat k hk]
    simp [hkr]
/-- A look-up, at the operation. -/
theorem wpList_lookup_v (w : World) {ops : Array Oper} {rest : List Oper} {o : Oper} {a : Act} {Q : Exit → Act → World → Prop}
    (hg : o.guard = none) (m x : Operand) (t e : TypeId) (hop : o.op = Op.lookup t m x false) (ht : Tryz.prog.underlying t = some (.map 5 e)) (z : Value) (hz : (zeroValue e).run Tryz.prog w = .ok z w)
    (b n r : Nat) (M : Nat → Option Value) (hM : MapV w b n M) (hm : a.eval m = .map (some b)) (hx : a.eval x = .int .u8 (r : Int)) (hr : r < 256)
    (hK : wpList Tryz.prog ops Q rest (a.put o.dst ((M r).getD z)) w) : wpList Tryz.prog ops Q (o :: rest) a w := by
  refine wpList_plain hg fun K' hK' => ?_
  have hrun := hM.run ht hz hr
  unfold Oper.wp
  simp [execOp, hop, hm, hx, hrun, Result.andThen]
  exact hK' _ _ hK
end Go.Proofs.YtgjbnbojjgbmcaaGreat

namespace Go.Proofs.YtgjbnbojjgbmcaaGreat.Clocks
open Go.RowKit Go.Proofs.YtgjbnbojjgbmcaaGreat.Spans
attribute [local go_sem ↓] Go.wp_at_zero Go.wp_at_succ
theorem holdO_apart {B H : Nat} {w w' : World} (ha : Apart B H w w') : ∀ {cs : List Value} {c : List Tm}, HoldO w H cs c → HoldO w' H cs c
  | [], [], _ => trivial
  | _ :: _ :: _, _ :: _, h => ⟨h.1, h.2.1, own_apart h.2.2.1 ha, holdO_apart ha h.2.2.2⟩
theorem ownC_apart {B H : Nat} {w w' : World} {v : Value} {c : List Tm} (h : OwnC w H v c) (ha : Apart B H w w') : OwnC w' H v c := by
  obtain ⟨cs, h1, h2⟩ := h
  exact ⟨cs, own_apart h1 ha, holdO_apart ha h2⟩
set_option maxRecDepth 100000 in
set_option maxHeartbeats 4000000 in
theorem told_any {gf : Nat} {lb : Array Value} (eg : ∀ args w, (callFunc gf args).run Tryz.prog w = .ok (.enter gf args) w) {B : Nat} {w : World} (g : Nat → List Sp) (St : Nat → World → Prop) (h0 : St 0 w) (hB : B ≤ w.heap.size)
    (hst : ∀ k W W', St k W → w.heap.size ≤ W.heap.size → Below w.heap.size W W' → St k W')
    (hcall : ∀ (k : Nat) (W : World), k < 8 → w.heap.size ≤ W.heap.size → St k W → Calls Tryz.prog gf (#[.int .u8 (k : Int)] ++ lb) W fun e w' => ∃ v', e = .returned (.tuple #[v', .int .i64 0]) ∧
      w'.ownsRow W.heap.size 174 2 v' (g k).length (sps (g k)) ∧ Apart B w.heap.size W w' ∧ St (k + 1) w') :
    Calls Tryz.prog 164 #[.func (.func gf) #[] lb] w fun e w' => ∃ v', e = .returned (.tuple #[v', .int .i64 0]) ∧ OwnC w' w.heap.size v' (clkFrom g 0 8) ∧ Below B w w' := by
  have H0 := Lib.hid h0
  have HST := Lib.hid hst
  have HCA := Lib.hid hcall
  clear h0 hst hcall
  have O0 : Hid (OwnC w w.heap.size (.slice none 0 0) (clkFrom g 0 0)) := OwnC.nil _ _
  have B0 := Lib.hid (Below.refl B w)
  go_enter Tryz.func164, Tryz.ntmps164
  go_wp2
  go_loopw [4, 8] (fun o i wr => ∃ k : Nat, k ≤ 8 ∧ i = .int .u8 (k : Int) ∧ Hid (OwnC wr w.heap.size o (clkFrom g 0 k)) ∧ Hid (St k wr) ∧ Hid (Below B w wr)) (fun _ i _ => 8 - (intOf i).toNat)
  case atStart => exact ⟨0, by omega, rfl, O0, H0, B0⟩
  case round =>
    clear O0 H0 B0
    obtain ⟨k, hk, rfl, hown, hs, hbel⟩ := hrel
    by_cases hk8 : k < 8
    · have q1 : decide ((k : Int) < 8) = true := decide_eq_true (by omega)
      have q2 : decide (k < 8) = true := decide_eq_true hk8
      have hsz := hbel.out.size
      have CA := Lib.hid (HCA.out k wr hk8 hsz hs.out)
      have hln := clkFrom_len g k 0
      have hsn := clkFrom_snoc g k 0
      rw [Nat.zero_add] at hsn
      have HSN : Hid (clkFrom g 0 (k + 1) = putC (clkFrom g 0 k) k (g k)) := hsn
      have e1 : IntKind.u8.wrap ((k : Int) + 1) = (k : Int) + 1 := by rw [IntKind.wrap_u8]; omega
      have HLN := Lib.hid hln
      clear hsn hln hs
      go_wp2_with fail
      refine CA.out.mono ?_
      rintro e w1 ⟨v1, rfl, o1, a1, s1⟩
      have hsz1 : w.heap.size ≤ w1.heap.size := Nat.le_trans hsz a1.1.size
      have OC := Lib.hid (ownC_apart hown.out a1)
      have O1 := Lib.hid (own_base o1 hsz)
      have B1 := Lib.hid (hbel.out.trans a1.1)
      have S1 := Lib.hid s1
      clear o1 a1 s1 CA hown
      obtain ⟨l, hl⟩ : ∃ l, l = g k := ⟨_, rfl⟩
      rw [← hl] at O1 HSN
      clear hl
      obtain ⟨c, hc⟩ : ∃ c, c = clkFrom g 0 k := ⟨_, rfl⟩
      rw [← hc] at OC HSN HLN
      clear hc
      obtain ⟨m, hm⟩ : ∃ m, m = l.length := ⟨_, rfl⟩
      have HM := Lib.hid hm
      rw [← hm] at O1
      obtain ⟨cs, hv1, hv2⟩ := OC.out
      obtain ⟨ao, cap, rfl⟩ := Sees.shape (Sees.own hv1)
      obtain ⟨so, sc, rfl⟩ := Sees.shape (Sees.own O1.out)
      obtain ⟨n, hn⟩ : ∃ n, n = c.length := ⟨_, rfl⟩
      have HN := Lib.hid hn
      rw [← hn] at hv1 HLN ⊢
      have hln : n ≤ 8 := by have := HLN.out; omega
      have HV1 := Lib.hid hv1
      have HV2 := Lib.hid hv2
      clear hv1 hv2 HLN
      by_cases hm0 : m = 0
      · have hl0 : l = [] := List.length_eq_zero_iff.1 (by omega)
        have e : putC c k l = c := by unfold putC; rw [if_pos hl0, List.append_nil]
        rw [e] at HSN
        have O2 : Hid (OwnC w1 w.heap.size (.slice ao n cap) (clkFrom g 0 (k + 1))) := by show OwnC _ _ _ _; rw [HSN.out]; exact ⟨cs, by rw [← HN.out]; exact HV1.out, HV2.out⟩
        have t1 : decide ((0 : Int) < (m : Int)) = false := decide_eq_false (by omega)
        have t2 : decide (0 < m) = false := decide_eq_false (by omega)
        clear hm hn e hl0 OC
        go_wp2
        go_roundw
        case rel => exact ⟨k + 1, by omega, by go_num, O2, S1, B1⟩
        case measure => simp [intOf]; omega
      · have hl0 : l ≠ [] := fun h => hm0 (by rw [hm, h]; rfl)
        have t1 : decide ((0 : Int) < (m : Int)) = true := decide_eq_true (by omega)
        have t2 : decide (0 < m) = true := decide_eq_true (by omega)
        have e : putC c k l = c ++ [(k, l)] := by unfold putC; rw [if_neg hl0]
        rw [e] at HSN
        have hlen : (c ++ [(k, l)]).length = n + 1 := by simp [hn]
        have HLEN := Lib.hid hlen
        have SE : Hid (Sees (w1.alloc (.cells #[.int .u8 (k : Int), .slice so m sc] 114)) (.slice (some ⟨w1.heap.size, 0, none⟩) 1 1) 2 1 [.int .u8 (k : Int), .slice so m sc]) := sees_new w1 [.int .u8 (k : Int), .slice so m sc] 2 1 rfl (by omega) _ _
        have BX := Lib.hid ((Below.refl w1.heap.size w1).alloc (Nat.le_refl _) (.cells #[.int .u8 (k : Int), .slice so m sc] 114))
        clear hm hn e hl0 hlen OC
        go_wp2_with (at_builtin; go_loud (refine wpList_append_sees rfl (.tmp 23) (.tmp 27) 61 114 rfl Tryz.underlying61 times_info rfl (by decide) w.heap.size _ n cs rfl (own_stays HV1.out BX.out) _ 1 _ rfl SE.out (by intro z hz; simp at hz; rcases hz with rfl | rfl <;> rfl) ?a1 ?a2 ?a3 ?_))
        case a1 => omega
        case a2 => omega
        case a3 => exact Nat.le_trans hsz1 BX.out.size
        rintro v5 w5 o5 g5 b5
        have OW : Hid (OwnC w5 w.heap.size v5 (clkFrom g 0 (k + 1))) := by
          show OwnC _ _ _ _
          rw [HSN.out]
          have hx := own_stays HV1.out BX.out
          refine ⟨cs ++ [.int .u8 (k : Int), .slice so m sc], by rw [HLEN.out]; exact o5, HoldO.append (hold_grown (HV2.out.keeps BX.out) g5 (times_row hx)) ⟨rfl, by show k < 256; omega, ?_, trivial⟩⟩
          have := own_kept_span (own_stays O1.out BX.out) hx g5
          rw [HM.out] at this
          rw [HM.out]
          exact this
        have BH : Below w.heap.size w1 w5 := (BX.out.mono hsz1).trans b5
        have BB := Lib.hid (B1.out.trans (BH.mono hB))
        have SS := Lib.hid (HST.out _ _ _ S1.out hsz1 BH)
        obtain ⟨a5, c5, rfl⟩ : ∃ ao cap, v5 = .slice ao (n + 1) cap := Sees.shape (Sees.own o5)
        clear o5 g5 b5 SE BX BH
        go_wp2
        go_roundw
        case rel => exact ⟨k + 1, by omega, by go_num, OW, SS, BB⟩
        case measure => simp [intOf]; omega
    · have q1 : decide ((k : Int) < 8) = false := decide_eq_false (by omega)
      have q2 : decide (k < 8) = false := decide_eq_false hk8
      obtain rfl : k = 8 := by omega
      go_wp2
      go_ret2
      exact ⟨_, rfl, hown.out, hbel.out⟩
end Go.Proofs.YtgjbnbojjgbmcaaGreat.Clocks
