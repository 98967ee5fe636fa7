/- octavo/place: runMayBe, Twin, slices.Equal, Same: what each answers. Conditions: the slices' cells are runs. octavoref06.Ids, SameIds, More: what each answers. Conditions: the slices' cells are runs (stamps). Bags in plain words: which may be, one more in its place, two together, without stamps. Conditions: none. Places that are kept, in plain words: what the calls of anchor answer, and where an anchor is found. Conditions: none. octavolaw17.two, gone, found, alive: what each answers. Conditions: none. What the landed bag's walks come to: two bags gone through side by side, where a stamp stands or would. Conditions: none. octavo/bag.search: what it answers. Conditions: the slice's cells are operations whose stamps rise, not more than a million. -/
import Derived.Test.YtmiepnnpccpicaaGreatChecked
import Derived.WalkKit
import Derived.WalkSpells
import Derived.WalkLawsBesides
import Derived.Laws.BytesArg
import Derived.Lib.Hide
import Derived.Deep.LoopGhost
import Derived.Laws.AppendOwnNone
import Derived.Laws.OwnMore
import Derived.WideShapes
import Derived.Maps.AppendAt
import Derived.RegionTactic
import Derived.Deep.RegionHeld3
import Derived.Deep.DrawnRows
import Derived.Deep.QuietTactic
import Derived.BigQuiet
import Derived.IntWalk
import Derived.Deep.DeepCutAuto
import Derived.ScopeJumps
import Derived.Test.YtmiepnnpccpicaaGreatProg
import Derived.LoopTactic
import Derived.Laws.EntriesVeiled
import Derived.RowKit
import Derived.Lib.DecodeN
import Derived.Lib.RuneBytes
import Derived.Shelf.Abstract
import Derived.Shelf.SlSortCmp.InsertionK
import Derived.Calls
import Derived.StepT
import Derived.Below
import Derived.Sort.Grow
import Derived.Deep.Draws
import Derived.Shelf.SlLaysF0
import Derived.Shelf.SlSortCmp.NoneTotal
import Derived.Maps.Own
import Derived.Maps.OwnOps
import Derived.Maps.OwnSet
import Derived.Maps.Views
import Derived.DeepKeys4
import Derived.RangeFuncBox
import Derived.RangeFuncLeaves
import Derived.RangeFuncNested
import Derived.RangeFuncBound
import Derived.RangeFuncCalls
import Derived.OwnWalkIn
import Derived.TacticsInMore
import Derived.LoopNIn
import Derived.LoopIn
import Derived.Scope
import Derived.Lib.Tables
import Derived.Laws.Bits64
import Derived.Test.YtmiepnnpccpicaaGreatShelf
import Derived.Lib.OthersKept
import Derived.BigCall
import Derived.Defers
import Derived.Test.YtmiepnnpccpicaaGreatRw
import Derived.Test.YtmiepnnpccpicaaGreatPk02
import Derived.Test.YtmiepnnpccpicaaGreatPk01
import Derived.Test.YtmiepnnpccpicaaGreatPk04
import Derived.Test.YtmiepnnpccpicaaGreatPk03
import Derived.Test.YtmiepnnpccpicaaGreatPk05
import Derived.Test.YtmiepnnpccpicaaGreatPk11
import Derived.Test.YtmiepnnpccpicaaGreatPk08
import Derived.Test.YtmiepnnpccpicaaGreatPk06
import Derived.Test.YtmiepnnpccpicaaGreatPk07
import Derived.Test.YtmiepnnpccpicaaGreatPk10
import Derived.Test.YtmiepnnpccpicaaGreatPk09

namespace Go.Proofs.YtmiepnnpccpicaaGreat.Place
open Go.RowKit Stamp
attribute [local go_sem ↓] Go.wp_at_zero Go.wp_at_succ
set_option maxHeartbeats 1000000 in
theorem slEq_yes {a b : Value} {l : List Run} {w : World} (ha : Runs w a l) (hb : Runs w b l) :
    Calls Tryz.prog 71 #[a, b] w fun e w' => e = .returned (.bool true) ∧ Below w.heap.size w w' := by
  obtain ⟨ao, ca, rfl⟩ := ha.shape
  obtain ⟨bo, cb, rfl⟩ := hb.shape
  obtain ⟨n, hn⟩ : ∃ n, n = l.length := ⟨_, rfl⟩
  have hm : n ≤ 9223372036854775807 := by rw [hn]; exact Sees.max ha
  have HA := Lib.hid ha
  have HB := Lib.hid hb
  have HN := Lib.hid hn
  rw [← hn]
  clear ha hb hn
  have t1 : ((n : Int) != (n : Int)) = false := by simp
  go_enter Tryz.func71, Tryz.ntmps71
  go_wp2
  go_loopw [13] (fun i wr => ∃ k : Nat, k ≤ n ∧ i = .int .i64 (k : Int) ∧ ∃ q, wr = w.drewN q) (fun i _ => n - (intOf i).toNat)
  case atStart => exact ⟨0, by omega, rfl, 0, rfl⟩
  case round =>
    obtain ⟨k, hk, rfl, q, rfl⟩ := hrel
    by_cases hkn : k < n
    · have q1 : decide (k < n) = true := by simpa using hkn
      obtain ⟨b1, o1, rfl, hb1, ha0, ha1, ha2⟩ := HA.out.at k (by rw [← HN.out]; exact hkn)
      obtain ⟨b2, o2, rfl, hb2, hb0, hb1', hb2'⟩ := HB.out.at k (by rw [← HN.out]; exact hkn)
      obtain ⟨x, hx⟩ : ∃ x, x = l.getD k zrun := ⟨_, rfl⟩
      rw [← hx] at ha0 ha1 ha2 hb0 hb1' hb2'
      obtain ⟨xt, xr, xm, _, _, _⟩ := x
      simp only at ha0 ha1 ha2 hb0 hb1' hb2'
      have q2 : (0 : Int) ≤ (k : Int) := by omega
      have q3 : (k : Int) < (n : Int) := by omega
      clear hx
      go_wp2
      go_quiet (fail)
      go_wp2
      go_roundw
      case rel => exact ⟨k + 1, by omega, by go_num, _, rfl⟩
      case measure => simp [intOf]; omega
    · have q1 : decide (k < n) = false := by simpa using hkn
      go_wp2
      go_ret
      exact ⟨rfl, below_draw (Below.refl _ _) _⟩
set_option maxHeartbeats 1000000 in
theorem slEq_no {a b : Value} {l m : List Run} {w : World} (ha : Runs w a l) (hb : Runs w b m) (hlm : l ≠ m) :
    Calls Tryz.prog 71 #[a, b] w fun e w' => e = .returned (.bool false) ∧ Below w.heap.size w w' := by
  obtain ⟨ao, ca, rfl⟩ := ha.shape
  obtain ⟨bo, cb, rfl⟩ := hb.shape
  obtain ⟨n, hn⟩ : ∃ n, n = l.length := ⟨_, rfl⟩
  obtain ⟨n2, hn2⟩ : ∃ n, n = m.length := ⟨_, rfl⟩
  have hm : n ≤ 9223372036854775807 := by rw [hn]; exact Sees.max ha
  have HA := Lib.hid ha
  have HB := Lib.hid hb
  have HN := Lib.hid hn
  have HN2 := Lib.hid hn2
  have HL := Lib.hid hlm
  rw [← hn, ← hn2]
  clear ha hb hn hn2 hlm
  by_cases hlen : n = n2
  · subst hlen
    have t1 : ((n : Int) != (n : Int)) = false := by simp
    go_enter Tryz.func71, Tryz.ntmps71
    go_wp2
    go_loopw [13] (fun i wr => ∃ k : Nat, k ≤ n ∧ i = .int .i64 (k : Int) ∧ Hid (∀ j, j < k → l.getD j zrun = m.getD j zrun) ∧ ∃ q, wr = w.drewN q) (fun i _ => n - (intOf i).toNat)
    case atStart => exact ⟨0, by omega, rfl, Lib.hid (by omega), 0, rfl⟩
    case round =>
      obtain ⟨k, hk, rfl, hal, q, rfl⟩ := hrel
      by_cases hkn : k < n
      · have q1 : decide (k < n) = true := by simpa using hkn
        obtain ⟨b1, o1, rfl, hb1, ha0, ha1, ha2⟩ := HA.out.at k (by rw [← HN.out]; exact hkn)
        obtain ⟨b2, o2, rfl, hb2, hb0, hb1', hb2'⟩ := HB.out.at k (by rw [← HN2.out]; exact hkn)
        obtain ⟨x, hx⟩ : ∃ x, x = l.getD k zrun := ⟨_, rfl⟩
        obtain ⟨y, hy⟩ : ∃ y, y = m.getD k zrun := ⟨_, rfl⟩
        rw [← hx] at ha0 ha1 ha2
        rw [← hy] at hb0 hb1' hb2'
        have q2 : (0 : Int) ≤ (k : Int) := by omega
        have q3 : (k : Int) < (n : Int) := by omega
        by_cases hxy : x = y
        · have HX := Lib.hid (show l.getD k zrun = m.getD k zrun by rw [← hx, ← hy, hxy])
          subst hxy
          obtain ⟨xt, xr, xm, _, _, _⟩ := x
          simp only at ha0 ha1 ha2 hb0 hb1' hb2'
          clear hx hy
          go_wp2
          go_quiet (fail)
          go_wp2
          go_roundw
          case rel =>
            refine ⟨k + 1, by omega, by go_num, Lib.hid (fun j hj => ?_), _, rfl⟩
            by_cases e : j = k
            · rw [e]; exact HX.out
            · exact hal.out j (by omega)
          case measure => simp [intOf]; omega
        · have hparts : ¬ x.t = y.t ∨ (x.t = y.t ∧ ¬ x.r = y.r) ∨ (x.t = y.t ∧ x.r = y.r ∧ ¬ x.m = y.m) := by
            by_cases h1 : x.t = y.t
            · by_cases h2 : x.r = y.r
              · exact .inr (.inr ⟨h1, h2, fun h3 => hxy (Run.ext' h1 h2 h3)⟩)
              · exact .inr (.inl ⟨h1, h2⟩)
            · exact .inl h1
          obtain ⟨xt, xr, xm, _, _, _⟩ := x
          obtain ⟨yt, yr, ym, _, _, _⟩ := y
          simp only at ha0 ha1 ha2 hb0 hb1' hb2' hparts
          clear hx hy hxy
          rcases hparts with h1 | ⟨rfl, h2⟩ | ⟨rfl, rfl, h3⟩
          · go_wp2
            go_quiet (fail)
            go_wp2
            go_ret
            exact ⟨rfl, below_draw (below_draw (Below.refl _ _) _) _⟩
          · have h4 : ((xr : Int) == (yr : Int)) = false := by simp; omega
            have h5 : decide (xr = yr) = false := decide_eq_false h2
            go_wp2
            go_quiet (fail)
            go_wp2
            go_ret
            exact ⟨rfl, below_draw (below_draw (Below.refl _ _) _) _⟩
          · go_wp2
            go_quiet (fail)
            go_wp2
            go_ret
            exact ⟨rfl, below_draw (below_draw (Below.refl _ _) _) _⟩
      · exfalso
        obtain ⟨j, h1, h2⟩ := runs_ne (by rw [← HN.out, ← HN2.out]) HL.out
        exact h2 (hal.out j (by have := HN.out; omega))
  · have t1 : ((n : Int) != (n2 : Int)) = true := by simp; omega
    have t2 : ¬ n = n2 := hlen
    go_enter Tryz.func71, Tryz.ntmps71
    go_wp2
    go_ret
    exact ⟨rfl, Below.refl _ _⟩
theorem psame_any {a b : Value} {l m : List Run} {w : World} (ha : Runs w a l) (hb : Runs w b m) :
    Calls Tryz.prog 34 #[a, b] w fun e w' => e = .returned (.bool (decide (l = m))) ∧ Below w.heap.size w w' := by
  by_cases h : l = m
  · subst h
    rw [decide_eq_true rfl]
    have E := Lib.hid (slEq_yes ha hb)
    clear ha hb
    go_enter Tryz.func34, Tryz.ntmps34
    go_wp2_with fail
    refine E.out.mono ?_
    rintro e w1 ⟨rfl, b1⟩
    go_wp2
    go_ret
    exact ⟨rfl, b1⟩
  · rw [decide_eq_false h]
    have E := Lib.hid (slEq_no ha hb h)
    clear ha hb h
    go_enter Tryz.func34, Tryz.ntmps34
    go_wp2_with fail
    refine E.out.mono ?_
    rintro e w1 ⟨rfl, b1⟩
    go_wp2
    go_ret
    exact ⟨rfl, b1⟩
end Go.Proofs.YtmiepnnpccpicaaGreat.Place

namespace Go.Proofs.YtmiepnnpccpicaaGreat.Place
open Go.RowKit Stamp
attribute [local go_sem ↓] Go.wp_at_zero Go.wp_at_succ
attribute [local go_sem] yielded_undef
/-- A place with a stamp behind. -/
def more (l : List Run) (a : Id) : List Run :=
  if 0 < l.length ∧ (l.getD (l.length - 1) zrun).r = a.r ∧ fin (l.getD (l.length - 1) zrun) + 1 = (a.t : Int) then l.take (l.length - 1) ++ [mkRun (l.getD (l.length - 1) zrun).t (l.getD (l.length - 1) zrun).r ((l.getD (l.length - 1) zrun).m + 1)] else l ++ [mkRun a.t a.r 1]
end Go.Proofs.YtmiepnnpccpicaaGreat.Place

namespace Go.Proofs.YtmiepnnpccpicaaGreat.Bags
open Ops Stamp
theorem lessO_asymm {a b : Opn} (h : lessO a b) : ¬ lessO b a := by unfold lessO at *; omega
theorem lessO_three (a b : Opn) : lessO a b ∨ idO a = idO b ∨ lessO b a := by rw [idO_eq]; unfold lessO; omega
def withO (l : List Opn) (o : Opn) : List Opn := if hasO l (idO o) = true then l else l.filter (fun x => decide (lessO x o)) ++ o :: l.filter (fun x => decide (lessO o x))
theorem mem_withO {l : List Opn} {o x : Opn} : x ∈ withO l o ↔ x ∈ l ∨ x = o ∧ hasO l (idO o) = false := by
  unfold withO
  by_cases h : hasO l (idO o) = true
  · rw [if_pos h]; simp [h]
  · rw [if_neg h]
    have h' : hasO l (idO o) = false := by simpa using h
    simp only [List.mem_append, List.mem_cons, List.mem_filter, decide_eq_true_eq, h', and_true]
    constructor
    · rintro (h1 | rfl | h1)
      · exact .inl h1.1
      · exact .inr rfl
      · exact .inl h1.1
    · rintro (h1 | rfl)
      · rcases lessO_three x o with h2 | h2 | h2
        · exact .inl ⟨h1, h2⟩
        · exact absurd h2 (hasO_no.1 h' x h1)
        · exact .inr (.inr ⟨h1, h2⟩)
      · exact .inr (.inl rfl)
theorem pw_withO {l : List Opn} {o : Opn} (hp : l.Pairwise lessO) : (withO l o).Pairwise lessO := by
  unfold withO
  by_cases h : hasO l (idO o) = true
  · rw [if_pos h]; exact hp
  · rw [if_neg h, List.pairwise_append]
    refine ⟨hp.filter _, List.Pairwise.cons (fun x hx => by simpa using (List.mem_filter.1 hx).2) (hp.filter _), fun a ha b hb => ?_⟩
    have ha2 : lessO a o := by simpa using (List.mem_filter.1 ha).2
    rcases List.mem_cons.1 hb with rfl | hb
    · exact ha2
    · exact lessO_trans ha2 (by simpa using (List.mem_filter.1 hb).2)
theorem filter_parts {l : List Opn} {o : Opn} (h : ∀ x ∈ l, idO x ≠ idO o) : (l.filter (fun x => decide (lessO x o))).length + (l.filter (fun x => decide (lessO o x))).length = l.length := by
  induction l with
  | nil => rfl
  | cons x l ih =>
    have ih' := ih (fun y hy => h y (by simp [hy]))
    have hx := h x (by simp)
    rcases lessO_three x o with h1 | h1 | h1
    · have h2 := lessO_asymm h1
      simp only [List.filter_cons, h1, h2, decide_true, decide_false, if_true, Bool.false_eq_true, if_false, List.length_cons]
      omega
    · exact absurd h1 hx
    · have h2 := lessO_asymm h1
      simp only [List.filter_cons, h1, h2, decide_true, decide_false, if_true, Bool.false_eq_true, if_false, List.length_cons]
      omega
theorem withO_len (l : List Opn) (o : Opn) : (withO l o).length = if hasO l (idO o) = true then l.length else l.length + 1 := by
  unfold withO
  by_cases h : hasO l (idO o) = true
  · rw [if_pos h, if_pos h]
  · rw [if_neg h, if_neg h]
    have := filter_parts (hasO_no.1 (by simpa using h))
    rw [List.length_append, List.length_cons]
    omega
theorem bag_withO {l : List Opn} {o : Opn} (hb : Bag l) (ho : mayO o = true) (hl : (withO l o).length ≤ 1024) : Bag (withO l o) :=
  ⟨hl, fun x hx => by rcases mem_withO.1 hx with h | ⟨rfl, _⟩; exact hb.2.1 x h; exact ho, pw_withO hb.2.2⟩
/-- What Add answers. -/
def addE (l : List Opn) (o : Opn) : Int := if ¬ (bagB l = true ∧ mayO o = true) then 8 else if 1024 < (withO l o).length then 9 else 0
def addL (l : List Opn) (o : Opn) : List Opn := if addE l o = 0 then withO l o else []
theorem addE_cases (l : List Opn) (o : Opn) : (addE l o = 8 ∧ ¬ (Bag l ∧ mayO o = true)) ∨ (addE l o = 9 ∧ Bag l ∧ mayO o = true ∧ 1024 < (withO l o).length) ∨ (addE l o = 0 ∧ Bag l ∧ mayO o = true ∧ (withO l o).length ≤ 1024) := by
  unfold addE
  by_cases h : Bag l ∧ mayO o = true
  · rw [if_neg (by rw [bagB_iff]; exact fun hn => hn h)]
    by_cases h2 : 1024 < (withO l o).length
    · rw [if_pos h2]; exact .inr (.inl ⟨rfl, h.1, h.2, h2⟩)
    · rw [if_neg h2]; exact .inr (.inr ⟨rfl, h.1, h.2, by omega⟩)
  · rw [if_pos (by rw [bagB_iff]; exact h)]; exact .inl ⟨rfl, h⟩
theorem addL_bag {l : List Opn} {o : Opn} (h : addE l o = 0) : addL l o = withO l o ∧ Bag (addL l o) := by
  have e : addL l o = withO l o := by unfold addL; rw [if_pos h]
  rcases addE_cases l o with ⟨h1, _⟩ | ⟨h1, _⟩ | ⟨_, h2, h3, h4⟩
  · rw [h] at h1; cases h1
  · rw [h] at h1; cases h1
  · rw [e]; exact ⟨rfl, bag_withO h2 h3 h4⟩
end Go.Proofs.YtmiepnnpccpicaaGreat.Bags

namespace Go.Proofs.YtmiepnnpccpicaaGreat.Anchors
open Ops Stamp Bags Marks Homes Covers Views Go.Proofs.YtmiepnnpccpicaaGreat.Place
/-- What was anchored is found where it is. -/
theorem find_back {l : List Opn} {s : Id} {k : Int} (h : atE l s k = 0) : findE l (makeP l s k) = 0 ∧ findS l (makeP l s k) = s ∧ ((findN l (makeP l s k) : Nat) : Int) = k := by
  obtain ⟨h1, h2, h3, h4, h5, h6, h7⟩ := make_yes h
  have hc : bagB l = true ∧ mayB (makeP l s k) = true := ⟨(bagB_iff l).2 h1, h5⟩
  unfold findE findS findN
  rw [if_pos hc, if_pos hc, if_pos hc, h6, h7]
  exact ⟨rfl, rfl, by omega⟩
/-- The first of some in order stand ahead of a place, and no others. -/
theorem bef_split {p : List Run} : ∀ {c : List Opn}, (∀ o ∈ c, mayO o = true) → c.Pairwise pre → ∀ (i : Nat) (hi : i < c.length), Go.Proofs.YtmiepnnpccpicaaGreat.Place.hold (all (c[i]'hi).pl) (all p) < 0 ↔ i < befM c p
  | [], _, _, i, hi => by simp at hi
  | x :: c, hm, hs, i, hi => by
    have hs' := List.pairwise_cons.1 hs
    have ih := bef_split (p := p) (c := c) (fun o ho => hm o (by simp [ho])) hs'.2
    by_cases hx : Go.Proofs.YtmiepnnpccpicaaGreat.Place.hold (all x.pl) (all p) < 0
    · have e : befM (x :: c) p = befM c p + 1 := by
        unfold befM
        rw [List.filter_cons_of_pos (by simpa using hx), List.length_cons]
      rw [e]
      cases i with
      | zero => exact ⟨fun _ => by omega, fun _ => hx⟩
      | succ i =>
        have := ih i (by simpa using hi)
        rw [List.getElem_cons_succ, this]
        omega
    · have hall : ∀ y ∈ c, ¬ Go.Proofs.YtmiepnnpccpicaaGreat.Place.hold (all y.pl) (all p) < 0 := fun y hy h => hx (by
        have h1 := (pre_iff (hm x (by simp)) (hm y (by simp [hy]))).1 (hs'.1 y hy)
        have h2 := hold_range (all y.pl) (all p)
        have := hold_trans _ _ _ h1 (show Go.Proofs.YtmiepnnpccpicaaGreat.Place.hold (all y.pl) (all p) = -1 by omega)
        omega)
      have e : befM (x :: c) p = 0 := by
        unfold befM
        rw [List.filter_cons_of_neg (by simpa using hx), List.filter_eq_nil_iff.2 (fun y hy => by simpa using hall y hy)]
        rfl
      rw [e]
      refine ⟨fun h => absurd h ?_, fun h => by omega⟩
      cases i with
      | zero => exact hx
      | succ i => exact hall _ (List.getElem_mem (by simpa using hi))
theorem bef_le (c : List Opn) (p : List Run) : befM c p ≤ c.length := by unfold befM; exact List.length_filter_le _ _
/-- Where a place is found, in any bag. -/
theorem find_any {l : List Opn} {p : List Run} (hb : Bag l) (hp : mayB p = true) : findE l p = 0 ∧ spanE l (findS l p) = 0 ∧ findN l p = befM (elmL l (findS l p)) p ∧ findN l p ≤ (elmL l (findS l p)).length ∧
    (∀ k (h : k < (elmL l (findS l p)).length), k + 1 = findN l p → cmp ((elmL l (findS l p))[k]'h).pl p < 0) ∧
    (∀ h : findN l p < (elmL l (findS l p)).length, cmp p ((elmL l (findS l p))[findN l p]'h).pl ≤ 0) := by
  have hc : bagB l = true ∧ mayB p = true := ⟨(bagB_iff l).2 hb, hp⟩
  have e1 : findE l p = 0 := by unfold findE; rw [if_pos hc]
  have e2 : findS l p = homeM (livesM l l) p := by unfold findS; rw [if_pos hc]
  have e3 : findN l p = befM (elmL l (findS l p)) p := by rw [e2]; unfold findN; rw [if_pos hc]
  have hm : ∀ o ∈ elmL l (findS l p), mayO o = true := fun o ho => (mem_elm_l ho).2.2.2.2.1
  have hs := elm_sorted l (findS l p)
  have cm : ∀ o ∈ elmL l (findS l p), cmp o.pl p = Go.Proofs.YtmiepnnpccpicaaGreat.Place.hold (all o.pl) (all p) ∧ cmp p o.pl = Go.Proofs.YtmiepnnpccpicaaGreat.Place.hold (all p) (all o.pl) := fun o ho => by
    have ha := anyB_may (mayO_parts (hm o ho)).2.1
    unfold cmp
    rw [if_pos ⟨ha, anyB_may hp⟩, if_pos ⟨anyB_may hp, ha⟩]
    exact ⟨rfl, rfl⟩
  refine ⟨e1, by rw [e2]; exact home_where hb p, e3, by rw [e3]; exact bef_le _ _, fun k h hk => ?_, fun h => ?_⟩
  · rw [(cm _ (List.getElem_mem h)).1]
    exact (bef_split hm hs k h).2 (by omega)
  · rw [(cm _ (List.getElem_mem h)).2]
    have h1 := bef_split (p := p) hm hs (findN l p) h
    have h2 := hold_neg (all p) (all ((elmL l (findS l p))[findN l p]'h).pl)
    have h3 : ¬ Go.Proofs.YtmiepnnpccpicaaGreat.Place.hold (all ((elmL l (findS l p))[findN l p]'h).pl) (all p) < 0 := fun h4 => by have := h1.1 h4; omega
    omega
end Go.Proofs.YtmiepnnpccpicaaGreat.Anchors

namespace Go.Proofs.YtmiepnnpccpicaaGreat.Anchors
open Go.RowKit Go.WideShapes Stamp Go.Proofs.YtmiepnnpccpicaaGreat.Place Ops Codes Bags Marks Homes Covers Views
attribute [local go_sem ↓] Go.wp_at_zero Go.wp_at_succ
attribute [local go_sem] yielded_undef
def pa : List Run := [⟨1, 0, 1, by decide, by decide, by decide⟩]
def pb : List Run := [⟨1, 0, 2, by decide, by decide, by decide⟩]
def oa : Opn := ⟨1, 1, 0, pa, 65, by decide, by decide, by decide, by decide⟩
def ob : Opn := ⟨1, 2, 0, pb, 66, by decide, by decide, by decide, by decide⟩
def og : Opn := ⟨3, 10, 1, pa, 0, by decide, by decide, by decide, by decide⟩
/-- The chapter's two inserts. -/
def TwoA (w : World) (e : Ending) (w' : World) : Prop := ∃ g h1 h2, e = .returned (.slice (some ⟨g, 0, none⟩) 2 2) ∧ w'.heap[g]? = some (.cells #[.int .u8 1, .int .u32 1, .int .u8 0, .slice (some ⟨h1, 0, none⟩) 1 1, .int .i64 65, .int .u8 1, .int .u32 2, .int .u8 0, .slice (some ⟨h2, 0, none⟩) 1 1, .int .i64 66] 47) ∧ w'.ownsRow w.heap.size 40 3 (.slice (some ⟨h1, 0, none⟩) 1 1) 1 (runs pa) ∧ w'.ownsRow w.heap.size 40 3 (.slice (some ⟨h2, 0, none⟩) 1 1) 1 (runs pb) ∧ w'.ownsRow w.heap.size 47 5 (.slice (some ⟨g, 0, none⟩) 2 2) 2 [.int .u8 1, .int .u32 1, .int .u8 0, .slice (some ⟨h1, 0, none⟩) 1 1, .int .i64 65, .int .u8 1, .int .u32 2, .int .u8 0, .slice (some ⟨h2, 0, none⟩) 1 1, .int .i64 66] ∧ Below w.heap.size w w'
theorem two_hold {w : World} {b h1 h2 : Nat} (r1 : w.ownsRow b 40 3 (.slice (some ⟨h1, 0, none⟩) 1 1) 1 (runs pa)) (r2 : w.ownsRow b 40 3 (.slice (some ⟨h2, 0, none⟩) 1 1) 1 (runs pb)) : HoldP w b [.int .u8 1, .int .u32 1, .int .u8 0, .slice (some ⟨h1, 0, none⟩) 1 1, .int .i64 65, .int .u8 1, .int .u32 2, .int .u8 0, .slice (some ⟨h2, 0, none⟩) 1 1, .int .i64 66] [oa, ob] := ⟨_, _, rfl, r1, _, _, rfl, r2, rfl⟩
theorem two_opl {w : World} {b g h1 h2 : Nat} (r1 : w.ownsRow b 40 3 (.slice (some ⟨h1, 0, none⟩) 1 1) 1 (runs pa)) (r2 : w.ownsRow b 40 3 (.slice (some ⟨h2, 0, none⟩) 1 1) 1 (runs pb)) (r3 : w.ownsRow b 47 5 (.slice (some ⟨g, 0, none⟩) 2 2) 2 [.int .u8 1, .int .u32 1, .int .u8 0, .slice (some ⟨h1, 0, none⟩) 1 1, .int .i64 65, .int .u8 1, .int .u32 2, .int .u8 0, .slice (some ⟨h2, 0, none⟩) 1 1, .int .i64 66]) : OpL w (.slice (some ⟨g, 0, none⟩) 2 2) [oa, ob] := OwnL.opl ⟨_, r3, two_hold r1 r2⟩
set_option maxRecDepth 100000 in
set_option maxHeartbeats 4000000 in
theorem two17_any (w : World) : Calls Tryz.prog 33 #[] w (TwoA w) := by
  obtain ⟨W1, e1⟩ : ∃ W, W = w.alloc (.cells #[.int .u32 1, .int .u8 0, .int .i64 1] 40) := ⟨_, rfl⟩
  obtain ⟨W2, e2⟩ : ∃ W, W = W1.alloc (.cells #[.int .u32 1, .int .u8 0, .int .i64 2] 40) := ⟨_, rfl⟩
  have s1 : W1.heap.size = w.heap.size + 1 := by rw [e1]; exact Array.size_push _
  have s2 : W2.heap.size = w.heap.size + 1 + 1 := by rw [← s1, e2]; exact Array.size_push _
  have b1 : Below w.heap.size w W1 := by rw [e1]; exact (Below.refl _ _).alloc (Nat.le_refl _) _
  have b2 : Below W1.heap.size W1 W2 := by rw [e2]; exact (Below.refl _ _).alloc (Nat.le_refl _) _
  obtain ⟨C, hC⟩ : ∃ C : Array Value, C = #[.int .u8 1, .int .u32 1, .int .u8 0, .slice (some ⟨w.heap.size, 0, none⟩) 1 1, .int .i64 65, .int .u8 1, .int .u32 2, .int .u8 0, .slice (some ⟨w.heap.size + 1, 0, none⟩) 1 1, .int .i64 66] := ⟨_, rfl⟩
  have b3 : Below W2.heap.size W2 (W2.alloc (.cells C 47)) := (Below.refl _ _).alloc (Nat.le_refl _) _
  have r1 : W1.ownsRow w.heap.size 40 3 (.slice (some ⟨w.heap.size, 0, none⟩) 1 1) 1 (runs pa) := by
    rw [e1]
    exact World.ownsRow_lit (base := w.heap.size) (e := 40) (size := 3) w #[.int .u32 1, .int .u8 0, .int .i64 1] 1 (Nat.le_refl _) (by have : maxLen = 9223372036854775807 := rfl; omega) rfl
  have r2 : W2.ownsRow w.heap.size 40 3 (.slice (some ⟨w.heap.size + 1, 0, none⟩) 1 1) 1 (runs pb) := by
    rw [e2, ← s1]
    exact World.ownsRow_lit (base := w.heap.size) (e := 40) (size := 3) W1 #[.int .u32 1, .int .u8 0, .int .i64 2] 1 (by omega) (by have : maxLen = 9223372036854775807 := rfl; omega) rfl
  have r3 : (W2.alloc (.cells C 47)).ownsRow w.heap.size 47 5 (.slice (some ⟨w.heap.size + 1 + 1, 0, none⟩) 2 2) 2 C.toList := by
    rw [← s2]
    exact World.ownsRow_lit (base := w.heap.size) (e := 47) (size := 5) W2 C 2 (by omega) (by have : maxLen = 9223372036854775807 := rfl; omega) (by rw [hC]; rfl)
  have X : (W2.alloc (.cells C 47)).heap[w.heap.size + 1 + 1]? = some (.cells C 47) := by rw [← s2]; exact blk_new rfl
  have RE : Hid (TwoA w (.returned (.slice (some ⟨w.heap.size + 1 + 1, 0, none⟩) 2 2)) (W2.alloc (.cells C 47))) := by
    rw [hC] at r3 X b3 ⊢
    exact ⟨_, _, _, rfl, X, own_stays (own_stays r1 b2) b3, own_stays r2 b3, r3, bt (bt b1 b2) b3⟩
  clear r1 r2 r3 X b1 b2 b3 s1 s2
  subst hC e2 e1
  go_enter Tryz.func33, Tryz.ntmps33
  go_wp2
  exact bodyPost_ret (v := .slice (some ⟨w.heap.size + 1 + 1, 0, none⟩) 2 2) (by simp [results, Tryz.results33, go_sem]) rfl RE.out
set_option maxRecDepth 100000 in
set_option maxHeartbeats 8000000 in
theorem gone17_any (w : World) : Calls Tryz.prog 36 #[] w fun e w' => ∃ v, e = .returned v ∧ OpL w' v [oa, ob, og] ∧ Below w.heap.size w w' := by
  go_enter Tryz.func36, Tryz.ntmps36
  go_wp2_with fail
  refine (two17_any _).mono ?_
  rintro e w1 ⟨g, h1, h2, rfl, -, r1, r2, r3, b1⟩
  have B1 := Lib.hid b1
  have HR := Lib.hid (And.intro r3 (two_hold r1 r2))
  clear r1 r2 r3 b1
  go_wp2_with fail
  refine (two17_any _).mono ?_
  rintro e w2 ⟨g9, h19, h29, rfl, x9, r1, -, -, b2⟩
  have U := Lib.hid (op_base r1 B1.out.size)
  have c3 := cell_of_row _ _ 3 _ _ _ x9
  have BX : Hid (Below w2.heap.size w2 (w2.alloc (.cells #[.int .u8 3, .int .u32 10, .int .u8 1, .slice (some ⟨h19, 0, none⟩) 1 1, .int .i64 0] 47))) := (Below.refl _ _).alloc (Nat.le_refl _) _
  have OA := Lib.hid (own_stays (own_stays HR.out.1 b2) BX.out)
  have SE : Hid (Sees (w2.alloc (.cells #[.int .u8 3, .int .u32 10, .int .u8 1, .slice (some ⟨h19, 0, none⟩) 1 1, .int .i64 0] 47)) (.slice (some ⟨w2.heap.size, 0, none⟩) 1 1) 5 1 [.int .u8 3, .int .u32 10, .int .u8 1, .slice (some ⟨h19, 0, none⟩) 1 1, .int .i64 0]) := sees_new w2 [.int .u8 3, .int .u32 10, .int .u8 1, .slice (some ⟨h19, 0, none⟩) 1 1, .int .i64 0] 5 1 rfl (by omega) 47 (0, 0)
  have FO : Hid (∀ z ∈ ([.int .u8 3, .int .u32 10, .int .u8 1, .slice (some ⟨h19, 0, none⟩) 1 1, .int .i64 0] : List Value), z.oneCell' = true) := fun z hz => by
    simp only [List.mem_cons, List.not_mem_nil, or_false] at hz
    rcases hz with rfl | rfl | rfl | rfl | rfl <;> rfl
  have B2 := Lib.hid (bt B1.out b2)
  have BW := Lib.hid (bt B2.out BX.out)
  have BZ := Lib.hid (bt b2 BX.out)
  clear x9 r1 b2 B1
  go_wp2_with (at_builtin; refine wpList_append_sees rfl (.tmp 1) (.tmp 8) 22 47 rfl Tryz.underlying22 op_info rfl (by decide) w.heap.size _ 2 [.int .u8 1, .int .u32 1, .int .u8 0, .slice (some ⟨h1, 0, none⟩) 1 1, .int .i64 65, .int .u8 1, .int .u32 2, .int .u8 0, .slice (some ⟨h2, 0, none⟩) 1 1, .int .i64 66] rfl OA.out _ 1 [.int .u8 3, .int .u32 10, .int .u8 1, .slice (some ⟨h19, 0, none⟩) 1 1, .int .i64 0] rfl SE.out FO.out ?k1 ?k2 ?k3 ?_)
  case k1 => omega
  case k2 => omega
  case k3 => exact BW.out.size
  rintro v5 w5 o5 g5 b5
  have OL := Lib.hid (OwnL.opl (OwnL.snoc (o := og) (l := [oa, ob]) HR.out.1 HR.out.2 BZ.out (own_stays U.out BX.out) g5 o5 rfl))
  have B5 := Lib.hid (BW.out.trans b5)
  clear o5 g5 b5 OA SE FO BW BZ BX U HR B2
  go_wp2
  go_ret
  exact ⟨_, rfl, OL.out, B5.out⟩
set_option maxRecDepth 100000 in
set_option maxHeartbeats 4000000 in
theorem found17_any {v u : Value} {l : List Opn} {p : List Run} {K : Nat} {w : World} (hv : OpL w v l) (hu : Runs w u p) (hs : findS l p = zid) (hn : findN l p = K) (he : findE l p = 0) :
    Calls Tryz.prog 35 #[v, u, .int .i64 (K : Int)] w fun e w' => e = .returned (.bool true) ∧ Below w.heap.size w w' := by
  have CF : Hid (Calls Tryz.prog 9 #[v, u] w fun e w' => e = .returned (.tuple #[.agg #[.int .u32 0, .int .u8 0], .int .i64 (K : Int), .int .i64 0]) ∧ Below w.heap.size w w') := by
    have := aFind_any hv hu
    rw [hs, hn, he] at this
    exact this
  have e6 : ((K : Int) == (K : Int)) = true := by simp
  clear hs hn he hv hu
  go_enter Tryz.func35, Tryz.ntmps35
  go_wp2_with fail
  refine CF.out.mono ?_
  rintro e w1 ⟨rfl, b1⟩
  have bo := (Below.refl w1.heap.size w1).alloc (Nat.le_refl _) (.cells #[.int .u32 0, .int .u8 0] 25)
  have B1 := Lib.hid (bt b1 bo)
  obtain ⟨lt, fa, fb⟩ := pair_new w1 (.int .u32 0) (.int .u8 0) 25
  clear CF b1 bo
  go_wp2
  go_ret
  exact ⟨rfl, B1.out⟩
theorem mk_1 : makeP [oa, ob] zid 1 = pb ∧ atE [oa, ob] zid 1 = 0 := by decide +kernel
theorem fd_2b : findS [oa, ob] pb = zid ∧ findN [oa, ob] pb = 1 ∧ findE [oa, ob] pb = 0 := by decide +kernel
theorem fd_3b : findS [oa, ob, og] pb = zid ∧ findN [oa, ob, og] pb = 0 ∧ findE [oa, ob, og] pb = 0 := by decide +kernel
theorem fd_3a : findS [oa, ob, og] pa = zid ∧ findN [oa, ob, og] pa = 0 ∧ findE [oa, ob, og] pa = 0 := by decide +kernel
set_option maxRecDepth 100000 in
set_option maxHeartbeats 8000000 in
theorem alive17_any (w : World) : Calls Tryz.prog 13 #[] w fun e w' => e = .returned (.bool true) ∧ Below w.heap.size w w' := by
  have MK : Hid (∀ (W : World) (v : Value), OpL W v [oa, ob] → Calls Tryz.prog 7 #[v, .agg #[.int .u32 0, .int .u8 0], .int .i64 1] W (OneP pb 0 W)) := fun W v h => by
    have := aMake_any zid 1 h
    rw [mk_1.1, mk_1.2] at this
    exact this
  have PS : Hid (∀ (W : World) (u v : Value), Runs W u pb → Runs W v pb → Calls Tryz.prog 34 #[u, v] W fun e w' => e = .returned (.bool true) ∧ Below W.heap.size W w') := fun W u v h h2 => by
    have := Go.Proofs.YtmiepnnpccpicaaGreat.Place.psame_any h h2
    rwa [decide_eq_true rfl] at this
  have F2 : Hid (∀ (W : World) (v u : Value), OpL W v [oa, ob] → Runs W u pb → Calls Tryz.prog 35 #[v, u, .int .i64 1] W fun e w' => e = .returned (.bool true) ∧ Below W.heap.size W w') := fun W v u h h2 => found17_any (K := 1) h h2 fd_2b.1 fd_2b.2.1 fd_2b.2.2
  have F3 : Hid (∀ (W : World) (v u : Value), OpL W v [oa, ob, og] → Runs W u pb → Calls Tryz.prog 35 #[v, u, .int .i64 0] W fun e w' => e = .returned (.bool true) ∧ Below W.heap.size W w') := fun W v u h h2 => found17_any (K := 0) h h2 fd_3b.1 fd_3b.2.1 fd_3b.2.2
  have F4 : Hid (∀ (W : World) (v u : Value), OpL W v [oa, ob, og] → Runs W u pa → Calls Tryz.prog 35 #[v, u, .int .i64 0] W fun e w' => e = .returned (.bool true) ∧ Below W.heap.size W w') := fun W v u h h2 => found17_any (K := 0) h h2 fd_3a.1 fd_3a.2.1 fd_3a.2.2
  have B_0 : Hid (Below w.heap.size w w) := Below.refl _ _
  go_enter Tryz.func13, Tryz.ntmps13
  go_wp2_with fail
  refine (two17_any _).mono ?_
  rintro e w1 ⟨g1, ha1, hb1, rfl, x1, ra1, rb1, ro1, b1⟩
  have B_1 := Lib.hid (bt B_0.out b1)
  clear B_0
  have V_2 := Lib.hid (two_opl ra1 rb1 ro1)
  clear b1 ra1 rb1 ro1 x1
  go_wp2_with fail
  refine (MK.out _ _ V_2.out).mono ?_
  rintro e w2 ⟨v2, rfl, o2, b2⟩
  have B_3 := Lib.hid (bt B_1.out b2)
  clear B_1
  have V_4 := Lib.hid (V_2.out.keeps b2)
  clear V_2
  have P_5 := Lib.hid (Runs.own o2)
  clear b2 o2
  clear V_4
  clear MK
  go_wp2_with fail
  refine (two17_any _).mono ?_
  rintro e w3 ⟨g3, ha3, hb3, rfl, x3, ra3, rb3, ro3, b3⟩
  have B_6 := Lib.hid (bt B_3.out b3)
  clear B_3
  have P_7 := Lib.hid (P_5.out.keeps b3)
  clear P_5
  have R_8 := Lib.hid (Runs.own rb3)
  clear b3 ra3 rb3 ro3
  have c8 := cell_of_row _ _ 8 _ _ _ x3
  clear x3
  go_wp2_with fail
  refine (PS.out _ _ _ P_7.out R_8.out).mono ?_
  rintro e w4 ⟨rfl, b4⟩
  have B_9 := Lib.hid (bt B_6.out b4)
  clear B_6
  have P_10 := Lib.hid (P_7.out.keeps b4)
  clear P_7
  have R_11 := Lib.hid (R_8.out.keeps b4)
  clear R_8
  clear b4
  clear R_11
  clear c8 PS
  go_wp2_with fail
  refine (two17_any _).mono ?_
  rintro e w5 ⟨g5, ha5, hb5, rfl, x5, ra5, rb5, ro5, b5⟩
  have B_12 := Lib.hid (bt B_9.out b5)
  clear B_9
  have P_13 := Lib.hid (P_10.out.keeps b5)
  clear P_10
  have V_14 := Lib.hid (two_opl ra5 rb5 ro5)
  clear b5 ra5 rb5 ro5 x5
  go_wp2_with fail
  refine (F2.out _ _ _ V_14.out P_13.out).mono ?_
  rintro e w6 ⟨rfl, b6⟩
  have B_15 := Lib.hid (bt B_12.out b6)
  clear B_12
  have P_16 := Lib.hid (P_13.out.keeps b6)
  clear P_13
  have V_17 := Lib.hid (V_14.out.keeps b6)
  clear V_14
  clear b6
  clear V_17
  clear F2
  go_wp2_with fail
  refine (gone17_any _).mono ?_
  rintro e w7 ⟨v7, rfl, o7, b7⟩
  have B_18 := Lib.hid (bt B_15.out b7)
  clear B_15
  have P_19 := Lib.hid (P_16.out.keeps b7)
  clear P_16
  have V_20 := Lib.hid (o7)
  clear b7 o7
  go_wp2_with fail
  refine (F3.out _ _ _ V_20.out P_19.out).mono ?_
  rintro e w8 ⟨rfl, b8⟩
  have B_21 := Lib.hid (bt B_18.out b8)
  clear B_18
  have P_22 := Lib.hid (P_19.out.keeps b8)
  clear P_19
  have V_23 := Lib.hid (V_20.out.keeps b8)
  clear V_20
  clear b8
  clear V_23 P_22
  clear F3
  go_wp2_with fail
  refine (gone17_any _).mono ?_
  rintro e w9 ⟨v9, rfl, o9, b9⟩
  have B_24 := Lib.hid (bt B_21.out b9)
  clear B_21
  have V_25 := Lib.hid (o9)
  clear b9 o9
  go_wp2_with fail
  refine (two17_any _).mono ?_
  rintro e w10 ⟨g10, ha10, hb10, rfl, x10, ra10, rb10, ro10, b10⟩
  have B_26 := Lib.hid (bt B_24.out b10)
  clear B_24
  have V_27 := Lib.hid (V_25.out.keeps b10)
  clear V_25
  have R_28 := Lib.hid (Runs.own ra10)
  clear b10 ra10 rb10 ro10
  have c3 := cell_of_row _ _ 3 _ _ _ x10
  clear x10
  go_wp2_with fail
  refine (F4.out _ _ _ V_27.out R_28.out).mono ?_
  rintro e w11 ⟨rfl, b11⟩
  have B_29 := Lib.hid (bt B_26.out b11)
  clear B_26
  have V_30 := Lib.hid (V_27.out.keeps b11)
  clear V_27
  have R_31 := Lib.hid (R_28.out.keeps b11)
  clear R_28
  clear b11
  clear V_30 R_31
  clear F4 c3
  go_wp2
  go_ret
  exact ⟨rfl, B_29.out⟩
end Go.Proofs.YtmiepnnpccpicaaGreat.Anchors

namespace Go.Proofs.YtmiepnnpccpicaaGreat.Bags
open Ops Stamp
def lessI (x : Opn) (a : Id) : Prop := x.t < a.t ∨ x.t = a.t ∧ x.r < a.r
instance (x : Opn) (a : Id) : Decidable (lessI x a) := inferInstanceAs (Decidable (_ ∨ _))
def moreI (x : Opn) (a : Id) : Prop := a.t < x.t ∨ a.t = x.t ∧ a.r < x.r
instance (x : Opn) (a : Id) : Decidable (moreI x a) := inferInstanceAs (Decidable (_ ∨ _))
theorem lessI_eq {x : Opn} {a : Id} : (¬ lessI x a ∧ ¬ moreI x a) ↔ idO x = a := by
  rw [Id.eq_iff]
  show _ ↔ x.t = a.t ∧ x.r = a.r
  unfold lessI moreI; omega
theorem lessI_trans {x y : Opn} {a : Id} (h : lessO x y) (k : lessI y a) : lessI x a := by unfold lessO at h; unfold lessI at *; omega
def Pos (l : List Opn) (a : Id) (k : Nat) : Prop := k ≤ l.length ∧ (∀ i (h : i < l.length), i < k → lessI (l[i]'h) a) ∧ ∀ i (h : i < l.length), k ≤ i → ¬ lessI (l[i]'h) a
theorem pw_get {l : List Opn} (hp : l.Pairwise lessO) {i j : Nat} (hj : j < l.length) (hij : i < j) : lessO (l[i]'(by omega)) (l[j]'hj) := List.pairwise_iff_getElem.1 hp i j (by omega) hj hij
theorem lessI_mono {l : List Opn} (hp : l.Pairwise lessO) {a : Id} {i j : Nat} (hj : j < l.length) (hij : i ≤ j) (h : lessI (l[j]'hj) a) : lessI (l[i]'(by omega)) a := by
  rcases Nat.lt_or_ge i j with h1 | h1
  · exact lessI_trans (pw_get hp hj h1) h
  · obtain rfl : i = j := by omega
    exact h
theorem pos_none {l : List Opn} {a : Id} {k : Nat} (hp : l.Pairwise lessO) (h : Pos l a k) (he : ∀ hk : k < l.length, idO (l[k]'hk) ≠ a) : hasO l a = false := by
  rw [hasO_no]
  intro o ho e
  obtain ⟨i, hi, rfl⟩ := List.getElem_of_mem ho
  have h3 := (lessI_eq.2 e).1
  have h1 : k ≤ i := Nat.not_lt.1 (fun hlt => h3 (h.2.1 i hi hlt))
  rcases Nat.lt_or_ge k i with h2 | h2
  · have h4 := pw_get hp hi h2
    refine h.2.2 k (by omega) (Nat.le_refl _) ?_
    have h5 : (l[i]'hi).t = a.t ∧ (l[i]'hi).r = a.r := by rw [Id.eq_iff] at e; exact e
    unfold lessO at h4; unfold lessI; omega
  · obtain rfl : i = k := by omega
    exact he hi e
theorem pos_with {l : List Opn} {o : Opn} {k : Nat} (h : Pos l (idO o) k) (hno : hasO l (idO o) = false) : withO l o = l.take k ++ o :: l.drop k := by
  unfold withO
  rw [if_neg (by rw [hno]; decide)]
  have ht : ∀ x ∈ l.take k, lessO x o := fun x hx => by
    obtain ⟨i, hi, rfl⟩ := List.getElem_of_mem hx
    rw [List.length_take] at hi
    rw [List.getElem_take]
    exact h.2.1 i (by omega) (by omega)
  have hd : ∀ x ∈ l.drop k, lessO o x := fun x hx => by
    have hm := List.mem_of_mem_drop hx
    obtain ⟨i, hi, rfl⟩ := List.getElem_of_mem hx
    rw [List.length_drop] at hi
    have h1 : ¬ lessO _ o := h.2.2 (k + i) (by omega) (by omega)
    have h2 := hasO_no.1 hno _ hm
    rw [List.getElem_drop] at h2 ⊢
    rcases lessO_three (l[k + i]'(by omega)) o with h3 | h3 | h3
    · exact absurd h3 h1
    · exact absurd h3 h2
    · exact h3
  have e1 : l.filter (fun x => decide (lessO x o)) = l.take k := by
    conv => lhs; rw [← List.take_append_drop k l, List.filter_append]
    rw [List.filter_eq_self.2 (fun x hx => decide_eq_true (ht x hx)), List.filter_eq_nil_iff.2 (fun x hx => by simpa using lessO_asymm (hd x hx)), List.append_nil]
  have e2 : l.filter (fun x => decide (lessO o x)) = l.drop k := by
    conv => lhs; rw [← List.take_append_drop k l, List.filter_append]
    rw [List.filter_eq_self.2 (fun x hx => decide_eq_true (hd x hx)), List.filter_eq_nil_iff.2 (fun x hx => by simpa using lessO_asymm (ht x hx)), List.nil_append]
  rw [e1, e2]
end Go.Proofs.YtmiepnnpccpicaaGreat.Bags

namespace Go.Proofs.YtmiepnnpccpicaaGreat.Bags
open Go.RowKit Go.WideShapes Stamp Go.Proofs.YtmiepnnpccpicaaGreat.Place Ops Codes
attribute [local go_sem ↓] Go.wp_at_zero Go.wp_at_succ
attribute [local go_sem] yielded_undef
def cmpI (x : Opn) (a : Id) : Int := if lessI x a then -1 else if moreI x a then 1 else 0
theorem cmpI_zero {x : Opn} {a : Id} : cmpI x a = 0 ↔ idO x = a := by
  rw [← lessI_eq]
  unfold cmpI
  by_cases h : lessI x a
  · simp [h]
  · by_cases h2 : moreI x a <;> simp [h, h2]
theorem cmpI_neg {x : Opn} {a : Id} : cmpI x a < 0 ↔ lessI x a := by
  unfold cmpI
  by_cases h : lessI x a
  · simp [h]
  · by_cases h2 : moreI x a <;> simp [h, h2]
set_option maxHeartbeats 4000000 in
theorem srch1_any (x : Opn) (a : Id) (uo : Option Addr) (un uc : Nat) (w : World) :
    Calls Tryz.prog 80 #[opv x (.slice uo un uc), .agg #[.int .u32 (a.t : Int), .int .u8 (a.r : Int)]] w fun e w' => e = .returned (.int .i64 (cmpI x a)) ∧ Below w.heap.size w w' := by
  have LX : Hid (∀ W : World, Calls Tryz.prog 49 #[.agg #[.int .u32 (x.t : Int), .int .u8 (x.r : Int)], .agg #[.int .u32 (a.t : Int), .int .u8 (a.r : Int)]] W fun e w' => e = .returned (.bool (decide (lessI x a))) ∧ Below W.heap.size W w') := fun W => by
    have := less_any x.t x.r a.t a.r x.ht x.hr a.ht a.hr W
    rwa [show less x.t x.r a.t a.r = decide (lessI x a) from rfl] at this
  have LY : Hid (∀ W : World, Calls Tryz.prog 49 #[.agg #[.int .u32 (a.t : Int), .int .u8 (a.r : Int)], .agg #[.int .u32 (x.t : Int), .int .u8 (x.r : Int)]] W fun e w' => e = .returned (.bool (decide (moreI x a))) ∧ Below W.heap.size W w') := fun W => by
    have := less_any a.t a.r x.t x.r a.ht a.hr x.ht x.hr W
    rwa [show less a.t a.r x.t x.r = decide (moreI x a) from rfl] at this
  obtain ⟨c, hc⟩ : ∃ c, cmpI x a = c := ⟨_, rfl⟩
  have HC : Hid (cmpI x a = c) := hc
  rw [hc]
  clear hc
  have HO : Hid (∀ v : Value, opv x v = .agg #[.int .u8 (x.k : Int), .int .u32 (x.t : Int), .int .u8 (x.r : Int), v, .int .i64 x.p]) := fun v => rfl
  simp only [HO.out]
  have C1 : Hid (lessI x a → c = -1) := fun h => by rw [← HC.out]; unfold cmpI; rw [if_pos h]
  have C2 : Hid (¬ lessI x a → moreI x a → c = 1) := fun h h2 => by rw [← HC.out]; unfold cmpI; rw [if_neg h, if_pos h2]
  have C3 : Hid (¬ lessI x a → ¬ moreI x a → c = 0) := fun h h2 => by rw [← HC.out]; unfold cmpI; rw [if_neg h, if_neg h2]
  by_cases h1 : lessI x a
  · obtain rfl := C1.out h1
    rw [decide_eq_true h1] at LX
    clear C2 C3 C1 HC LY
    obtain ⟨k, hk⟩ : ∃ z, x.k = z := ⟨_, rfl⟩
    obtain ⟨t, ht⟩ : ∃ z, x.t = z := ⟨_, rfl⟩
    obtain ⟨r, hr⟩ : ∃ z, x.r = z := ⟨_, rfl⟩
    obtain ⟨p, hp⟩ : ∃ z, x.p = z := ⟨_, rfl⟩
    obtain ⟨s, hs⟩ : ∃ z, a.t = z := ⟨_, rfl⟩
    obtain ⟨q, hq⟩ : ∃ z, a.r = z := ⟨_, rfl⟩
    rw [hk, ht, hr, hp, hs, hq]
    rw [ht, hr, hs, hq] at LX
    have B0 : Hid (Below w.heap.size w ((w.alloc (.cells #[.int .u8 (k : Int), .int .u32 (t : Int), .int .u8 (r : Int), .slice uo un uc, .int .i64 p] 47)).alloc (.cells #[.int .u32 (s : Int), .int .u8 (q : Int)] 25))) := ((Below.refl _ _).alloc (Nat.le_refl _) _).alloc (by simp) _
    clear hk ht hr hp hs hq HO
    go_enter Tryz.func80, Tryz.ntmps80
    go_wp2_with fail
    refine (LX.out _).mono ?_
    rintro e w1 ⟨rfl, b1⟩
    have B1 := Lib.hid (bt B0.out b1)
    clear b1
    go_wp2
    go_ret
    exact ⟨rfl, B1.out⟩
  rw [decide_eq_false h1] at LX
  by_cases h2 : moreI x a
  · obtain rfl := C2.out h1 h2
    rw [decide_eq_true h2] at LY
    clear C1 C2 C3 HC
    obtain ⟨k, hk⟩ : ∃ z, x.k = z := ⟨_, rfl⟩
    obtain ⟨t, ht⟩ : ∃ z, x.t = z := ⟨_, rfl⟩
    obtain ⟨r, hr⟩ : ∃ z, x.r = z := ⟨_, rfl⟩
    obtain ⟨p, hp⟩ : ∃ z, x.p = z := ⟨_, rfl⟩
    obtain ⟨s, hs⟩ : ∃ z, a.t = z := ⟨_, rfl⟩
    obtain ⟨q, hq⟩ : ∃ z, a.r = z := ⟨_, rfl⟩
    rw [hk, ht, hr, hp, hs, hq]
    rw [ht, hr, hs, hq] at LX LY
    have B0 : Hid (Below w.heap.size w ((w.alloc (.cells #[.int .u8 (k : Int), .int .u32 (t : Int), .int .u8 (r : Int), .slice uo un uc, .int .i64 p] 47)).alloc (.cells #[.int .u32 (s : Int), .int .u8 (q : Int)] 25))) := ((Below.refl _ _).alloc (Nat.le_refl _) _).alloc (by simp) _
    clear hk ht hr hp hs hq HO
    have CE : Hid (∀ w2 : World, Below ((w.alloc (.cells #[.int .u8 (k : Int), .int .u32 (t : Int), .int .u8 (r : Int), .slice uo un uc, .int .i64 p] 47)).alloc (.cells #[.int .u32 (s : Int), .int .u8 (q : Int)] 25)).heap.size ((w.alloc (.cells #[.int .u8 (k : Int), .int .u32 (t : Int), .int .u8 (r : Int), .slice uo un uc, .int .i64 p] 47)).alloc (.cells #[.int .u32 (s : Int), .int .u8 (q : Int)] 25)) w2 →
        w2.cell? ⟨w.heap.size, 1, none⟩ = some (.int .u32 (t : Int)) ∧ w2.cell? ⟨w.heap.size, 2, none⟩ = some (.int .u8 (r : Int)) ∧ w2.cell? ⟨w.heap.size + 1, 0, none⟩ = some (.int .u32 (s : Int)) ∧ w2.cell? ⟨w.heap.size + 1, 1, none⟩ = some (.int .u8 (q : Int))) := fun w2 h => by
      have g1 : w2.heap[w.heap.size]? = some (.cells #[.int .u8 (k : Int), .int .u32 (t : Int), .int .u8 (r : Int), .slice uo un uc, .int .i64 p] 47) := blk_below h (blk_old (blk_new rfl))
      have g2 : w2.heap[w.heap.size + 1]? = some (.cells #[.int .u32 (s : Int), .int .u8 (q : Int)] 25) := blk_below h (blk_new (by simp))
      exact ⟨(cells5 g1).2.1, (cells5 g1).2.2.1, (cells_blk g2).1, (cells_blk g2).2.1⟩
    go_enter Tryz.func80, Tryz.ntmps80
    go_wp2_with fail
    refine (LX.out _).mono ?_
    rintro e w1 ⟨rfl, b1⟩
    have B1 := Lib.hid (bt B0.out b1)
    obtain ⟨g1, g2, g3, g4⟩ := CE.out _ b1
    clear b1 CE
    go_wp2_with fail
    refine (LY.out _).mono ?_
    rintro e w2 ⟨rfl, b2⟩
    have B2 := Lib.hid (bt B1.out b2)
    clear b2
    go_wp2
    go_ret
    exact ⟨rfl, B2.out⟩
  · obtain rfl := C3.out h1 h2
    rw [decide_eq_false h2] at LY
    clear C1 C2 C3 HC
    obtain ⟨k, hk⟩ : ∃ z, x.k = z := ⟨_, rfl⟩
    obtain ⟨t, ht⟩ : ∃ z, x.t = z := ⟨_, rfl⟩
    obtain ⟨r, hr⟩ : ∃ z, x.r = z := ⟨_, rfl⟩
    obtain ⟨p, hp⟩ : ∃ z, x.p = z := ⟨_, rfl⟩
    obtain ⟨s, hs⟩ : ∃ z, a.t = z := ⟨_, rfl⟩
    obtain ⟨q, hq⟩ : ∃ z, a.r = z := ⟨_, rfl⟩
    rw [hk, ht, hr, hp, hs, hq]
    rw [ht, hr, hs, hq] at LX LY
    have B0 : Hid (Below w.heap.size w ((w.alloc (.cells #[.int .u8 (k : Int), .int .u32 (t : Int), .int .u8 (r : Int), .slice uo un uc, .int .i64 p] 47)).alloc (.cells #[.int .u32 (s : Int), .int .u8 (q : Int)] 25))) := ((Below.refl _ _).alloc (Nat.le_refl _) _).alloc (by simp) _
    clear hk ht hr hp hs hq HO
    have CE : Hid (∀ w2 : World, Below ((w.alloc (.cells #[.int .u8 (k : Int), .int .u32 (t : Int), .int .u8 (r : Int), .slice uo un uc, .int .i64 p] 47)).alloc (.cells #[.int .u32 (s : Int), .int .u8 (q : Int)] 25)).heap.size ((w.alloc (.cells #[.int .u8 (k : Int), .int .u32 (t : Int), .int .u8 (r : Int), .slice uo un uc, .int .i64 p] 47)).alloc (.cells #[.int .u32 (s : Int), .int .u8 (q : Int)] 25)) w2 →
        w2.cell? ⟨w.heap.size, 1, none⟩ = some (.int .u32 (t : Int)) ∧ w2.cell? ⟨w.heap.size, 2, none⟩ = some (.int .u8 (r : Int)) ∧ w2.cell? ⟨w.heap.size + 1, 0, none⟩ = some (.int .u32 (s : Int)) ∧ w2.cell? ⟨w.heap.size + 1, 1, none⟩ = some (.int .u8 (q : Int))) := fun w2 h => by
      have g1 : w2.heap[w.heap.size]? = some (.cells #[.int .u8 (k : Int), .int .u32 (t : Int), .int .u8 (r : Int), .slice uo un uc, .int .i64 p] 47) := blk_below h (blk_old (blk_new rfl))
      have g2 : w2.heap[w.heap.size + 1]? = some (.cells #[.int .u32 (s : Int), .int .u8 (q : Int)] 25) := blk_below h (blk_new (by simp))
      exact ⟨(cells5 g1).2.1, (cells5 g1).2.2.1, (cells_blk g2).1, (cells_blk g2).2.1⟩
    go_enter Tryz.func80, Tryz.ntmps80
    go_wp2_with fail
    refine (LX.out _).mono ?_
    rintro e w1 ⟨rfl, b1⟩
    have B1 := Lib.hid (bt B0.out b1)
    obtain ⟨g1, g2, g3, g4⟩ := CE.out _ b1
    clear b1 CE
    go_wp2_with fail
    refine (LY.out _).mono ?_
    rintro e w2 ⟨rfl, b2⟩
    have B2 := Lib.hid (bt B1.out b2)
    clear b2
    go_wp2
    go_ret
    exact ⟨rfl, B2.out⟩
set_option maxRecDepth 100000 in
set_option maxHeartbeats 16000000 in
theorem bBin_any {v : Value} {l : List Opn} (a : Id) {w : World} (hv : OpL w v l) (hl : l.length ≤ 1000000) (hpw : l.Pairwise lessO) :
    Calls Tryz.prog 79 #[v, .agg #[.int .u32 (a.t : Int), .int .u8 (a.r : Int)], .func (.func 80) #[] #[]] w fun e w' => ∃ k : Nat, e = .returned (.tuple #[.int .i64 (k : Int), .bool (hasO l a)]) ∧ Pos l a k ∧ Below w.heap.size w w' := by
  obtain ⟨ao, cap, rfl⟩ := hv.shape
  obtain ⟨n, hn⟩ : ∃ n, n = l.length := ⟨_, rfl⟩
  have HV : Hid (∀ W : World, Below w.heap.size w W → OpL W (.slice ao l.length cap) l) := fun W h => hv.keeps h
  have HN := Lib.hid hn
  have HPW := Lib.hid hpw
  have S1 : Hid (∀ (x : Opn) (uo : Option Addr) (un uc : Nat) (W : World), Calls Tryz.prog 80 #[opv x (.slice uo un uc), .agg #[.int .u32 (a.t : Int), .int .u8 (a.r : Int)]] W fun e w' => e = .returned (.int .i64 (cmpI x a)) ∧ Below W.heap.size W w') := fun x uo un uc W => srch1_any x a uo un uc W
  have HLT : Hid (∀ (lo hi j : Nat) (h : j < l.length), (∀ t (h : t < l.length), t < lo → lessI (l[t]'h) a) → cmpI (l[j]'h) a < 0 → ∀ t (h : t < l.length), t < j + 1 → lessI (l[t]'h) a) := fun lo hi j h _ hc t h2 h3 => lessI_mono hpw h (by omega) (cmpI_neg.1 hc)
  have HGE : Hid (∀ (j : Nat) (h : j < l.length), ¬ cmpI (l[j]'h) a < 0 → ∀ t (h : t < l.length), j ≤ t → ¬ lessI (l[t]'h) a) := fun j h hc t h2 h3 hk => hc (cmpI_neg.2 (lessI_mono hpw h2 h3 hk))
  have HFI : Hid (∀ (k : Nat), k ≤ l.length → (∀ t (h : t < l.length), t < k → lessI (l[t]'h) a) → (∀ t (h : t < l.length), k ≤ t → ¬ lessI (l[t]'h) a) → Pos l a k) := fun k h1 h2 h3 => ⟨h1, h2, h3⟩
  obtain ⟨q, hq⟩ : ∃ q, hasO l a = q := ⟨_, rfl⟩
  have HQ1 : Hid (∀ k (h : k < l.length), Pos l a k → cmpI (l[k]'h) a = 0 → q = true) := fun k h _ hc => by
    rw [← hq, hasO_iff]; exact ⟨_, List.getElem_mem h, cmpI_zero.1 hc⟩
  have HQ2 : Hid (∀ k, Pos l a k → (∀ h : k < l.length, ¬ cmpI (l[k]'h) a = 0) → q = false) := fun k hp h => by
    rw [← hq]; exact pos_none hpw hp (fun hk e => h hk (cmpI_zero.2 e))
  obtain ⟨P, hP⟩ : ∃ P : Nat → Prop, P = Pos l a := ⟨_, rfl⟩
  have HP : Hid (∀ k, Pos l a k → P k) := fun k h => by rw [hP]; exact h
  rw [hq, ← hn]
  have hPk : ∀ k, Pos l a k = P k := fun k => by rw [hP]
  simp only [hPk]
  rw [← hn] at hl
  clear hv hn hpw hq hP hPk
  obtain ⟨s, hs⟩ : ∃ z, a.t = z := ⟨_, rfl⟩
  obtain ⟨b, hb⟩ : ∃ z, a.r = z := ⟨_, rfl⟩
  rw [hs, hb] at S1 ⊢
  clear hs hb
  have eg := enters_of Tryz.func80 (by kernel_rfl) rfl
  have CE : Hid (∀ w2 : World, Below (w.alloc (.cells #[.int .u32 (s : Int), .int .u8 (b : Int)] 25)).heap.size (w.alloc (.cells #[.int .u32 (s : Int), .int .u8 (b : Int)] 25)) w2 → w2.cell? ⟨w.heap.size, 0, none⟩ = some (.int .u32 (s : Int)) ∧ w2.cell? ⟨w.heap.size, 1, none⟩ = some (.int .u8 (b : Int))) := fun w2 h => by
    have g2 := cells_blk (blk_below h (blk_new rfl))
    exact ⟨g2.1, g2.2.1⟩
  have BZ : Hid (Below w.heap.size w (w.alloc (.cells #[.int .u32 (s : Int), .int .u8 (b : Int)] 25))) := (Below.refl _ _).alloc (Nat.le_refl _) _
  have B0 : Hid (Below (w.alloc (.cells #[.int .u32 (s : Int), .int .u8 (b : Int)] 25)).heap.size (w.alloc (.cells #[.int .u32 (s : Int), .int .u8 (b : Int)] 25)) (w.alloc (.cells #[.int .u32 (s : Int), .int .u8 (b : Int)] 25))) := Below.refl _ _
  go_enter Tryz.func79, Tryz.ntmps79
  go_wp2
  go_loopw [9, 10] (fun x y wr => ∃ lo hi : Nat, x = .int .i64 (lo : Int) ∧ y = .int .i64 (hi : Int) ∧ lo ≤ hi ∧ hi ≤ n ∧ Hid (∀ t (h : t < l.length), t < lo → lessI (l[t]'h) a) ∧ Hid (∀ t (h : t < l.length), hi ≤ t → ¬ lessI (l[t]'h) a) ∧ Hid (Below (w.alloc (.cells #[.int .u32 (s : Int), .int .u8 (b : Int)] 25)).heap.size (w.alloc (.cells #[.int .u32 (s : Int), .int .u8 (b : Int)] 25)) wr)) (fun x y _ => (intOf y - intOf x).toNat)
  case atStart => exact ⟨0, n, rfl, rfl, by omega, by omega, fun t h ht => by omega, fun t h ht => by have := HN.out; omega, B0⟩
  case round =>
    clear B0
    obtain ⟨lo, hi, rfl, rfl, hlh, hhn, hlow, hhigh, hbel⟩ := hrel
    by_cases hlt : lo < hi
    · obtain ⟨m, hm⟩ : ∃ m, m = (lo + hi) / 2 := ⟨_, rfl⟩
      have em : ((lo : Int) + (hi : Int)) / 2 = (m : Int) := by omega
      have m1 : lo ≤ m := by omega
      have m2 : m < hi := by omega
      have q4 : (0 : Int) ≤ (m : Int) := by omega
      have q5 : (m : Int) < (n : Int) := by omega
      have hml : m < l.length := by rw [← HN.out]; omega
      clear hm
      obtain ⟨bb, oo, u, e, hbb, hru, h0, h1, h2, h3, h4⟩ := opl_at (HV.out wr (bt BZ.out hbel.out)) m hml
      subst e
      obtain ⟨x, hx⟩ : ∃ x, x = l[m]'hml := ⟨_, rfl⟩
      rw [← hx] at hru h0 h1 h2 h4
      have HO : Hid (∀ v : Value, opv x v = .agg #[.int .u8 (x.k : Int), .int .u32 (x.t : Int), .int .u8 (x.r : Int), v, .int .i64 x.p]) := fun v => rfl
      obtain ⟨uo, uc, rfl⟩ := hru.shape
      obtain ⟨nu, hnu⟩ : ∃ n, n = x.pl.length := ⟨_, rfl⟩
      have HNU := Lib.hid hnu
      rw [← hnu] at hru h3
      clear hnu
      have SX : Hid (∀ W : World, Calls Tryz.prog 80 #[opv x (.slice uo nu uc), .agg #[.int .u32 (s : Int), .int .u8 (b : Int)]] W fun e w' => e = .returned (.int .i64 (cmpI x a)) ∧ Below W.heap.size W w') := fun W => S1.out x uo nu uc W
      obtain ⟨c, hc⟩ : ∃ c, cmpI x a = c := ⟨_, rfl⟩
      rw [hc] at SX
      have HLO : Hid (c < 0 → ∀ t (h : t < l.length), t < m + 1 → lessI (l[t]'h) a) := fun h => HLT.out lo hi m hml hlow.out (by rw [← hx, hc]; exact h)
      have HHI : Hid (¬ c < 0 → ∀ t (h : t < l.length), m ≤ t → ¬ lessI (l[t]'h) a) := fun h => HGE.out m hml (by rw [← hx, hc]; omega)
      clear hru hx hc
      obtain ⟨k, hk⟩ : ∃ z, x.k = z := ⟨_, rfl⟩
      obtain ⟨t, ht⟩ : ∃ z, x.t = z := ⟨_, rfl⟩
      obtain ⟨r, hr⟩ : ∃ z, x.r = z := ⟨_, rfl⟩
      obtain ⟨p, hp⟩ : ∃ z, x.p = z := ⟨_, rfl⟩
      rw [hk, ht, hr, hp] at HO
      rw [hk] at h0
      rw [ht] at h1
      rw [hr] at h2
      rw [hp] at h4
      simp only [HO.out] at SX
      have F1 : Hid (FiveAt wr bb (oo + m * 5) (.int .u8 (k : Int)) (.int .u32 (t : Int)) (.int .u8 (r : Int)) (.slice uo nu uc) (.int .i64 p)) := ⟨hbb, h0, h1, h2, h3, h4⟩
      have SK : Hid (∀ w' : World, Below wr.heap.size wr w' → Below wr.heap.size wr w' ∧ w'.cell? ⟨bb, oo + m * 5, none⟩ = some (.int .u8 (k : Int)) ∧ w'.cell? ⟨bb, oo + m * 5 + 1, none⟩ = some (.int .u32 (t : Int)) ∧ w'.cell? ⟨bb, oo + m * 5 + 2, none⟩ = some (.int .u8 (r : Int)) ∧ w'.cell? ⟨bb, oo + m * 5 + 3, none⟩ = some (.slice uo nu uc) ∧ w'.cell? ⟨bb, oo + m * 5 + 4, none⟩ = some (.int .i64 p) ∧ w'.cell? ⟨w.heap.size, 0, none⟩ = some (.int .u32 (s : Int)) ∧ w'.cell? ⟨w.heap.size, 1, none⟩ = some (.int .u8 (b : Int))) := fun W h => by
        have a1 := (F1.out.keeps h).2
        have a2 := CE.out W (bt hbel.out h)
        exact ⟨h, a1.1, a1.2.1, a1.2.2.1, a1.2.2.2.1, a1.2.2.2.2, a2.1, a2.2⟩
      clear hk ht hr hp h0 h1 h2 h3 h4 HO S1 HLT HGE HFI HQ1 HQ2 HP HPW F1
      by_cases hc0 : c < 0
      · have d1 : decide (c < 0) = true := decide_eq_true hc0
        have HN2 := Lib.hid (HLO.out hc0)
        clear HLO HHI
        go_wp2
        refine wp_region_held_drew (S := fun w' => Below wr.heap.size wr w' ∧ w'.cell? ⟨bb, oo + m * 5, none⟩ = some (.int .u8 (k : Int)) ∧ w'.cell? ⟨bb, oo + m * 5 + 1, none⟩ = some (.int .u32 (t : Int)) ∧ w'.cell? ⟨bb, oo + m * 5 + 2, none⟩ = some (.int .u8 (r : Int)) ∧ w'.cell? ⟨bb, oo + m * 5 + 3, none⟩ = some (.slice uo nu uc) ∧ w'.cell? ⟨bb, oo + m * 5 + 4, none⟩ = some (.int .i64 p) ∧ w'.cell? ⟨w.heap.size, 0, none⟩ = some (.int .u32 (s : Int)) ∧ w'.cell? ⟨w.heap.size, 1, none⟩ = some (.int .u8 (b : Int))) (by kernel_rfl) (SK.out _ (drew1 _)) (fun hHeld => ?_)
        refine rN 0 ?_
        refine rN 1 ?_
        refine rN 2 ?_
        refine rN 3 ?_
        refine rN 4 ?_
        refine rN 5 ?_
        refine wpAnyH_ready (rs := [6]) (by kernel_rfl) (by simp) ?_
        refine AllReadyH.cons rfl (fun K hK => ?_) ?za6
        case za6 => exact AllReadyH.nil
        go_simp
        refine (SX.out _).mono ?_
        rintro e w9a6 ⟨rfl, b9⟩
        refine hK.out _ _ (SK.out _ (bt hHeld.1 b9)) (fun hNew => ?_)
        clear hHeld
        have hHeld := hNew
        clear hNew hK K
        refine rX ?_
        refine rN 7 ?_
        refine wpAnyH_done (by kernel_rfl) ?_ _
        go_wp2
        go_roundw
        case rel => exact ⟨m + 1, hi, by go_num, rfl, by omega, hhn, HN2, hhigh, Lib.hid (bt hbel.out hHeld.1)⟩
        case measure => simp [intOf]; omega
      · have d1 : decide (c < 0) = false := decide_eq_false hc0
        have HN2 := Lib.hid (HHI.out hc0)
        clear HLO HHI
        go_wp2
        refine wp_region_held_drew (S := fun w' => Below wr.heap.size wr w' ∧ w'.cell? ⟨bb, oo + m * 5, none⟩ = some (.int .u8 (k : Int)) ∧ w'.cell? ⟨bb, oo + m * 5 + 1, none⟩ = some (.int .u32 (t : Int)) ∧ w'.cell? ⟨bb, oo + m * 5 + 2, none⟩ = some (.int .u8 (r : Int)) ∧ w'.cell? ⟨bb, oo + m * 5 + 3, none⟩ = some (.slice uo nu uc) ∧ w'.cell? ⟨bb, oo + m * 5 + 4, none⟩ = some (.int .i64 p) ∧ w'.cell? ⟨w.heap.size, 0, none⟩ = some (.int .u32 (s : Int)) ∧ w'.cell? ⟨w.heap.size, 1, none⟩ = some (.int .u8 (b : Int))) (by kernel_rfl) (SK.out _ (drew1 _)) (fun hHeld => ?_)
        refine rN 0 ?_
        refine rN 1 ?_
        refine rN 2 ?_
        refine rN 3 ?_
        refine rN 4 ?_
        refine rN 5 ?_
        refine wpAnyH_ready (rs := [6]) (by kernel_rfl) (by simp) ?_
        refine AllReadyH.cons rfl (fun K hK => ?_) ?zb6
        case zb6 => exact AllReadyH.nil
        go_simp
        refine (SX.out _).mono ?_
        rintro e w9b6 ⟨rfl, b9⟩
        refine hK.out _ _ (SK.out _ (bt hHeld.1 b9)) (fun hNew => ?_)
        clear hHeld
        have hHeld := hNew
        clear hNew hK K
        refine rX ?_
        refine rN 7 ?_
        refine wpAnyH_done (by kernel_rfl) ?_ _
        go_wp2
        go_roundw
        case rel => exact ⟨lo, m, rfl, rfl, by omega, by omega, hlow, HN2, Lib.hid (bt hbel.out hHeld.1)⟩
        case measure => simp [intOf]; omega
    · obtain rfl : hi = lo := by omega
      have HPK := Lib.hid (HFI.out hi (by rw [← HN.out]; omega) hlow.out hhigh.out)
      by_cases hkn : hi < n
      rotate_left
      · have q8 : decide (hi < n) = false := by simpa using hkn
        obtain rfl : q = false := HQ2.out hi HPK.out (fun h => by have := HN.out; omega)
        go_wp2
        have SK0 : Hid (∀ w' : World, Below wr.heap.size wr w' → Below wr.heap.size wr w') := fun _ h => h
        refine wp_region_held_drew (S := fun w' => Below wr.heap.size wr w') (by kernel_rfl) (SK0.out _ (drew1 _)) (fun hHeld => ?_)
        refine rN 0 ?_
        refine rN 1 ?_
        refine rN 2 ?_
        refine rN 3 ?_
        refine rN 4 ?_
        refine rV 5 ?_
        refine rV 6 ?_
        refine rV 7 ?_
        refine rV 8 ?_
        refine rV 9 ?_
        refine rV 10 ?_
        refine rV 11 ?_
        refine rV 12 ?_
        refine rN 13 ?_
        refine rN 14 ?_
        refine rN 15 ?_
        refine wpAnyH_done (by kernel_rfl) ?_ _
        go_wp2
        go_ret2
        exact ⟨hi, rfl, HP.out _ HPK.out, bt BZ.out (bt hbel.out hHeld)⟩
      have q8 : decide (hi < n) = true := by simpa using hkn
      have q4 : (0 : Int) ≤ (hi : Int) := by omega
      have q5 : (hi : Int) < (n : Int) := by omega
      have hml : hi < l.length := by rw [← HN.out]; exact hkn
      obtain ⟨bb, oo, u, e, hbb, hru, h0, h1, h2, h3, h4⟩ := opl_at (HV.out wr (bt BZ.out hbel.out)) hi hml
      subst e
      obtain ⟨x, hx⟩ : ∃ x, x = l[hi]'hml := ⟨_, rfl⟩
      rw [← hx] at hru h0 h1 h2 h4
      have HO : Hid (∀ v : Value, opv x v = .agg #[.int .u8 (x.k : Int), .int .u32 (x.t : Int), .int .u8 (x.r : Int), v, .int .i64 x.p]) := fun v => rfl
      obtain ⟨uo, uc, rfl⟩ := hru.shape
      obtain ⟨nu, hnu⟩ : ∃ n, n = x.pl.length := ⟨_, rfl⟩
      have HNU := Lib.hid hnu
      rw [← hnu] at hru h3
      clear hnu
      have SX : Hid (∀ W : World, Calls Tryz.prog 80 #[opv x (.slice uo nu uc), .agg #[.int .u32 (s : Int), .int .u8 (b : Int)]] W fun e w' => e = .returned (.int .i64 (cmpI x a)) ∧ Below W.heap.size W w') := fun W => S1.out x uo nu uc W
      obtain ⟨c, hc⟩ : ∃ c, cmpI x a = c := ⟨_, rfl⟩
      rw [hc] at SX
      have HQ : Hid ((c == 0) = q) := by
        by_cases h : c = 0
        · obtain rfl : q = true := HQ1.out hi hml HPK.out (by rw [← hx, hc]; exact h)
          exact beq_iff_eq.2 h
        · obtain rfl : q = false := HQ2.out hi HPK.out (fun _ e => h (by rw [← hc, hx]; exact e))
          exact beq_eq_false_iff_ne.2 h
      clear hru hx hc HQ1 HQ2
      obtain ⟨k, hk⟩ : ∃ z, x.k = z := ⟨_, rfl⟩
      obtain ⟨t, ht⟩ : ∃ z, x.t = z := ⟨_, rfl⟩
      obtain ⟨r, hr⟩ : ∃ z, x.r = z := ⟨_, rfl⟩
      obtain ⟨p, hp⟩ : ∃ z, x.p = z := ⟨_, rfl⟩
      rw [hk, ht, hr, hp] at HO
      rw [hk] at h0
      rw [ht] at h1
      rw [hr] at h2
      rw [hp] at h4
      simp only [HO.out] at SX
      have F1 : Hid (FiveAt wr bb (oo + hi * 5) (.int .u8 (k : Int)) (.int .u32 (t : Int)) (.int .u8 (r : Int)) (.slice uo nu uc) (.int .i64 p)) := ⟨hbb, h0, h1, h2, h3, h4⟩
      have SK : Hid (∀ w' : World, Below wr.heap.size wr w' → Below wr.heap.size wr w' ∧ w'.cell? ⟨bb, oo + hi * 5, none⟩ = some (.int .u8 (k : Int)) ∧ w'.cell? ⟨bb, oo + hi * 5 + 1, none⟩ = some (.int .u32 (t : Int)) ∧ w'.cell? ⟨bb, oo + hi * 5 + 2, none⟩ = some (.int .u8 (r : Int)) ∧ w'.cell? ⟨bb, oo + hi * 5 + 3, none⟩ = some (.slice uo nu uc) ∧ w'.cell? ⟨bb, oo + hi * 5 + 4, none⟩ = some (.int .i64 p) ∧ w'.cell? ⟨w.heap.size, 0, none⟩ = some (.int .u32 (s : Int)) ∧ w'.cell? ⟨w.heap.size, 1, none⟩ = some (.int .u8 (b : Int))) := fun W h => by
        have a1 := (F1.out.keeps h).2
        have a2 := CE.out W (bt hbel.out h)
        exact ⟨h, a1.1, a1.2.1, a1.2.2.1, a1.2.2.2.1, a1.2.2.2.2, a2.1, a2.2⟩
      clear hk ht hr hp h0 h1 h2 h3 h4 HO S1 HLT HGE HFI HPW F1
      have d1 := HQ.out
      go_wp2
      refine wp_region_held_drew (S := fun w' => Below wr.heap.size wr w' ∧ w'.cell? ⟨bb, oo + hi * 5, none⟩ = some (.int .u8 (k : Int)) ∧ w'.cell? ⟨bb, oo + hi * 5 + 1, none⟩ = some (.int .u32 (t : Int)) ∧ w'.cell? ⟨bb, oo + hi * 5 + 2, none⟩ = some (.int .u8 (r : Int)) ∧ w'.cell? ⟨bb, oo + hi * 5 + 3, none⟩ = some (.slice uo nu uc) ∧ w'.cell? ⟨bb, oo + hi * 5 + 4, none⟩ = some (.int .i64 p) ∧ w'.cell? ⟨w.heap.size, 0, none⟩ = some (.int .u32 (s : Int)) ∧ w'.cell? ⟨w.heap.size, 1, none⟩ = some (.int .u8 (b : Int))) (by kernel_rfl) (SK.out _ (drew1 _)) (fun hHeld => ?_)
      refine rN 0 ?_
      refine rN 1 ?_
      refine rN 2 ?_
      refine rN 3 ?_
      refine rN 4 ?_
      refine rN 5 ?_
      refine rN 6 ?_
      refine rN 7 ?_
      refine rN 8 ?_
      refine rN 9 ?_
      refine rN 10 ?_
      refine wpAnyH_ready (rs := [11]) (by kernel_rfl) (by simp) ?_
      refine AllReadyH.cons rfl (fun K hK => ?_) ?zd11
      case zd11 => exact AllReadyH.nil
      go_simp
      refine (SX.out _).mono ?_
      rintro e w9d11 ⟨rfl, b9⟩
      refine hK.out _ _ (SK.out _ (bt hHeld.1 b9)) (fun hNew => ?_)
      clear hHeld
      have hHeld := hNew
      clear hNew hK K
      refine rX ?_
      refine rN 12 ?_
      refine rN 13 ?_
      refine rN 14 ?_
      refine rN 15 ?_
      refine wpAnyH_done (by kernel_rfl) ?_ _
      go_wp2
      go_ret2
      exact ⟨hi, rfl, HP.out _ HPK.out, bt BZ.out (bt hbel.out hHeld.1)⟩
theorem bSearch_any {v : Value} {l : List Opn} (a : Id) {w : World} (hv : OpL w v l) (hl : l.length ≤ 1000000) (hpw : l.Pairwise lessO) :
    Calls Tryz.prog 39 #[v, .agg #[.int .u32 (a.t : Int), .int .u8 (a.r : Int)]] w fun e w' => ∃ k : Nat, e = .returned (.tuple #[.int .i64 (k : Int), .bool (hasO l a)]) ∧ Pos l a k ∧ Below w.heap.size w w' := by
  have C : Hid (∀ W : World, Below w.heap.size w W → _) := fun W h => bBin_any a (hv.keeps h) hl hpw
  obtain ⟨q, hq⟩ : ∃ q, hasO l a = q := ⟨_, rfl⟩
  rw [hq] at C ⊢
  obtain ⟨P, hP⟩ : ∃ P : Nat → Prop, P = Pos l a := ⟨_, rfl⟩
  have hPk : ∀ k, Pos l a k = P k := fun k => by rw [hP]
  simp only [hPk] at C ⊢
  obtain ⟨ao, cap, rfl⟩ := hv.shape
  obtain ⟨n, hn⟩ : ∃ n, n = l.length := ⟨_, rfl⟩
  rw [← hn] at C ⊢
  clear hv hl hpw hq hP hPk hn
  obtain ⟨s, hs⟩ : ∃ z, a.t = z := ⟨_, rfl⟩
  obtain ⟨b, hb⟩ : ∃ z, a.r = z := ⟨_, rfl⟩
  rw [hs, hb] at C ⊢
  clear hs hb
  have B0 : Hid (Below w.heap.size w (w.alloc (.cells #[.int .u32 (s : Int), .int .u8 (b : Int)] 25))) := (Below.refl _ _).alloc (Nat.le_refl _) _
  go_enter Tryz.func39, Tryz.ntmps39
  go_wp2_with fail
  refine (C.out _ B0.out).mono ?_
  rintro e w1 ⟨k, rfl, hk, b1⟩
  have B1 := Lib.hid (bt B0.out b1)
  have HK := Lib.hid hk
  clear b1 hk
  go_wp2
  go_ret2
  exact ⟨k, rfl, HK.out, B1.out⟩
end Go.Proofs.YtmiepnnpccpicaaGreat.Bags
