/- Live marks are sorted by their places, strictly; what one operation more makes of them. Conditions: none. Homes of places in plain words. Conditions: none. Homes: sections are parts of the order of places, one behind the other. Conditions: none. What counts of what is held, in plain words: places cut, content that is homed, what counts. Conditions: none. Homes: sections and spans, one by one. Conditions: none. What counts is closed; with content, or a mark, more all that counted counts; all content is homed in one section. Conditions: none. Code points and their bytes: plain lists. Conditions: none. What is seen of a section, in plain words. Conditions: none. Places that are kept, in plain words: what the calls of anchor answer, and where an anchor is found. Conditions: none. octavoref13.Home, Sections, Where, Begin: what each answers. Conditions: live marks that may be, in order; a plac -/
import Derived.Test.YtmiepnnpccpicaaGreatChecked
import Derived.WalkKit
import Derived.WalkSpells
import Derived.WalkLawsBesides
import Derived.Laws.BytesArg
import Derived.Lib.Hide
import Derived.Deep.LoopGhost
import Derived.Laws.AppendOwnNone
import Derived.Laws.OwnMore
import Derived.WideShapes
import Derived.Maps.AppendAt
import Derived.RegionTactic
import Derived.Deep.RegionHeld3
import Derived.Deep.DrawnRows
import Derived.Deep.QuietTactic
import Derived.BigQuiet
import Derived.IntWalk
import Derived.Deep.DeepCutAuto
import Derived.ScopeJumps
import Derived.Test.YtmiepnnpccpicaaGreatProg
import Derived.LoopTactic
import Derived.Laws.EntriesVeiled
import Derived.RowKit
import Derived.Lib.DecodeN
import Derived.Lib.RuneBytes
import Derived.Test.YtmiepnnpccpicaaGreatPk04
import Derived.Test.YtmiepnnpccpicaaGreatPk03
import Derived.Test.YtmiepnnpccpicaaGreatPk02
import Derived.Test.YtmiepnnpccpicaaGreatPk01

namespace Go.Proofs.YtmiepnnpccpicaaGreat.Marks
open Ops Stamp Bags Go.Proofs.YtmiepnnpccpicaaGreat.Place
def pre (a b : Opn) : Prop := cmp a.pl b.pl < 0
theorem cmp_may {a b : Opn} (ha : mayO a = true) (hb : mayO b = true) : cmp a.pl b.pl = Go.Proofs.YtmiepnnpccpicaaGreat.Place.hold (all a.pl) (all b.pl) := by
  unfold cmp; rw [if_pos ⟨anyB_may (mayO_parts ha).2.1, anyB_may (mayO_parts hb).2.1⟩]
theorem hold_val : ∀ l m : List Id, Go.Proofs.YtmiepnnpccpicaaGreat.Place.hold l m = -1 ∨ Go.Proofs.YtmiepnnpccpicaaGreat.Place.hold l m = 0 ∨ Go.Proofs.YtmiepnnpccpicaaGreat.Place.hold l m = 1 := hold_range
theorem pre_iff {a b : Opn} (ha : mayO a = true) (hb : mayO b = true) : pre a b ↔ Go.Proofs.YtmiepnnpccpicaaGreat.Place.hold (all a.pl) (all b.pl) = -1 := by
  unfold pre
  rw [cmp_may ha hb]
  have := hold_val (all a.pl) (all b.pl)
  omega
theorem pre_trans {a b c : Opn} (ha : mayO a = true) (hb : mayO b = true) (hc : mayO c = true) (h : pre a b) (k : pre b c) : pre a c := by
  rw [pre_iff ha hb] at h
  rw [pre_iff hb hc] at k
  rw [pre_iff ha hc]
  exact hold_trans _ _ _ h k
theorem pre_irrefl {a : Opn} (ha : mayO a = true) : ¬ pre a a := by
  rw [pre_iff ha ha, (hold_eq _ _).2 rfl]; decide
theorem pre_asymm {a b : Opn} (ha : mayO a = true) (hb : mayO b = true) (h : pre a b) : ¬ pre b a := fun k => pre_irrefl ha (pre_trans ha hb ha h k)
/-- Marks of unlike stamps have unlike places. -/
theorem mark_ne {a b : Opn} (ha : mayO a = true) (hb : mayO b = true) (ka : a.k = 2) (kb : b.k = 2) (h : idO a ≠ idO b) : pre a b ∨ pre b a := by
  rw [pre_iff ha hb, pre_iff hb ha, hold_neg (all a.pl) (all b.pl)]
  have h0 : Go.Proofs.YtmiepnnpccpicaaGreat.Place.hold (all a.pl) (all b.pl) ≠ 0 := fun e => by
    have ma := (mayB_iff _).1 (mayO_parts ha).2.1
    have mb := (mayB_iff _).1 (mayO_parts hb).2.1
    have e2 := (hold_same ma.2.2.1 mb.2.2.1).1 e
    apply h
    rw [← mark_tgt ha ka, ← mark_tgt hb kb]
    unfold tgt
    simp only [e2]
  have := hold_val (all a.pl) (all b.pl)
  omega
theorem insM_nil (x : Opn) : insM [] x = [x] := rfl
theorem insM_cons (y : Opn) (out : List Opn) (x : Opn) : insM (y :: out) x = if ahead y x = true then y :: insM out x else x :: y :: out := by
  unfold insM atM
  by_cases h : ahead y x = true
  · rw [if_pos h, List.takeWhile_cons_of_pos (by simpa using h)]; simp
  · rw [if_neg h, List.takeWhile_cons_of_neg (by simpa using h)]; simp
theorem ahead_iff {a b : Opn} : ahead a b = true ↔ pre a b := by unfold ahead pre; exact decide_eq_true_iff
theorem ins_sorted {x : Opn} (hx : mayO x = true) (kx : x.k = 2) : ∀ {out : List Opn}, out.Pairwise pre → (∀ y ∈ out, mayO y = true ∧ y.k = 2) → (∀ y ∈ out, idO y ≠ idO x) → (insM out x).Pairwise pre
  | [], _, _, _ => by rw [insM_nil]; exact List.pairwise_singleton _ _
  | y :: out, hs, hm, hne => by
    have hs' := List.pairwise_cons.1 hs
    have hy := hm y (by simp)
    rw [insM_cons]
    by_cases h : ahead y x = true
    · rw [if_pos h]
      refine List.Pairwise.cons (fun z hz => ?_) (ins_sorted hx kx hs'.2 (fun z hz => hm z (by simp [hz])) (fun z hz => hne z (by simp [hz])))
      rcases mem_insM.1 hz with hz | rfl
      · exact hs'.1 z hz
      · exact ahead_iff.1 h
    · rw [if_neg h]
      have hxy : pre x y := by
        rcases mark_ne hy.1 hx hy.2 kx (hne y (by simp)) with h1 | h1
        · exact absurd (ahead_iff.2 h1) h
        · exact h1
      refine List.Pairwise.cons (fun z hz => ?_) hs
      rcases List.mem_cons.1 hz with rfl | hz
      · exact hxy
      · exact pre_trans hx hy.1 (hm z (by simp [hz])).1 hxy (hs'.1 z hz)
theorem lives_sorted {L : List Opn} : ∀ {l : List Opn}, (∀ o ∈ l, mayO o = true) → l.Pairwise lessO → (livesM L l).Pairwise pre := by
  intro l
  induction l using Clocks.list_snoc_ind with
  | h0 => intro _ _; exact .nil
  | h1 l x ih =>
    intro hm hp
    have hp' := List.pairwise_append.1 hp
    have ih' := ih (fun o ho => hm o (by simp [ho])) hp'.1
    rw [livesM_snoc]
    unfold stepM
    split
    · rename_i h
      refine ins_sorted (hm x (by simp)) h.1 ih' (fun y hy => ?_) (fun y hy => ?_)
      · have := mem_livesM.1 hy; exact ⟨hm y (by simp [this.1]), this.2.1⟩
      · have := mem_livesM.1 hy; exact lessO_ne (hp'.2.2 y this.1 x (by simp))
    · exact ih'
theorem sorted_ext : ∀ {l m : List Opn}, (∀ x ∈ l, mayO x = true) → (∀ x ∈ m, mayO x = true) → l.Pairwise pre → m.Pairwise pre → (∀ x, x ∈ l ↔ x ∈ m) → l = m
  | [], [], _, _, _, _, _ => rfl
  | [], y :: m, _, _, _, _, h => by have := (h y).2 (by simp); simp at this
  | x :: l, [], _, _, _, _, h => by have := (h x).1 (by simp); simp at this
  | x :: l, y :: m, al, am, hl, hm, h => by
    have hl' := List.pairwise_cons.1 hl
    have hm' := List.pairwise_cons.1 hm
    have e : x = y := by
      rcases List.mem_cons.1 ((h x).1 (by simp)) with e | hx
      · exact e
      · rcases List.mem_cons.1 ((h y).2 (by simp)) with e | hy
        · exact e.symm
        · exact absurd (hm'.1 x hx) (pre_asymm (al x (by simp)) (am y (by simp)) (hl'.1 y hy))
    subst e
    rw [sorted_ext (fun z hz => al z (by simp [hz])) (fun z hz => am z (by simp [hz])) hl'.2 hm'.2 (fun z => by
      constructor
      · intro hz
        rcases List.mem_cons.1 ((h z).1 (by simp [hz])) with rfl | hz'
        · exact absurd (hl'.1 z hz) (pre_irrefl (al z (by simp)))
        · exact hz'
      · intro hz
        rcases List.mem_cons.1 ((h z).2 (by simp [hz])) with rfl | hz'
        · exact absurd (hm'.1 z hz) (pre_irrefl (al z (by simp)))
        · exact hz')]
theorem lives_may {L l : List Opn} (hm : ∀ o ∈ l, mayO o = true) : ∀ x ∈ livesM L l, mayO x = true := fun x hx => hm x (mem_livesM.1 hx).1
/-- The live marks are known by which they are. -/
theorem lives_ext {l m : List Opn} (hl : Bag l) (ha : ∀ x ∈ m, mayO x = true) (hs : m.Pairwise pre) (h : ∀ y, y ∈ m ↔ y ∈ l ∧ y.k = 2 ∧ ended l (idO y) = false) : livesM l l = m :=
  sorted_ext (lives_may hl.2.1) ha (lives_sorted hl.2.1 hl.2.2) hs (fun y => mem_livesM.trans (h y).symm)
end Go.Proofs.YtmiepnnpccpicaaGreat.Marks

namespace Go.Proofs.YtmiepnnpccpicaaGreat.Homes
open Ops Stamp Bags Marks Go.Proofs.YtmiepnnpccpicaaGreat.Place
/-- One mark's place is not behind a place. -/
def notBehind (o : Opn) (p : List Run) : Bool := decide (Go.Proofs.YtmiepnnpccpicaaGreat.Place.hold (all o.pl) (all p) ≤ 0)
/-- The home of a place, by live marks in order. -/
def homeM (live : List Opn) (p : List Run) : Id := live.foldl (fun s o => if notBehind o p = true then idO o else s) zid
/-- All sections. -/
def sectsM (live : List Opn) : List Id := zid :: live.map idO
theorem sectsM_len (live : List Opn) : (sectsM live).length = live.length + 1 := by simp [sectsM]
/-- The place of a section among all, or how many there are. -/
def whereN (live : List Opn) (s : Id) : Nat := (sectsM live).findIdx (fun x => decide (x = s))
def whereM (live : List Opn) (s : Id) : Int := if whereN live s < live.length + 1 then (whereN live s : Int) else -1
/-- Where a section begins that is at a place among all. -/
def beginM (live : List Opn) (at' : Int) : List Run := if 1 ≤ at' ∧ at' ≤ live.length then (live.getD (at' - 1).toNat ⟨0, 0, 0, [], 0, by decide, by decide, by decide, by decide⟩).pl else []
def homeL (l : List Opn) (p : List Run) : Id := if (bagB l && anyB p) = true then homeM (livesM l l) p else zid
def homeE (l : List Opn) (p : List Run) : Int := if (bagB l && anyB p) = true then 0 else 8
def fromL (l : List Opn) (s : Id) : List Run := if bagB l = true ∧ 0 ≤ whereM (livesM l l) s then beginM (livesM l l) (whereM (livesM l l) s) else []
def toL (l : List Opn) (s : Id) : List Run := if bagB l = true ∧ 0 ≤ whereM (livesM l l) s then beginM (livesM l l) (whereM (livesM l l) s + 1) else []
def spanE (l : List Opn) (s : Id) : Int := if bagB l = true then (if 0 ≤ whereM (livesM l l) s then 0 else 130) else 8
end Go.Proofs.YtmiepnnpccpicaaGreat.Homes

namespace Go.Proofs.YtmiepnnpccpicaaGreat.Homes
open Ops Stamp Bags Marks Go.Proofs.YtmiepnnpccpicaaGreat.Place
/-- Live marks: in order, of stamps of their own. -/
structure Liv (live : List Opn) : Prop where
  may : ∀ o ∈ live, mayO o = true ∧ o.k = 2
  srt : live.Pairwise pre
  one : live.Pairwise (fun a b => idO a ≠ idO b)
theorem Liv.tail {a : Opn} {live : List Opn} (h : Liv (a :: live)) : Liv live :=
  ⟨fun o ho => h.may o (by simp [ho]), (List.pairwise_cons.1 h.srt).2, (List.pairwise_cons.1 h.one).2⟩
theorem liv_bag {l : List Opn} (h : Bag l) : Liv (livesM l l) := by
  have hs := lives_sorted (L := l) h.2.1 h.2.2
  refine ⟨fun o ho => ⟨h.2.1 o (mem_livesM.1 ho).1, (mem_livesM.1 ho).2.1⟩, hs, ?_⟩
  refine List.Pairwise.imp_of_mem ?_ hs
  intro a b ha hb hp e
  have h1 := findO_mem h.2.2 (mem_livesM.1 ha).1
  have h2 := findO_mem h.2.2 (mem_livesM.1 hb).1
  rw [e, h2] at h1
  injection h1 with h1
  subst h1
  exact pre_irrefl (h.2.1 _ (mem_livesM.1 ha).1) hp
theorem nb_iff0 {o : Opn} {p : List Run} : notBehind o p = true ↔ Go.Proofs.YtmiepnnpccpicaaGreat.Place.hold (all o.pl) (all p) ≤ 0 := by unfold notBehind; exact decide_eq_true_iff
theorem nb_mono {a b : Opn} {p : List Run} (ha : mayO a = true) (hb : mayO b = true) (h : pre a b) (hp : notBehind b p = true) : notBehind a p = true := by
  rw [nb_iff0] at hp ⊢
  rw [pre_iff ha hb] at h
  rcases hold_range (all b.pl) (all p) with h1 | h1 | h1
  · have := hold_trans _ _ _ h h1; omega
  · rw [← (hold_eq _ _).1 h1, h]; decide
  · omega
/-- How many marks are not behind a place. -/
def cntM (live : List Opn) (p : List Run) : Nat := (live.takeWhile (fun o => notBehind o p)).length
theorem cntM_le (live : List Opn) (p : List Run) : cntM live p ≤ live.length := (List.takeWhile_sublist _).length_le
theorem cntM_yes {a : Opn} {live : List Opn} {p : List Run} (h : notBehind a p = true) : cntM (a :: live) p = cntM live p + 1 := by
  unfold cntM; rw [List.takeWhile_cons_of_pos (by simpa using h)]; rfl
theorem cntM_no {a : Opn} {live : List Opn} {p : List Run} (h : notBehind a p = false) : cntM (a :: live) p = 0 := by
  unfold cntM; rw [List.takeWhile_cons_of_neg (by simpa using h)]; rfl
theorem nb_iff {p : List Run} : ∀ {live : List Opn}, Liv live → ∀ (i : Nat) (hi : i < live.length), notBehind (live[i]'hi) p = true ↔ i < cntM live p
  | [], _, i, hi => by simp at hi
  | a :: live, h, i, hi => by
    by_cases ha : notBehind a p = true
    · rw [cntM_yes ha]
      cases i with
      | zero => simp [ha]
      | succ i =>
        have := nb_iff (p := p) h.tail i (by simpa using hi)
        simp only [List.getElem_cons_succ]
        rw [this]
        omega
    · rw [cntM_no (by simpa using ha)]
      constructor
      · intro hb
        exfalso
        apply ha
        cases i with
        | zero => exact hb
        | succ i =>
          have hm := List.getElem_mem (l := live) (n := i) (by simpa using hi)
          exact nb_mono (h.may a (by simp)).1 (h.may _ (by simp [hm])).1 ((List.pairwise_cons.1 h.srt).1 _ hm) hb
      · intro h0; omega
theorem cnt_is {p : List Run} {live : List Opn} (h : Liv live) {k : Nat} (hk : k ≤ live.length) (h1 : ∀ (i : Nat) (hi : i < live.length), notBehind (live[i]'hi) p = true ↔ i < k) : cntM live p = k := by
  have hc := cntM_le live p
  rcases Nat.lt_trichotomy (cntM live p) k with hlt | he | hgt
  · have := (nb_iff (p := p) h (cntM live p) (by omega)).1 ((h1 _ (by omega)).2 hlt)
    omega
  · exact he
  · have := (h1 k (by omega)).1 ((nb_iff (p := p) h k (by omega)).2 hgt)
    omega
theorem fold_home {p : List Run} : ∀ {live : List Opn} (s : Id), Liv live → live.foldl (fun s o => if notBehind o p = true then idO o else s) s = (s :: live.map idO).getD (cntM live p) zid
  | [], s, _ => rfl
  | a :: live, s, h => by
    rw [List.foldl_cons]
    by_cases ha : notBehind a p = true
    · rw [if_pos ha, fold_home _ h.tail, cntM_yes ha]
      rfl
    · rw [if_neg ha, fold_home _ h.tail, cntM_no (by simpa using ha)]
      have : cntM live p = 0 := by
        refine cnt_is h.tail (Nat.zero_le _) (fun i hi => ?_)
        have := nb_iff (p := p) h (i + 1) (by simpa using hi)
        rw [cntM_no (by simpa using ha)] at this
        simp only [List.getElem_cons_succ] at this
        rw [this]
        omega
      rw [this]
      rfl
theorem homeM_is {p : List Run} {live : List Opn} (h : Liv live) : homeM live p = (sectsM live).getD (cntM live p) zid := fold_home zid h
theorem id_ne_zid {o : Opn} (h : mayO o = true) : idO o ≠ zid := fun e => by
  have := (mayO_parts h).1
  have ht : o.t = 0 := congrArg Id.t e
  rw [ht] at this
  simp [may] at this
theorem sects_one {live : List Opn} (h : Liv live) : (sectsM live).Pairwise (fun a b => a ≠ b) := by
  unfold sectsM
  refine List.Pairwise.cons (fun a ha => ?_) ?_
  · obtain ⟨o, ho, rfl⟩ := List.mem_map.1 ha
    exact fun e => id_ne_zid (h.may o ho).1 e.symm
  · rw [List.pairwise_map]; exact h.one
theorem where_at {live : List Opn} (h : Liv live) {i : Nat} (hi : i < live.length + 1) : whereN live ((sectsM live).getD i zid) = i := by
  have hi' : i < (sectsM live).length := by rw [sectsM_len]; exact hi
  rw [show (sectsM live).getD i zid = (sectsM live)[i] by rw [List.getD_eq_getElem?_getD, List.getElem?_eq_getElem hi']; rfl]
  unfold whereN
  rw [List.findIdx_eq hi']
  refine ⟨by simp, fun j hj => ?_⟩
  have := List.pairwise_iff_getElem.1 (sects_one h) j i (by omega) hi' hj
  simpa using this
theorem where_of {live : List Opn} {s : Id} (h : whereN live s < live.length + 1) : (sectsM live).getD (whereN live s) zid = s := by
  have hi' : whereN live s < (sectsM live).length := by rw [sectsM_len]; exact h
  rw [show (sectsM live).getD (whereN live s) zid = (sectsM live)[whereN live s] by rw [List.getD_eq_getElem?_getD, List.getElem?_eq_getElem hi']; rfl]
  have := List.findIdx_getElem (p := fun x => decide (x = s)) (xs := sectsM live) (w := hi')
  exact of_decide_eq_true this
theorem sects_inj {live : List Opn} (h : Liv live) {i j : Nat} (hi : i < live.length + 1) (hj : j < live.length + 1) (e : (sectsM live).getD i zid = (sectsM live).getD j zid) : i = j := by
  rw [← where_at h hi, e, where_at h hj]
theorem whereM_at {live : List Opn} (h : Liv live) {i : Nat} (hi : i < live.length + 1) : whereM live ((sectsM live).getD i zid) = i := by
  unfold whereM
  rw [where_at h hi, if_pos hi]
theorem begin_zero (live : List Opn) : beginM live 0 = [] := rfl
theorem begin_succ {live : List Opn} {i : Nat} (hi : i < live.length) : beginM live ((i : Int) + 1) = (live[i]'hi).pl := by
  unfold beginM
  rw [if_pos (by omega), show ((i : Int) + 1 - 1).toNat = i by omega, List.getD_eq_getElem?_getD, List.getElem?_eq_getElem hi]
  rfl
theorem begin_end (live : List Opn) : beginM live ((live.length : Int) + 1) = [] := by
  unfold beginM
  rw [if_neg (by omega)]
/-- A place stands in the span of one section alone, its home. -/
theorem span_home {live : List Opn} (h : Liv live) {p : List Run} (hp : anyB p = true) {i : Nat} (hi : i < live.length + 1) :
    (decide (cmp (beginM live i) p ≤ 0) && (decide ((beginM live ((i : Int) + 1)).length = 0) || decide (cmp p (beginM live ((i : Int) + 1)) < 0))) = decide (i = cntM live p) := by
  have hc := cntM_le live p
  have e1 : cmp (beginM live i) p ≤ 0 ↔ i ≤ cntM live p := by
    cases i with
    | zero =>
      have : cmp (beginM live ((0 : Nat) : Int)) p = Go.Proofs.YtmiepnnpccpicaaGreat.Place.hold [] (all p) := by
        show cmp (beginM live 0) p = _
        rw [begin_zero]; unfold cmp; rw [if_pos ⟨rfl, hp⟩]; rfl
      rw [this]
      have h2 : Go.Proofs.YtmiepnnpccpicaaGreat.Place.hold [] (all p) ≤ 0 := by cases all p <;> simp [Go.Proofs.YtmiepnnpccpicaaGreat.Place.hold]
      simp [h2]
    | succ i =>
      have hi' : i < live.length := by omega
      have hm := (h.may _ (List.getElem_mem hi')).1
      rw [show ((i + 1 : Nat) : Int) = (i : Int) + 1 by omega, begin_succ hi']
      unfold cmp
      rw [if_pos ⟨anyB_may (mayO_parts hm).2.1, hp⟩, ← nb_iff0, nb_iff h i hi']
      omega
  have e2 : ((beginM live ((i : Int) + 1)).length = 0 ∨ cmp p (beginM live ((i : Int) + 1)) < 0) ↔ cntM live p ≤ i := by
    by_cases hi' : i < live.length
    · have hm := (h.may _ (List.getElem_mem hi')).1
      have hb := (mayO_parts hm).2.1
      rw [begin_succ hi']
      have h1 : ¬ ((live[i]'hi').pl.length = 0) := by have := ((mayB_iff _).1 hb).1; omega
      unfold cmp
      rw [if_pos ⟨hp, anyB_may hb⟩]
      have h3 := nb_iff (p := p) h i hi'
      rw [nb_iff0] at h3
      have h4 := hold_neg (all (live[i]'hi').pl) (all p)
      constructor
      · rintro (h5 | h5)
        · exact absurd h5 h1
        · exact Nat.le_of_not_lt (fun h6 => by have := h3.2 h6; omega)
      · intro h5
        right
        have h6 : ¬ Go.Proofs.YtmiepnnpccpicaaGreat.Place.hold (all (live[i]'hi').pl) (all p) ≤ 0 := fun h7 => by have := h3.1 h7; omega
        omega
    · obtain rfl : i = live.length := by omega
      rw [begin_end]
      simp [hc]
  rw [Bool.eq_iff_iff, Bool.and_eq_true, Bool.or_eq_true, decide_eq_true_iff, decide_eq_true_iff, decide_eq_true_iff, decide_eq_true_iff, e1, e2]
  omega
end Go.Proofs.YtmiepnnpccpicaaGreat.Homes

namespace Go.Proofs.YtmiepnnpccpicaaGreat.Covers
open Ops Stamp Bags Marks Homes Go.Proofs.YtmiepnnpccpicaaGreat.Place
/-- The first so many stamps of a place, as a place. -/
def cutN : List Run → Nat → List Run
  | [], _ => []
  | x :: p, k => if k = 0 then [] else if x.m ≤ (k : Int) then x :: cutN p (k - x.m.toNat) else [mkRun x.t x.r (k : Int)]
theorem cutN_zero (p : List Run) : cutN p 0 = [] := by cases p <;> rfl
theorem up_take (t r : Nat) : ∀ (n k : Nat), k ≤ n → (up t r n).take k = up t r k := fun n k h => by
  obtain ⟨m, rfl⟩ : ∃ m, n = k + m := ⟨n - k, by omega⟩
  rw [up_add, List.take_append_of_le_length (by rw [up_len]; exact Nat.le_refl _), List.take_of_length_le (by rw [up_len]; exact Nat.le_refl _)]
theorem all_cutN : ∀ {p : List Run} {k : Nat}, Chain p → all (cutN p k) = (all p).take k
  | [], k, _ => by simp [cutN, all]
  | x :: p, k, h => by
    by_cases h0 : k = 0
    · subst h0; simp [cutN_zero, all]
    obtain ⟨n, hn, n1, n2, n3, n4⟩ := h.head.nat
    unfold cutN
    rw [if_neg h0]
    by_cases h1 : x.m ≤ (k : Int)
    · rw [if_pos h1]
      show up x.t x.r x.m.toNat ++ all (cutN p (k - x.m.toNat)) = (up x.t x.r x.m.toNat ++ all p).take k
      rw [all_cutN h.tail, n3, List.take_append, up_len, List.take_of_length_le (l := up x.t x.r n) (by rw [up_len]; omega)]
    · rw [if_neg h1]
      have hx := x.ht
      have hr := x.hr
      show up (mkRun x.t x.r k).t (mkRun x.t x.r k).r (mkRun x.t x.r k).m.toNat ++ [] = (up x.t x.r x.m.toNat ++ all p).take k
      rw [mkRun_t hx, mkRun_r hr, mkRun_m (by omega), List.append_nil, Int.toNat_natCast, n3, List.take_append_of_le_length (by rw [up_len]; omega), up_take _ _ _ _ (by omega)]
theorem cutN_head : ∀ {p : List Run} {k : Nat} {z : Run}, (cutN p k).head? = some z → ∃ y q, p = y :: q ∧ z.t = y.t ∧ z.r = y.r
  | [], k, z, h => by simp [cutN] at h
  | x :: p, k, z, h => by
    refine ⟨x, p, rfl, ?_⟩
    unfold cutN at h
    split at h
    · simp at h
    · split at h
      · simp only [List.head?_cons, Option.some.injEq] at h
        subst h
        exact ⟨rfl, rfl⟩
      · simp only [List.head?_cons, Option.some.injEq] at h
        subst h
        exact ⟨mkRun_t x.ht, mkRun_r x.hr⟩
theorem chain_cons {x : Run} {p : List Run} (h1 : Go.Proofs.YtmiepnnpccpicaaGreat.Place.One x) (h2 : Chain p) (h3 : ∀ y, p.head? = some y → Go.Proofs.YtmiepnnpccpicaaGreat.Place.Next x y) : Chain (x :: p) := by
  cases p with
  | nil => exact h1
  | cons y p => exact ⟨h1, h3 y rfl, h2⟩
theorem chain_cutN : ∀ {p : List Run} {k : Nat}, Chain p → Chain (cutN p k)
  | [], k, _ => trivial
  | x :: p, k, h => by
    unfold cutN
    split
    · trivial
    · split
      · refine chain_cons h.head (chain_cutN h.tail) (fun z hz => ?_)
        obtain ⟨y, q, rfl, e1, e2⟩ := cutN_head hz
        have := h.2.1
        unfold Go.Proofs.YtmiepnnpccpicaaGreat.Place.Next at this ⊢
        rw [e1, e2]
        exact this
      · rename_i h0 h1
        obtain ⟨o1, o2, o3, o4, o5, o6⟩ := h.head
        show Go.Proofs.YtmiepnnpccpicaaGreat.Place.One _
        unfold Go.Proofs.YtmiepnnpccpicaaGreat.Place.One
        rw [mkRun_t x.ht, mkRun_r x.hr, mkRun_m (by omega)]
        omega
theorem cutN_len : ∀ (p : List Run) (k : Nat), (cutN p k).length ≤ p.length
  | [], _ => by simp [cutN]
  | x :: p, k => by
    unfold cutN
    split
    · simp
    · split
      · have := cutN_len p (k - x.m.toNat)
        simpa using this
      · simp
theorem may_cutN {p : List Run} {k : Nat} (h : mayB p = true) (hk : 1 ≤ k) : mayB (cutN p k) = true := by
  have hM := (mayB_iff p).1 h
  have hc := chain_cutN (k := k) hM.2.2.1
  have hl := cutN_len p k
  refine (mayB_iff _).2 ⟨?_, Nat.le_trans hl hM.2.1, hc, ?_⟩
  · cases p with
    | nil => have := hM.1; simp at this
    | cons x p =>
      unfold cutN
      rw [if_neg (by omega)]
      split <;> simp
  · have h1 := long_len hc
    have h2 := long_len hM.2.2.1
    have h3 := hM.2.2.2
    rw [all_cutN hM.2.2.1, List.length_take] at h1
    omega
theorem any_cutN {p : List Run} {k : Nat} (h : mayB p = true) : anyB (cutN p k) = true := by
  by_cases hk : k = 0
  · subst hk; rw [cutN_zero]; rfl
  · exact anyB_may (may_cutN h (by omega))
theorem cutN_cutN {p : List Run} {j k : Nat} (h : Chain p) (hj : j ≤ k) : cutN (cutN p k) j = cutN p j := by
  refine all_inj (chain_cutN (chain_cutN h)) (chain_cutN h) ?_
  rw [all_cutN (chain_cutN h), all_cutN h, all_cutN h, List.take_take, Nat.min_eq_left hj]
theorem cutN_all {p : List Run} (h : Chain p) : cutN p (all p).length = p := by
  refine all_inj (chain_cutN h) h ?_
  rw [all_cutN h, List.take_length]
/-- The last stamp of the first ones. -/
theorem last_cutN {p : List Run} {k : Nat} (h : mayB p = true) (hk : k < (all p).length) : lastV (cutN p (k + 1)) = ((((all p).getD k zid).t : Int), (((all p).getD k zid).r : Int)) := by
  have hM := (mayB_iff p).1 h
  refine lastV_of (P := (all p).take k) (may_cutN h (by omega)) ?_
  rw [all_cutN hM.2.2.1, List.take_succ_eq_append_getElem hk, getD_id hk]
where
  getD_id {l : List Id} {j : Nat} (h : j < l.length) : l.getD j zid = l[j]'h := by rw [List.getD_eq_getElem?_getD, List.getElem?_eq_getElem h]; rfl
/-- On how many stamps of its place one stands. -/
def manyN (o : Opn) : Nat := (all o.pl).length - offs o
/-- The content that is homed in a section, by live marks. -/
def inL (l live : List Opn) (s : Id) : List Opn := l.filter (fun o => contB o && decide (homeM live o.pl = s))
/-- Does content that is homed in a section count? -/
def isB (l live : List Opn) (s : Id) (o : Opn) : Bool := (List.range (manyN o)).all (fun k => !decide (homeM live (cutN o.pl (k + 1)) = s) || hasO l ((all o.pl).getD k zid))
theorem isB_iff {l live : List Opn} {s : Id} {o : Opn} : isB l live s o = true ↔ ∀ k, k < manyN o → homeM live (cutN o.pl (k + 1)) = s → hasO l ((all o.pl).getD k zid) = true := by
  unfold isB
  rw [List.all_eq_true]
  constructor
  · intro h k hk e
    have := h k (List.mem_range.2 hk)
    simpa [e] using this
  · intro h k hk
    by_cases e : homeM live (cutN o.pl (k + 1)) = s
    · rw [h k (List.mem_range.1 hk) e, Bool.or_true]
    · simp [e]
def countL (l live : List Opn) (s : Id) : List Opn := (inL l live s).filter (isB l live s)
def countsL (l : List Opn) (s : Id) : List Opn := if spanE l s = 0 then countL l (livesM l l) s else []
theorem spanE_zero {l : List Opn} {s : Id} : spanE l s = 0 ↔ Bag l ∧ 0 ≤ whereM (livesM l l) s := by
  unfold spanE
  by_cases h : bagB l = true
  · rw [if_pos h]
    by_cases h2 : 0 ≤ whereM (livesM l l) s
    · simp [h2, (bagB_iff l).1 h]
    · simp [h2]
  · have : ¬ Bag l := fun hb => h ((bagB_iff l).2 hb)
    simp [h, this]
theorem spanE_cases (l : List Opn) (s : Id) : spanE l s = 0 ∨ spanE l s = 8 ∨ spanE l s = 130 := by
  unfold spanE
  split
  · split
    · exact .inl rfl
    · exact .inr (.inr rfl)
  · exact .inr (.inl rfl)
theorem mem_inL {l live : List Opn} {s : Id} {o : Opn} : o ∈ inL l live s ↔ o ∈ l ∧ contB o = true ∧ homeM live o.pl = s := by
  unfold inL; rw [List.mem_filter]; simp
theorem mem_countL {l live : List Opn} {s : Id} {o : Opn} : o ∈ countL l live s ↔ (o ∈ l ∧ contB o = true ∧ homeM live o.pl = s) ∧ isB l live s o = true := by
  unfold countL; rw [List.mem_filter, mem_inL]
theorem inL_sub (l live : List Opn) (s : Id) : (inL l live s).Sublist l := List.filter_sublist
theorem countL_sub (l live : List Opn) (s : Id) : (countL l live s).Sublist l := List.filter_sublist.trans (inL_sub l live s)
end Go.Proofs.YtmiepnnpccpicaaGreat.Covers

namespace Go.Proofs.YtmiepnnpccpicaaGreat.Homes
open Ops Stamp Bags Marks Go.Proofs.YtmiepnnpccpicaaGreat.Place
theorem span_at {l : List Opn} (hb : Bag l) {i : Nat} (hi : i < (livesM l l).length + 1) :
    fromL l ((sectsM (livesM l l)).getD i zid) = beginM (livesM l l) i ∧ toL l ((sectsM (livesM l l)).getD i zid) = beginM (livesM l l) ((i : Int) + 1) ∧ spanE l ((sectsM (livesM l l)).getD i zid) = 0 := by
  have hw := whereM_at (liv_bag hb) hi
  unfold fromL toL spanE
  rw [hw, (bagB_iff l).2 hb]
  rw [if_pos ⟨rfl, by omega⟩, if_pos ⟨rfl, by omega⟩, if_pos rfl, if_pos (by omega)]
  exact ⟨rfl, rfl, rfl⟩
theorem home_at {live : List Opn} (h : Liv live) {p : List Run} {i : Nat} (hi : i < live.length + 1) : (sectsM live).getD i zid = homeM live p ↔ i = cntM live p := by
  rw [homeM_is h]
  constructor
  · intro e
    exact sects_inj h hi (by have := cntM_le live p; omega) e
  · rintro rfl; rfl
end Go.Proofs.YtmiepnnpccpicaaGreat.Homes

namespace Go.Proofs.YtmiepnnpccpicaaGreat.Covers
open Ops Stamp Bags Marks Homes Go.Proofs.YtmiepnnpccpicaaGreat.Place
theorem manyN_le (o : Opn) : manyN o ≤ (all o.pl).length := Nat.sub_le _ _
/-- A place's home is a section. -/
theorem home_where {l : List Opn} (hl : Bag l) (p : List Run) : spanE l (homeM (livesM l l) p) = 0 := by
  have hL := liv_bag hl
  refine spanE_zero.2 ⟨hl, ?_⟩
  rw [homeM_is hL, whereM_at hL (by have := cntM_le (livesM l l) p; omega)]
  omega
end Go.Proofs.YtmiepnnpccpicaaGreat.Covers

namespace Go.Proofs.YtmiepnnpccpicaaGreat.Point
open Go.RowKit
/-- A code point. -/
def IsPt (n : Int) : Prop := 0 ≤ n ∧ n ≤ 1114111 ∧ (n < 55296 ∨ 57343 < n)
instance (n : Int) : Decidable (IsPt n) := by unfold IsPt; infer_instance
/-- All are code points. -/
def Pts (l : List Int) : Prop := ∀ x ∈ l, IsPt x
instance (l : List Int) : Decidable (Pts l) := by unfold Pts; infer_instance
end Go.Proofs.YtmiepnnpccpicaaGreat.Point

namespace Go.Proofs.YtmiepnnpccpicaaGreat.Views
open Ops Stamp Bags Marks Homes Covers Go.Proofs.YtmiepnnpccpicaaGreat.Place
/-- Does a delete among some take a stamp away? -/
def goneM (c : List Opn) (a : Id) : Bool := c.any (fun o => decide (o.k = 3) && decide (tgt o = a))
def seenStep (C out : List Opn) (x : Opn) : List Opn := if x.k = 1 ∧ goneM C (idO x) = false then insM out x else out
/-- Of some operations the inserts that none of C takes away, in the order of their places. -/
def seenF (C l : List Opn) : List Opn := l.foldl (seenStep C) []
theorem seenF_snoc (C l : List Opn) (x : Opn) : seenF C (l ++ [x]) = seenStep C (seenF C l) x := by unfold seenF; rw [List.foldl_append]; rfl
theorem seenF_le (C : List Opn) : ∀ l : List Opn, (seenF C l).length ≤ l.length := by
  intro l
  induction l using Clocks.list_snoc_ind with
  | h0 => simp [seenF]
  | h1 l x ih =>
    rw [seenF_snoc, List.length_append]
    unfold seenStep
    split
    · rw [insM_len]; simp; omega
    · simp; omega
theorem mem_seenF {C l : List Opn} {y : Opn} : y ∈ seenF C l ↔ y ∈ l ∧ y.k = 1 ∧ goneM C (idO y) = false := by
  induction l using Clocks.list_snoc_ind with
  | h0 => simp [seenF]
  | h1 l x ih =>
    rw [seenF_snoc, List.mem_append, List.mem_singleton]
    unfold seenStep
    split
    · rename_i h
      rw [mem_insM, ih]
      constructor
      · rintro (⟨h1, h2⟩ | rfl)
        · exact ⟨.inl h1, h2⟩
        · exact ⟨.inr rfl, h⟩
      · rintro ⟨h1 | rfl, h2⟩
        · exact .inl ⟨h1, h2⟩
        · exact .inr rfl
    · rename_i h
      rw [ih]
      constructor
      · rintro ⟨h1, h2⟩; exact ⟨.inl h1, h2⟩
      · rintro ⟨h1 | rfl, h2⟩
        · exact ⟨h1, h2⟩
        · exact absurd h2 h
/-- An insert's place ends with its own stamp. -/
theorem ins_tgt {o : Opn} (h : mayO o = true) (hk : o.k = 1) : tgt o = idO o := by
  have h3 := (mayO_parts h).2.2
  have hc := tgt_cells h
  unfold kindB kindF at h3
  rw [hk] at h3
  simp only [if_true, Bool.and_eq_true, decide_eq_true_eq, Prod.mk.injEq] at h3
  refine Id.ext' ?_ ?_
  · show (tgt o).t = o.t; omega
  · show (tgt o).r = o.r; omega
theorem ins_ne {a b : Opn} (ha : mayO a = true) (hb : mayO b = true) (ka : a.k = 1) (kb : b.k = 1) (h : idO a ≠ idO b) : pre a b ∨ pre b a := by
  rw [pre_iff ha hb, pre_iff hb ha, hold_neg (all a.pl) (all b.pl)]
  have h0 : Go.Proofs.YtmiepnnpccpicaaGreat.Place.hold (all a.pl) (all b.pl) ≠ 0 := fun e => by
    have ma := (mayB_iff _).1 (mayO_parts ha).2.1
    have mb := (mayB_iff _).1 (mayO_parts hb).2.1
    have e2 := (hold_same ma.2.2.1 mb.2.2.1).1 e
    apply h
    rw [← ins_tgt ha ka, ← ins_tgt hb kb]
    unfold tgt
    simp only [e2]
  have := hold_val (all a.pl) (all b.pl)
  omega
theorem put_sorted {x : Opn} (hx : mayO x = true) (kx : x.k = 1) : ∀ {out : List Opn}, out.Pairwise pre → (∀ y ∈ out, mayO y = true ∧ y.k = 1) → (∀ y ∈ out, idO y ≠ idO x) → (insM out x).Pairwise pre
  | [], _, _, _ => by rw [insM_nil]; exact List.pairwise_singleton _ _
  | y :: out, hs, hm, hne => by
    have hs' := List.pairwise_cons.1 hs
    have hy := hm y (by simp)
    rw [insM_cons]
    by_cases h : Go.Proofs.YtmiepnnpccpicaaGreat.Marks.ahead y x = true
    · rw [if_pos h]
      refine List.Pairwise.cons (fun z hz => ?_) (put_sorted hx kx hs'.2 (fun z hz => hm z (by simp [hz])) (fun z hz => hne z (by simp [hz])))
      rcases mem_insM.1 hz with hz | rfl
      · exact hs'.1 z hz
      · exact ahead_iff.1 h
    · rw [if_neg h]
      have hxy : pre x y := by
        rcases ins_ne hy.1 hx hy.2 kx (hne y (by simp)) with h1 | h1
        · exact absurd (ahead_iff.2 h1) h
        · exact h1
      refine List.Pairwise.cons (fun z hz => ?_) hs
      rcases List.mem_cons.1 hz with rfl | hz
      · exact hxy
      · exact pre_trans hx hy.1 (hm z (by simp [hz])).1 hxy (hs'.1 z hz)
theorem seen_sorted {C : List Opn} : ∀ {l : List Opn}, (∀ o ∈ l, mayO o = true) → l.Pairwise lessO → (seenF C l).Pairwise pre := by
  intro l
  induction l using Clocks.list_snoc_ind with
  | h0 => intro _ _; exact .nil
  | h1 l x ih =>
    intro hm hp
    have hp' := List.pairwise_append.1 hp
    have ih' := ih (fun o ho => hm o (by simp [ho])) hp'.1
    rw [seenF_snoc]
    unfold seenStep
    split
    · rename_i h
      refine put_sorted (hm x (by simp)) h.1 ih' (fun y hy => ?_) (fun y hy => ?_)
      · have := mem_seenF.1 hy; exact ⟨hm y (by simp [this.1]), this.2.1⟩
      · have := mem_seenF.1 hy; exact lessO_ne (hp'.2.2 y this.1 x (by simp))
    · exact ih'
/-- What is seen of content that counts. -/
def seenM (c : List Opn) : List Opn := seenF c c
/-- A list in order, of the inserts that are not gone, is what is seen. -/
theorem seen_ext {c m : List Opn} (hm : ∀ o ∈ c, mayO o = true) (hp : c.Pairwise lessO) (hs : m.Pairwise pre) (h : ∀ y, y ∈ m ↔ y ∈ c ∧ y.k = 1 ∧ goneM c (idO y) = false) : seenM c = m :=
  sorted_ext (fun x hx => hm x (mem_seenF.1 hx).1) (fun x hx => hm x ((h x).1 hx).1) (seen_sorted hm hp) hs (fun y => mem_seenF.trans (h y).symm)
def elmL (l : List Opn) (s : Id) : List Opn := seenM (countsL l s)
/-- How many stand ahead of a place. -/
def befM (c : List Opn) (p : List Run) : Nat := (c.filter (fun o => decide (Go.Proofs.YtmiepnnpccpicaaGreat.Place.hold (all o.pl) (all p) < 0))).length
def offE (l : List Opn) (s : Id) (p : List Run) : Int := if spanE l s = 0 then (if anyB p = true then 0 else 8) else spanE l s
def offN (l : List Opn) (s : Id) (p : List Run) : Nat := if spanE l s = 0 ∧ anyB p = true then befM (elmL l s) p else 0
def atE (l : List Opn) (s : Id) (k : Int) : Int := if spanE l s = 0 then (if 0 ≤ k ∧ k < ((elmL l s).length : Int) then 0 else 2) else spanE l s
def atL (l : List Opn) (s : Id) (k : Int) : Opn := if spanE l s = 0 ∧ 0 ≤ k ∧ k < ((elmL l s).length : Int) then (elmL l s).getD k.toNat Codes.zop else Codes.zop
theorem elm_no {l : List Opn} {s : Id} (h : spanE l s ≠ 0) : elmL l s = [] := by
  unfold elmL countsL
  rw [if_neg h]
  rfl
theorem elm_yes {l : List Opn} {s : Id} (h : spanE l s = 0) : elmL l s = seenM (countL l (livesM l l) s) := by
  unfold elmL countsL
  rw [if_pos h]
theorem mem_elm {l : List Opn} {s : Id} {y : Opn} (h : y ∈ elmL l s) : y ∈ countsL l s ∧ y.k = 1 := by
  have := mem_seenF.1 h
  exact ⟨this.1, this.2.1⟩
theorem mem_elm_l {l : List Opn} {s : Id} {y : Opn} (h : y ∈ elmL l s) : spanE l s = 0 ∧ Bag l ∧ y ∈ l ∧ homeM (livesM l l) y.pl = s ∧ mayO y = true ∧ y.k = 1 := by
  by_cases h0 : spanE l s = 0
  · have h1 := mem_elm h
    unfold countsL at h1
    rw [if_pos h0] at h1
    have hb := (spanE_zero.1 h0).1
    have hm := mem_countL.1 h1.1
    exact ⟨h0, hb, hm.1.1, hm.1.2.2, hb.2.1 y hm.1.1, h1.2⟩
  · rw [elm_no h0] at h
    simp at h
theorem counts_pw {l : List Opn} (hb : Bag l) (s : Id) : (∀ o ∈ countL l (livesM l l) s, mayO o = true) ∧ (countL l (livesM l l) s).Pairwise lessO :=
  ⟨fun o ho => hb.2.1 o (mem_countL.1 ho).1.1, hb.2.2.sublist (countL_sub _ _ _)⟩
theorem elm_sorted (l : List Opn) (s : Id) : (elmL l s).Pairwise pre := by
  by_cases h0 : spanE l s = 0
  · rw [elm_yes h0]
    have := counts_pw (spanE_zero.1 h0).1 s
    exact seen_sorted this.1 this.2
  · rw [elm_no h0]; exact .nil
theorem elm_len (l : List Opn) (s : Id) : (elmL l s).length ≤ l.length := by
  by_cases h0 : spanE l s = 0
  · rw [elm_yes h0]
    exact Nat.le_trans (seenF_le _ _) (countL_sub _ _ _).length_le
  · rw [elm_no h0]; simp
/-- Of a list in order just the first ones stand ahead of each. -/
theorem bef_at : ∀ {c : List Opn}, (∀ o ∈ c, mayO o = true) → c.Pairwise pre → ∀ (k : Nat) (hk : k < c.length), befM c (c[k]'hk).pl = k
  | [], _, _, k, hk => by simp at hk
  | x :: c, hm, hs, 0, _ => by
    have hs' := List.pairwise_cons.1 hs
    unfold befM
    rw [List.getElem_cons_zero, List.filter_eq_nil_iff.2]
    · rfl
    · intro y hy
      rw [decide_eq_true_iff]
      intro hlt
      rcases List.mem_cons.1 hy with rfl | hy'
      · have := (hold_eq (all y.pl) (all y.pl)).2 rfl
        omega
      · have h1 := (pre_iff (hm x (by simp)) (hm y hy)).1 (hs'.1 y hy')
        have h2 := hold_neg (all y.pl) (all x.pl)
        omega
  | x :: c, hm, hs, k + 1, hk => by
    have hs' := List.pairwise_cons.1 hs
    have ih := bef_at (fun o ho => hm o (by simp [ho])) hs'.2 k (by simpa using hk)
    have hmem : c[k]'(by simpa using hk) ∈ c := List.getElem_mem _
    have h1 := (pre_iff (hm x (by simp)) (hm _ (by simp [hmem]))).1 (hs'.1 _ hmem)
    unfold befM at ih ⊢
    rw [List.getElem_cons_succ, List.filter_cons_of_pos (by rw [decide_eq_true_iff]; omega), List.length_cons, ih]
end Go.Proofs.YtmiepnnpccpicaaGreat.Views

namespace Go.Proofs.YtmiepnnpccpicaaGreat.Anchors
open Ops Stamp Bags Marks Homes Covers Views Go.Proofs.YtmiepnnpccpicaaGreat.Place
def makeP (l : List Opn) (s : Id) (k : Int) : List Run := (atL l s k).pl
def findE (l : List Opn) (p : List Run) : Int := if bagB l = true ∧ mayB p = true then 0 else 8
def findS (l : List Opn) (p : List Run) : Id := if bagB l = true ∧ mayB p = true then homeM (livesM l l) p else zid
def findN (l : List Opn) (p : List Run) : Nat := if bagB l = true ∧ mayB p = true then befM (elmL l (homeM (livesM l l) p)) p else 0
theorem make_no {l : List Opn} {s : Id} {k : Int} (h : atE l s k ≠ 0) : makeP l s k = [] := by
  unfold makeP atL
  rw [if_neg]
  · rfl
  · rintro ⟨h1, h2⟩
    exact h (by unfold atE; rw [if_pos h1, if_pos h2])
theorem make_yes {l : List Opn} {s : Id} {k : Int} (h : atE l s k = 0) : Bag l ∧ spanE l s = 0 ∧ 0 ≤ k ∧ k < ((elmL l s).length : Int) ∧ mayB (makeP l s k) = true ∧ homeM (livesM l l) (makeP l s k) = s ∧ befM (elmL l s) (makeP l s k) = k.toNat := by
  unfold atE at h
  by_cases h1 : spanE l s = 0
  rotate_left
  · rw [if_neg h1] at h; exact absurd h h1
  rw [if_pos h1] at h
  by_cases h2 : 0 ≤ k ∧ k < ((elmL l s).length : Int)
  rotate_left
  · rw [if_neg h2] at h; cases h
  have hk : k.toNat < (elmL l s).length := by omega
  have e : makeP l s k = ((elmL l s)[k.toNat]'hk).pl := by
    unfold makeP atL
    rw [if_pos ⟨h1, h2⟩, List.getD_eq_getElem?_getD, List.getElem?_eq_getElem hk]
    rfl
  have hm := mem_elm_l (List.getElem_mem hk)
  rw [e]
  exact ⟨(spanE_zero.1 h1).1, h1, h2.1, h2.2, (mayO_parts hm.2.2.2.2.1).2.1, hm.2.2.2.1, bef_at (fun o ho => (mem_elm_l ho).2.2.2.2.1) (elm_sorted l s) _ hk⟩
end Go.Proofs.YtmiepnnpccpicaaGreat.Anchors

namespace Go.Proofs.YtmiepnnpccpicaaGreat.Homes
open Go.RowKit Go.WideShapes Stamp Go.Proofs.YtmiepnnpccpicaaGreat.Place Ops Codes Bags Marks
attribute [local go_sem ↓] Go.wp_at_zero Go.wp_at_succ
attribute [local go_sem] yielded_undef
/-- Two cells of a block stored. -/
def put2 (X : World) (g : Nat) (d0 d1 : Value) : World := (X.setCell ⟨g, 0, none⟩ d0).setCell ⟨g, 1, none⟩ d1
theorem put2_same {X : World} {g : Nat} {c0 c1 : Value} (d0 d1 : Value) {e : TypeId} (h : X.heap[g]? = some (.cells #[c0, c1] e)) : (put2 X g d0 d1).heap[g]? = some (.cells #[d0, d1] e) := set_blk h
theorem put2_other {X : World} {g k : Nat} (d0 d1 : Value) {o : Obj} (hk : k ≠ g) (h : X.heap[k]? = some o) : (put2 X g d0 d1).heap[k]? = some o := by
  unfold put2
  rw [heap_setCell_other _ _ _ _ hk, heap_setCell_other _ _ _ _ hk]
  exact h
theorem put2_below {B g : Nat} {W X : World} (d0 d1 : Value) (hg : B ≤ g) (h : Below B W X) : Below B W (put2 X g d0 d1) := set_below hg h
theorem frz2 {X : World} {g : Nat} {cs : Array Value} {e : TypeId} (h : X.heap[g]? = some (.cells cs e)) (o : Nat) : X.frozen? ⟨g, o, none⟩ = false := by simp [World.frozen?, h]
end Go.Proofs.YtmiepnnpccpicaaGreat.Homes

namespace Go.Proofs.YtmiepnnpccpicaaGreat.Homes
open Go.RowKit Go.WideShapes Stamp Go.Proofs.YtmiepnnpccpicaaGreat.Place Ops Codes Bags Marks
attribute [local go_sem ↓] Go.wp_at_zero Go.wp_at_succ
attribute [local go_sem] yielded_undef
theorem where_is {live : List Opn} {s : Id} {j : Nat} (hj : j < (sectsM live).length) (h1 : ∀ i (h : i < (sectsM live).length), i < j → (sectsM live)[i]'h ≠ s) (h2 : (sectsM live)[j]'hj = s) : whereM live s = j := by
  have : whereN live s = j := by
    unfold whereN
    rw [List.findIdx_eq hj]
    exact ⟨by simpa using h2, fun i hi => by simpa using h1 i (by omega) hi⟩
  unfold whereM
  rw [this, if_pos (by rw [← sectsM_len]; exact hj)]
theorem where_no {live : List Opn} {s : Id} (h1 : ∀ i (h : i < (sectsM live).length), (sectsM live)[i]'h ≠ s) : whereM live s = -1 := by
  unfold whereM
  rw [if_neg]
  intro h
  have h' : whereN live s < (sectsM live).length := by rw [sectsM_len]; exact h
  have := List.findIdx_getElem (p := fun x => decide (x = s)) (xs := sectsM live) (w := h')
  exact h1 _ h' (of_decide_eq_true this)
theorem getD_get {l : List Id} {j : Nat} (h : j < l.length) : l.getD j zid = l[j]'h := by rw [List.getD_eq_getElem?_getD, List.getElem?_eq_getElem h]; rfl
end Go.Proofs.YtmiepnnpccpicaaGreat.Homes

namespace Go.Proofs.YtmiepnnpccpicaaGreat.Homes
open Go.RowKit Go.WideShapes Stamp Go.Proofs.YtmiepnnpccpicaaGreat.Place Ops Codes Bags Marks
attribute [local go_sem ↓] Go.wp_at_zero Go.wp_at_succ
attribute [local go_sem] yielded_undef
theorem begin_low {live : List Opn} {a : Int} (h : a < 1) : beginM live a = [] := by unfold beginM; rw [if_neg (by omega)]
theorem begin_high {live : List Opn} {a : Int} (h : (live.length : Int) < a) : beginM live a = [] := by unfold beginM; rw [if_neg (by omega)]
/-- A stamp, and an error. -/
def OneI (a : Id) (x : Int) (w : World) (e : Ending) (w' : World) : Prop := e = .returned (.tuple #[.agg #[.int .u32 (a.t : Int), .int .u8 (a.r : Int)], .int .i64 x]) ∧ Below w.heap.size w w'
theorem lives_fits {l : List Opn} (h : Bag l) : (livesM l l).length ≤ 1024 ∧ ∀ o ∈ livesM l l, mayO o = true := ⟨Nat.le_trans (livesM_le l l) h.1, lives_may h.2.1⟩
end Go.Proofs.YtmiepnnpccpicaaGreat.Homes

namespace Go.Proofs.YtmiepnnpccpicaaGreat.Views
open Go.RowKit Go.WideShapes Stamp Go.Proofs.YtmiepnnpccpicaaGreat.Place Ops Codes Bags Marks Homes Covers
attribute [local go_sem ↓] Go.wp_at_zero Go.wp_at_succ
attribute [local go_sem] yielded_undef
/-- An insert as an element. -/
def elv (o : Opn) (v : Value) : Value := .agg #[.int .u32 (o.t : Int), .int .u8 (o.r : Int), v, .int .i64 o.p]
def elmE : Enc Opn where
  sz := 4
  pos := by decide
  inn w cs o := ∃ v, cs = [.int .u32 (o.t : Int), .int .u8 (o.r : Int), v, .int .i64 o.p] ∧ Runs w v o.pl
  len := by rintro w cs o ⟨v, rfl, _⟩; rfl
  one := by
    rintro w cs o ⟨v, rfl, h⟩ u hu
    obtain ⟨ao, cap, rfl⟩ := h.shape
    simp only [List.mem_cons, List.not_mem_nil, or_false] at hu
    rcases hu with rfl | rfl | rfl | rfl <;> rfl
  keep := by rintro w w' cs o hb ⟨v, rfl, h⟩; exact ⟨v, rfl, h.keeps hb⟩
abbrev ElL (w : World) (v : Value) (l : List Opn) : Prop := Seq elmE w v l
theorem el_at {w : World} {ao : Option Addr} {m cap : Nat} {l : List Opn} (h : ElL w (.slice ao m cap) l) (k : Nat) (hk : k < l.length) :
    ∃ b off v, ao = some ⟨b, off, none⟩ ∧ b < w.heap.size ∧ Runs w v (l[k]'hk).pl ∧ w.cell? ⟨b, off + k * 4, none⟩ = some (.int .u32 ((l[k]'hk).t : Int)) ∧ w.cell? ⟨b, off + k * 4 + 1, none⟩ = some (.int .u8 ((l[k]'hk).r : Int)) ∧
      w.cell? ⟨b, off + k * 4 + 2, none⟩ = some v ∧ w.cell? ⟨b, off + k * 4 + 3, none⟩ = some (.int .i64 (l[k]'hk).p) := by
  obtain ⟨b, off, c, h1, h2, ⟨v, rfl, h3⟩, h4⟩ := h.at k hk
  exact ⟨b, off, v, h1, h2, h3, h4 0 (by decide), h4 1 (by decide), h4 2 (by decide), h4 3 (by decide)⟩
theorem elm_info : (Tryz.prog.info? 53).map (fun i => (i.zero, i.size, i.bytes)) = some (some (.agg #[.int .u32 0, .int .u8 0, .slice none 0 0, .int .i64 0]), 4, 40) := by kernel_rfl
theorem cells4 {X : World} {g : Nat} {c0 c1 c2 c3 : Value} {e : TypeId} (h : X.heap[g]? = some (.cells #[c0, c1, c2, c3] e)) :
    X.cell? ⟨g, 0, none⟩ = some c0 ∧ X.cell? ⟨g, 1, none⟩ = some c1 ∧ X.cell? ⟨g, 2, none⟩ = some c2 ∧ X.cell? ⟨g, 3, none⟩ = some c3 :=
  ⟨cell_of_row _ g 0 #[c0, c1, c2, c3] e _ h, cell_of_row _ g 1 #[c0, c1, c2, c3] e _ h, cell_of_row _ g 2 #[c0, c1, c2, c3] e _ h, cell_of_row _ g 3 #[c0, c1, c2, c3] e _ h⟩
end Go.Proofs.YtmiepnnpccpicaaGreat.Views

namespace Go.Proofs.YtmiepnnpccpicaaGreat.Homes
open Go.RowKit Go.WideShapes Stamp Go.Proofs.YtmiepnnpccpicaaGreat.Place Ops Codes Bags Marks
attribute [local go_sem ↓] Go.wp_at_zero Go.wp_at_succ
attribute [local go_sem] yielded_undef
theorem where_lo (live : List Opn) (s : Id) : -1 ≤ whereM live s ∧ whereM live s ≤ live.length := by
  unfold whereM
  split <;> omega
end Go.Proofs.YtmiepnnpccpicaaGreat.Homes

namespace Go.Proofs.YtmiepnnpccpicaaGreat.Views
open Go.RowKit Go.WideShapes Stamp Go.Proofs.YtmiepnnpccpicaaGreat.Place Ops Codes Bags Marks Homes Covers
attribute [local go_sem ↓] Go.wp_at_zero Go.wp_at_succ
attribute [local go_sem] yielded_undef
theorem elm_fits (l : List Opn) (s : Id) : (elmL l s).length ≤ 1024 ∧ (∀ o ∈ elmL l s, mayO o = true) := by
  refine ⟨?_, fun o ho => (mem_elm_l ho).2.2.2.2.1⟩
  by_cases h0 : spanE l s = 0
  · exact Nat.le_trans (elm_len l s) (spanE_zero.1 h0).1.1
  · rw [elm_no h0]; simp
end Go.Proofs.YtmiepnnpccpicaaGreat.Views

namespace Go.Proofs.YtmiepnnpccpicaaGreat.Views
open Go.RowKit Go.WideShapes Stamp Go.Proofs.YtmiepnnpccpicaaGreat.Place Ops Codes Bags Marks Homes Covers
attribute [local go_sem ↓] Go.wp_at_zero Go.wp_at_succ
attribute [local go_sem] yielded_undef
/-- Elements in cells, each place of the call's own. -/
def HoldE (w : World) (base : Nat) : List Value → List Opn → Prop
  | cs, [] => cs = []
  | cs, o :: l => ∃ v d, cs = [.int .u32 (o.t : Int), .int .u8 (o.r : Int), v, .int .i64 o.p] ++ d ∧ w.ownsRow base 40 3 v o.pl.length (runs o.pl) ∧ HoldE w base d l
theorem HoldE.rows {w : World} {base : Nat} : ∀ {cs : List Value} {l : List Opn}, HoldE w base cs l → elmE.rows w cs l
  | _, [], h => h
  | _, _ :: _, ⟨v, d, h1, h2, h3⟩ => ⟨_, d, h1, ⟨v, rfl, Runs.own h2⟩, HoldE.rows h3⟩
theorem HoldE.keeps {w w' : World} {base : Nat} (hb : Below w.heap.size w w') : ∀ {cs : List Value} {l : List Opn}, HoldE w base cs l → HoldE w' base cs l
  | _, [], h => h
  | _, _ :: _, ⟨v, d, h1, h2, h3⟩ => ⟨v, d, h1, own_stays h2 hb, HoldE.keeps hb h3⟩
theorem HoldE.append {w : World} {base : Nat} : ∀ {cs ds : List Value} {l m : List Opn}, HoldE w base cs l → HoldE w base ds m → HoldE w base (cs ++ ds) (l ++ m)
  | cs, _, [], _, h, h2 => by rw [show cs = [] from h]; exact h2
  | _, ds, _ :: _, _, ⟨v, d, h1, h3, h4⟩, h2 => ⟨v, d ++ ds, by rw [h1, List.append_assoc], h3, HoldE.append h4 h2⟩
theorem HoldE.base {w : World} {b b' : Nat} (hb : b' ≤ b) : ∀ {cs : List Value} {l : List Opn}, HoldE w b cs l → HoldE w b' cs l
  | _, [], h => h
  | _, _ :: _, ⟨v, d, h1, h2, h3⟩ => ⟨v, d, h1, op_base h2 hb, HoldE.base hb h3⟩
theorem HoldE.grown {w w' : World} {base sz n B : Nat} {v : Value} {rs : List Value} (hg : w.grownBy w' v.ownBlock) (hv : w.ownsRow B 53 sz v n rs) : ∀ {cs : List Value} {l : List Opn}, HoldE w base cs l → HoldE w' base cs l
  | _, [], h => h
  | _, _ :: _, ⟨u, d, h1, h2, h3⟩ => by
    refine ⟨u, d, h1, ?_, HoldE.grown hg hv h3⟩
    refine ⟨h2.1, h2.2.imp id fun ⟨g, cap, cur, e1, e2, e3, e4⟩ => ⟨g, cap, cur, e1, e2, ?_, e4⟩⟩
    exact blk_grown hg (own_ne hv e3 (by intro c h; injection h with h1 h2 h3; exact absurd h2 (by decide))) e3
/-- A list of elements of the call's own, its places too. -/
def OwnE (w : World) (base : Nat) (v : Value) (l : List Opn) : Prop := ∃ cs, w.ownsRow base 53 4 v l.length cs ∧ HoldE w base cs l
theorem OwnE.el {w : World} {base : Nat} {v : Value} {l : List Opn} (h : OwnE w base v l) : ElL w v l := by
  obtain ⟨cs, h1, h2⟩ := h
  exact ⟨cs, Sees.own h1, h2.rows⟩
theorem OwnE.keeps {w w' : World} {base : Nat} {v : Value} {l : List Opn} (h : OwnE w base v l) (hb : Below w.heap.size w w') : OwnE w' base v l := by
  obtain ⟨cs, h1, h2⟩ := h
  exact ⟨cs, own_stays h1 hb, h2.keeps hb⟩
theorem OwnE.nil (w : World) (base : Nat) : OwnE w base (.slice none 0 0) [] := ⟨[], World.ownsRow_nil _ _ _ _, rfl⟩
theorem OwnE.base {w : World} {b b' : Nat} {v : Value} {l : List Opn} (h : OwnE w b v l) (hb : b' ≤ b) : OwnE w b' v l := by
  obtain ⟨cs, h1, h2⟩ := h
  exact ⟨cs, op_base h1 hb, h2.base hb⟩
/-- Elements of the call's own, and an error. -/
def DoneOE (L : List Opn) (x : Int) (w : World) (e : Ending) (w' : World) : Prop := ∃ v, e = .returned (.tuple #[v, .int .i64 x]) ∧ OwnE w' w.heap.size v L ∧ Below w.heap.size w w'
/-- An element of the call's own, and an error. -/
def OneE (o : Opn) (x : Int) (w : World) (e : Ending) (w' : World) : Prop := ∃ vt, e = .returned (.tuple #[elv o vt, .int .i64 x]) ∧ w'.ownsRow w.heap.size 40 3 vt o.pl.length (runs o.pl) ∧ Below w.heap.size w w'
end Go.Proofs.YtmiepnnpccpicaaGreat.Views

namespace Go.Proofs.YtmiepnnpccpicaaGreat.Anchors
open Go.RowKit Go.WideShapes Stamp Go.Proofs.YtmiepnnpccpicaaGreat.Place Ops Codes Bags Marks Homes Covers Views
/-- A place of the call's own, and an error. -/
def OneP (L : List Run) (x : Int) (w : World) (e : Ending) (w' : World) : Prop := ∃ v, e = .returned (.tuple #[v, .int .i64 x]) ∧ w'.ownsRow w.heap.size 40 3 v L.length (runs L) ∧ Below w.heap.size w w'
/-- A stamp, a number and an error. -/
def OneF (a : Id) (n : Nat) (x : Int) (w : World) (e : Ending) (w' : World) : Prop := e = .returned (.tuple #[.agg #[.int .u32 (a.t : Int), .int .u8 (a.r : Int)], .int .i64 (n : Int), .int .i64 x]) ∧ Below w.heap.size w w'
end Go.Proofs.YtmiepnnpccpicaaGreat.Anchors

namespace Go.Proofs.YtmiepnnpccpicaaGreat.Homes
open Go.RowKit Go.WideShapes Stamp Go.Proofs.YtmiepnnpccpicaaGreat.Place Ops Codes Bags Marks
/-- Two rows of the call's own (they may lie in one block), and an error. -/
def TwoR (A B : List Run) (x : Int) (w : World) (e : Ending) (w' : World) : Prop := ∃ va vb, e = .returned (.tuple #[va, vb, .int .i64 x]) ∧ w'.ownsRow w.heap.size 40 3 va A.length (runs A) ∧ w'.ownsRow w.heap.size 40 3 vb B.length (runs B) ∧ Below w.heap.size w w'
end Go.Proofs.YtmiepnnpccpicaaGreat.Homes
