/- Homes: sections are parts of the order of places, one behind the other. Conditions: none. -/
import Derived.Maps.Own
import Derived.Maps.OwnOps
import Derived.Maps.OwnSet
import Derived.Maps.Views
import Derived.DeepKeys4
import Derived.Test.YtdackenaknieaaaGreatPk07
import Derived.Test.YtdackenaknieaaaGreatPk01

namespace Go.Proofs.YtdackenaknieaaaGreat.Homes
open Ops Stamp Bags Marks Go.Proofs.YtdackenaknieaaaGreat.Place

/-- Live marks: in order, of stamps of their own. -/
structure Liv (live : List Opn) : Prop where
  may : ∀ o ∈ live, mayO o = true ∧ o.k = 2
  srt : live.Pairwise pre
  one : live.Pairwise (fun a b => idO a ≠ idO b)
theorem Liv.tail {a : Opn} {live : List Opn} (h : Liv (a :: live)) : Liv live :=
  ⟨fun o ho => h.may o (by simp [ho]), (List.pairwise_cons.1 h.srt).2, (List.pairwise_cons.1 h.one).2⟩
theorem liv_bag {l : List Opn} (h : Bag l) : Liv (livesM l l) := by
  have hs := lives_sorted (L := l) h.2.1 h.2.2
  refine ⟨fun o ho => ⟨h.2.1 o (mem_livesM.1 ho).1, (mem_livesM.1 ho).2.1⟩, hs, ?_⟩
  refine List.Pairwise.imp_of_mem ?_ hs
  intro a b ha hb hp e
  have h1 := findO_mem h.2.2 (mem_livesM.1 ha).1
  have h2 := findO_mem h.2.2 (mem_livesM.1 hb).1
  rw [e, h2] at h1
  injection h1 with h1
  subst h1
  exact pre_irrefl (h.2.1 _ (mem_livesM.1 ha).1) hp
theorem nb_iff0 {o : Opn} {p : List Run} : notBehind o p = true ↔ Go.Proofs.YtdackenaknieaaaGreat.Place.hold (all o.pl) (all p) ≤ 0 := by unfold notBehind; exact decide_eq_true_iff
theorem nb_mono {a b : Opn} {p : List Run} (ha : mayO a = true) (hb : mayO b = true) (h : pre a b) (hp : notBehind b p = true) : notBehind a p = true := by
  rw [nb_iff0] at hp ⊢
  rw [pre_iff ha hb] at h
  rcases hold_range (all b.pl) (all p) with h1 | h1 | h1
  · have := hold_trans _ _ _ h h1; omega
  · rw [← (hold_eq _ _).1 h1, h]; decide
  · omega
/-- How many marks are not behind a place. -/
def cntM (live : List Opn) (p : List Run) : Nat := (live.takeWhile (fun o => notBehind o p)).length
theorem cntM_le (live : List Opn) (p : List Run) : cntM live p ≤ live.length := (List.takeWhile_sublist _).length_le
theorem cntM_yes {a : Opn} {live : List Opn} {p : List Run} (h : notBehind a p = true) : cntM (a :: live) p = cntM live p + 1 := by
  unfold cntM; rw [List.takeWhile_cons_of_pos (by simpa using h)]; rfl
theorem cntM_no {a : Opn} {live : List Opn} {p : List Run} (h : notBehind a p = false) : cntM (a :: live) p = 0 := by
  unfold cntM; rw [List.takeWhile_cons_of_neg (by simpa using h)]; rfl
theorem nb_iff {p : List Run} : ∀ {live : List Opn}, Liv live → ∀ (i : Nat) (hi : i < live.length), notBehind (live[i]'hi) p = true ↔ i < cntM live p
  | [], _, i, hi => by simp at hi
  | a :: live, h, i, hi => by
    by_cases ha : notBehind a p = true
    · rw [cntM_yes ha]
      cases i with
      | zero => simp [ha]
      | succ i =>
        have := nb_iff (p := p) h.tail i (by simpa using hi)
        simp only [List.getElem_cons_succ]
        rw [this]
        omega
    · rw [cntM_no (by simpa using ha)]
      constructor
      · intro hb
        exfalso
        apply ha
        cases i with
        | zero => exact hb
        | succ i =>
          have hm := List.getElem_mem (l := live) (n := i) (by simpa using hi)
          exact nb_mono (h.may a (by simp)).1 (h.may _ (by simp [hm])).1 ((List.pairwise_cons.1 h.srt).1 _ hm) hb
      · intro h0; omega
theorem cnt_is {p : List Run} {live : List Opn} (h : Liv live) {k : Nat} (hk : k ≤ live.length) (h1 : ∀ (i : Nat) (hi : i < live.length), notBehind (live[i]'hi) p = true ↔ i < k) : cntM live p = k := by
  have hc := cntM_le live p
  rcases Nat.lt_trichotomy (cntM live p) k with hlt | he | hgt
  · have := (nb_iff (p := p) h (cntM live p) (by omega)).1 ((h1 _ (by omega)).2 hlt)
    omega
  · exact he
  · have := (h1 k (by omega)).1 ((nb_iff (p := p) h k (by omega)).2 hgt)
    omega
theorem fold_home {p : List Run} : ∀ {live : List Opn} (s : Id), Liv live → live.foldl (fun s o => if notBehind o p = true then idO o else s) s = (s :: live.map idO).getD (cntM live p) zid
  | [], s, _ => rfl
  | a :: live, s, h => by
    rw [List.foldl_cons]
    by_cases ha : notBehind a p = true
    · rw [if_pos ha, fold_home _ h.tail, cntM_yes ha]
      rfl
    · rw [if_neg ha, fold_home _ h.tail, cntM_no (by simpa using ha)]
      have : cntM live p = 0 := by
        refine cnt_is h.tail (Nat.zero_le _) (fun i hi => ?_)
        have := nb_iff (p := p) h (i + 1) (by simpa using hi)
        rw [cntM_no (by simpa using ha)] at this
        simp only [List.getElem_cons_succ] at this
        rw [this]
        omega
      rw [this]
      rfl
theorem homeM_is {p : List Run} {live : List Opn} (h : Liv live) : homeM live p = (sectsM live).getD (cntM live p) zid := fold_home zid h
/-! ### Where a section is -/
theorem id_ne_zid {o : Opn} (h : mayO o = true) : idO o ≠ zid := fun e => by
  have := (mayO_parts h).1
  have ht : o.t = 0 := congrArg Id.t e
  rw [ht] at this
  simp [may] at this
theorem sects_one {live : List Opn} (h : Liv live) : (sectsM live).Pairwise (fun a b => a ≠ b) := by
  unfold sectsM
  refine List.Pairwise.cons (fun a ha => ?_) ?_
  · obtain ⟨o, ho, rfl⟩ := List.mem_map.1 ha
    exact fun e => id_ne_zid (h.may o ho).1 e.symm
  · rw [List.pairwise_map]; exact h.one
theorem where_at {live : List Opn} (h : Liv live) {i : Nat} (hi : i < live.length + 1) : whereN live ((sectsM live).getD i zid) = i := by
  have hi' : i < (sectsM live).length := by rw [sectsM_len]; exact hi
  rw [show (sectsM live).getD i zid = (sectsM live)[i] by rw [List.getD_eq_getElem?_getD, List.getElem?_eq_getElem hi']; rfl]
  unfold whereN
  rw [List.findIdx_eq hi']
  refine ⟨by simp, fun j hj => ?_⟩
  have := List.pairwise_iff_getElem.1 (sects_one h) j i (by omega) hi' hj
  simpa using this
theorem where_of {live : List Opn} {s : Id} (h : whereN live s < live.length + 1) : (sectsM live).getD (whereN live s) zid = s := by
  have hi' : whereN live s < (sectsM live).length := by rw [sectsM_len]; exact h
  rw [show (sectsM live).getD (whereN live s) zid = (sectsM live)[whereN live s] by rw [List.getD_eq_getElem?_getD, List.getElem?_eq_getElem hi']; rfl]
  have := List.findIdx_getElem (p := fun x => decide (x = s)) (xs := sectsM live) (w := hi')
  exact of_decide_eq_true this
theorem sects_inj {live : List Opn} (h : Liv live) {i j : Nat} (hi : i < live.length + 1) (hj : j < live.length + 1) (e : (sectsM live).getD i zid = (sectsM live).getD j zid) : i = j := by
  rw [← where_at h hi, e, where_at h hj]
theorem whereM_at {live : List Opn} (h : Liv live) {i : Nat} (hi : i < live.length + 1) : whereM live ((sectsM live).getD i zid) = i := by
  unfold whereM
  rw [where_at h hi, if_pos hi]
/-! ### Where a section begins -/
theorem begin_zero (live : List Opn) : beginM live 0 = [] := rfl
theorem begin_succ {live : List Opn} {i : Nat} (hi : i < live.length) : beginM live ((i : Int) + 1) = (live[i]'hi).pl := by
  unfold beginM
  rw [if_pos (by omega), show ((i : Int) + 1 - 1).toNat = i by omega, List.getD_eq_getElem?_getD, List.getElem?_eq_getElem hi]
  rfl
theorem begin_end (live : List Opn) : beginM live ((live.length : Int) + 1) = [] := by
  unfold beginM
  rw [if_neg (by omega)]
/-- A place stands in the span of one section alone, its home. -/
theorem span_home {live : List Opn} (h : Liv live) {p : List Run} (hp : anyB p = true) {i : Nat} (hi : i < live.length + 1) :
    (decide (cmp (beginM live i) p ≤ 0) && (decide ((beginM live ((i : Int) + 1)).length = 0) || decide (cmp p (beginM live ((i : Int) + 1)) < 0))) = decide (i = cntM live p) := by
  have hc := cntM_le live p
  have e1 : cmp (beginM live i) p ≤ 0 ↔ i ≤ cntM live p := by
    cases i with
    | zero =>
      have : cmp (beginM live ((0 : Nat) : Int)) p = Go.Proofs.YtdackenaknieaaaGreat.Place.hold [] (all p) := by
        show cmp (beginM live 0) p = _
        rw [begin_zero]; unfold cmp; rw [if_pos ⟨rfl, hp⟩]; rfl
      rw [this]
      have h2 : Go.Proofs.YtdackenaknieaaaGreat.Place.hold [] (all p) ≤ 0 := by cases all p <;> simp [Go.Proofs.YtdackenaknieaaaGreat.Place.hold]
      simp [h2]
    | succ i =>
      have hi' : i < live.length := by omega
      have hm := (h.may _ (List.getElem_mem hi')).1
      rw [show ((i + 1 : Nat) : Int) = (i : Int) + 1 by omega, begin_succ hi']
      unfold cmp
      rw [if_pos ⟨anyB_may (mayO_parts hm).2.1, hp⟩, ← nb_iff0, nb_iff h i hi']
      omega
  have e2 : ((beginM live ((i : Int) + 1)).length = 0 ∨ cmp p (beginM live ((i : Int) + 1)) < 0) ↔ cntM live p ≤ i := by
    by_cases hi' : i < live.length
    · have hm := (h.may _ (List.getElem_mem hi')).1
      have hb := (mayO_parts hm).2.1
      rw [begin_succ hi']
      have h1 : ¬ ((live[i]'hi').pl.length = 0) := by have := ((mayB_iff _).1 hb).1; omega
      unfold cmp
      rw [if_pos ⟨hp, anyB_may hb⟩]
      have h3 := nb_iff (p := p) h i hi'
      rw [nb_iff0] at h3
      have h4 := hold_neg (all (live[i]'hi').pl) (all p)
      constructor
      · rintro (h5 | h5)
        · exact absurd h5 h1
        · exact Nat.le_of_not_lt (fun h6 => by have := h3.2 h6; omega)
      · intro h5
        right
        have h6 : ¬ Go.Proofs.YtdackenaknieaaaGreat.Place.hold (all (live[i]'hi').pl) (all p) ≤ 0 := fun h7 => by have := h3.1 h7; omega
        omega
    · obtain rfl : i = live.length := by omega
      rw [begin_end]
      simp [hc]
  rw [Bool.eq_iff_iff, Bool.and_eq_true, Bool.or_eq_true, decide_eq_true_iff, decide_eq_true_iff, decide_eq_true_iff, decide_eq_true_iff, e1, e2]
  omega
end Go.Proofs.YtdackenaknieaaaGreat.Homes

/- Homes: what a mark more, a mark less homes elsewhere. Conditions: none. -/
namespace Go.Proofs.YtdackenaknieaaaGreat.Homes
open Ops Stamp Bags Marks Go.Proofs.YtdackenaknieaaaGreat.Place

def homeF (p : List Run) (s : Id) (live : List Opn) : Id := live.foldl (fun s o => if notBehind o p = true then idO o else s) s
theorem homeF_append (p : List Run) (s : Id) (a b : List Opn) : homeF p s (a ++ b) = homeF p (homeF p s a) b := by unfold homeF; rw [List.foldl_append]
theorem homeF_cons (p : List Run) (s : Id) (o : Opn) (b : List Opn) : homeF p s (o :: b) = homeF p (if notBehind o p = true then idO o else s) b := rfl
theorem homeF_none {p : List Run} : ∀ {b : List Opn} (s : Id), (∀ o ∈ b, notBehind o p = false) → homeF p s b = s
  | [], _, _ => rfl
  | o :: b, s, h => by
    rw [homeF_cons, h o (by simp), if_neg (by decide)]
    exact homeF_none s (fun x hx => h x (by simp [hx]))
theorem homeF_some {p : List Run} : ∀ {b : List Opn}, (∃ o ∈ b, notBehind o p = true) → ∃ o ∈ b, notBehind o p = true ∧ ∀ s, homeF p s b = idO o
  | [], h => by obtain ⟨o, ho, _⟩ := h; simp at ho
  | x :: b, h => by
    by_cases hb : ∃ o ∈ b, notBehind o p = true
    · obtain ⟨o, h1, h2, h3⟩ := homeF_some hb
      exact ⟨o, by simp [h1], h2, fun s => by rw [homeF_cons]; exact h3 _⟩
    · have hn : ∀ o ∈ b, notBehind o p = false := fun o ho => by
        cases hq : notBehind o p
        · rfl
        · exact absurd ⟨o, ho, hq⟩ hb
      obtain ⟨o, h1, h2⟩ := h
      rcases List.mem_cons.1 h1 with rfl | h1
      · exact ⟨o, by simp, h2, fun s => by rw [homeF_cons, h2, if_pos rfl]; exact homeF_none _ hn⟩
      · rw [hn o h1] at h2; cases h2
/-- The last one's stamp. -/
def lastI (a : List Opn) : Id := (zid :: a.map idO).getD a.length zid
theorem homeF_all {p : List Run} {a : List Opn} (h : ∀ o ∈ a, notBehind o p = true) : homeF p zid a = lastI a := by
  induction a using Clocks.list_snoc_ind with
  | h0 => rfl
  | h1 a x ih =>
    rw [homeF_append, homeF_cons, h x (by simp), if_pos rfl]
    show idO x = _
    unfold lastI
    rw [List.length_append, List.length_singleton, List.map_append, List.getD_cons_succ, List.getD_eq_getElem?_getD, List.getElem?_append_right (by simp)]
    simp
theorem homeF_mem {p : List Run} : ∀ (a : List Opn) (s : Id), homeF p s a = s ∨ ∃ o ∈ a, homeF p s a = idO o
  | [], s => .inl rfl
  | x :: a, s => by
    rw [homeF_cons]
    rcases homeF_mem a (if notBehind x p = true then idO x else s) with h | ⟨o, h1, h2⟩
    · rw [h]
      split
      · exact .inr ⟨x, by simp, rfl⟩
      · exact .inl rfl
    · exact .inr ⟨o, by simp [h1], h2⟩
theorem homeM_F (live : List Opn) (p : List Run) : homeM live p = homeF p zid live := rfl

/-- A mark more: it homes what stands from it on in the section in which it stands, and nothing else. -/
theorem home_ins {A B : List Opn} {o : Opn} {p : List Run} (hm : ∀ x ∈ A ++ o :: B, mayO x = true) (hs : (A ++ o :: B).Pairwise pre) (hi : (A ++ o :: B).Pairwise (fun a b => idO a ≠ idO b)) :
    homeM (A ++ o :: B) p = if homeM (A ++ B) p = homeM (A ++ B) o.pl ∧ notBehind o p = true then idO o else homeM (A ++ B) p := by
  have hs' := List.pairwise_append.1 hs
  have hi' := List.pairwise_append.1 hi
  have mo := hm o (by simp)
  have hA : ∀ x ∈ A, pre x o := fun x hx => hs'.2.2 x hx o (by simp)
  have hB : ∀ x ∈ B, pre o x := fun x hx => (List.pairwise_cons.1 hs'.2.1).1 x hx
  have nA : ∀ x ∈ A, notBehind x o.pl = true := fun x hx => by
    rw [nb_iff0]; have := (pre_iff (hm x (by simp [hx])) mo).1 (hA x hx); omega
  have nB : ∀ x ∈ B, notBehind x o.pl = false := fun x hx => by
    have h1 := (pre_iff mo (hm x (by simp [hx]))).1 (hB x hx)
    have h2 := hold_neg (all o.pl) (all x.pl)
    cases hq : notBehind x o.pl
    · rfl
    · rw [nb_iff0] at hq; omega
  have own : homeM (A ++ B) o.pl = lastI A := by
    rw [homeM_F, homeF_append, homeF_all nA, homeF_none _ nB]
  rw [own]
  simp only [homeM_F, homeF_append, homeF_cons]
  by_cases ho : notBehind o p = true
  · have aA : ∀ x ∈ A, notBehind x p = true := fun x hx => nb_mono (hm x (by simp [hx])) mo (hA x hx) ho
    rw [homeF_all aA, if_pos ho]
    by_cases hb : ∃ x ∈ B, notBehind x p = true
    · obtain ⟨x, h1, _, h3⟩ := homeF_some hb
      rw [h3, h3, if_neg]
      rintro ⟨e, _⟩
      have : lastI A = zid ∨ ∃ y ∈ A, lastI A = idO y := by rw [← homeF_all aA]; exact homeF_mem A zid
      rcases this with h | ⟨y, hy, h⟩
      · exact id_ne_zid (hm x (by simp [h1])) (e.trans h)
      · exact hi'.2.2 y hy x (by simp [h1]) (h.symm.trans e.symm)
    · have hn : ∀ x ∈ B, notBehind x p = false := fun x hx => by
        cases hq : notBehind x p
        · rfl
        · exact absurd ⟨x, hx, hq⟩ hb
      rw [homeF_none _ hn, homeF_none _ hn, if_pos ⟨rfl, ho⟩]
  · rw [if_neg ho, if_neg (fun h => ho h.2)]
/-- A mark less: what stood in its section is homed in the one ahead. -/
theorem home_del {A B : List Opn} {g : Opn} {p : List Run} (hm : ∀ x ∈ A ++ g :: B, mayO x = true) (hs : (A ++ g :: B).Pairwise pre) (hi : (A ++ g :: B).Pairwise (fun a b => idO a ≠ idO b)) :
    homeM (A ++ B) p = if homeM (A ++ g :: B) p = idO g then lastI A else homeM (A ++ g :: B) p := by
  have hs' := List.pairwise_append.1 hs
  have hi' := List.pairwise_append.1 hi
  have mg := hm g (by simp)
  have hA : ∀ x ∈ A, pre x g := fun x hx => hs'.2.2 x hx g (by simp)
  simp only [homeM_F, homeF_append, homeF_cons]
  by_cases hb : ∃ x ∈ B, notBehind x p = true
  · obtain ⟨x, h1, _, h3⟩ := homeF_some hb
    rw [h3, h3, if_neg]
    exact fun e => (List.pairwise_cons.1 hi'.2.1).1 x h1 e.symm
  · have hn : ∀ x ∈ B, notBehind x p = false := fun x hx => by
      cases hq : notBehind x p
      · rfl
      · exact absurd ⟨x, hx, hq⟩ hb
    rw [homeF_none _ hn, homeF_none _ hn]
    by_cases hg : notBehind g p = true
    · rw [if_pos hg, if_pos rfl]
      exact homeF_all (fun x hx => nb_mono (hm x (by simp [hx])) mg (hA x hx) hg)
    · rw [if_neg hg, if_neg]
      intro e
      rcases homeF_mem (p := p) A zid with h | ⟨y, hy, h⟩
      · exact id_ne_zid mg (e.symm.trans h)
      · exact hi'.2.2 y hy g (by simp) (h.symm.trans e)
end Go.Proofs.YtdackenaknieaaaGreat.Homes

/- Homes: what one operation more homes elsewhere. Conditions: none. -/
namespace Go.Proofs.YtdackenaknieaaaGreat.Homes
open Ops Stamp Bags Marks Go.Proofs.YtdackenaknieaaaGreat.Place

/-- What the law expects of a place's home behind one operation more. -/
def wantM (l : List Opn) (o : Opn) (p : List Run) : Id :=
  if hasO l (idO o) = false ∧ o.k = 4 ∧ homeM (livesM l l) p = tgt o then aheadL l (homeM (livesM l l) p)
  else if (hasO l (idO o) = false ∧ o.k = 2 ∧ ended l (idO o) = false) ∧ homeM (livesM l l) p = homeM (livesM l l) o.pl ∧ cmp o.pl p ≤ 0 then idO o
  else homeM (livesM l l) p
theorem lives_ins {l : List Opn} {o : Opn} (hl : Bag l) (ho : mayO o = true) (hw : Bag (withO l o)) (hno : hasO l (idO o) = false) (hk : o.k = 2) (he : ended l (idO o) = false) :
    livesM (withO l o) (withO l o) = insM (livesM l l) o := by
  have al := lives_may (L := l) hl.2.1
  have sl := lives_sorted (L := l) hl.2.1 hl.2.2
  have hid := hasO_no.1 hno
  have hx : ∀ a, ended (withO l o) a = ended l a := fun a => by rw [ended_withO hno]; simp [hk]
  refine lives_ext hw (fun x hx => ?_) (ins_sorted ho hk sl (fun y hy => ⟨al y hy, (mem_livesM.1 hy).2.1⟩) (fun y hy => hid y (mem_livesM.1 hy).1)) (fun y => ?_)
  · rcases mem_insM.1 hx with hx | rfl
    · exact al x hx
    · exact ho
  · rw [mem_insM, mem_livesM, hx, mem_withO]
    constructor
    · rintro (⟨h1, h2⟩ | rfl)
      · exact ⟨.inl h1, h2⟩
      · exact ⟨.inr ⟨rfl, hno⟩, hk, he⟩
    · rintro ⟨h1 | ⟨rfl, _⟩, h2⟩
      · exact .inl ⟨h1, h2⟩
      · exact .inr rfl
theorem lives_stay {l : List Opn} {o : Opn} (hl : Bag l) (hw : Bag (withO l o)) (hno : hasO l (idO o) = false) (h4 : o.k ≠ 4) (h2 : ¬ (o.k = 2 ∧ ended l (idO o) = false)) :
    livesM (withO l o) (withO l o) = livesM l l := by
  have hx : ∀ a, ended (withO l o) a = ended l a := fun a => by rw [ended_withO hno]; simp [h4]
  refine lives_ext hw (lives_may (L := l) hl.2.1) (lives_sorted (L := l) hl.2.1 hl.2.2) (fun y => ?_)
  rw [mem_livesM, hx, mem_withO]
  constructor
  · rintro ⟨h1, h3⟩; exact ⟨.inl h1, h3⟩
  · rintro ⟨h1 | ⟨rfl, _⟩, h3⟩
    · exact ⟨h1, h3⟩
    · exact absurd h3 h2
theorem lives_less {l : List Opn} {o : Opn} (hl : Bag l) (hw : Bag (withO l o)) (hno : hasO l (idO o) = false) (h4 : o.k = 4) :
    livesM (withO l o) (withO l o) = (livesM l l).filter (fun y => !decide (tgt o = idO y)) := by
  refine lives_ext hw (fun x hx => lives_may (L := l) hl.2.1 x (List.mem_filter.1 hx).1) ((lives_sorted (L := l) hl.2.1 hl.2.2).filter _) (fun y => ?_)
  rw [List.mem_filter, mem_livesM, mem_withO, ended_withO hno]
  constructor
  · rintro ⟨⟨h1, h2, h3⟩, h5⟩
    refine ⟨.inl h1, h2, ?_⟩
    rw [h3, Bool.false_or]
    simpa [h4] using h5
  · rintro ⟨h1 | ⟨rfl, _⟩, h2, h3⟩
    · rw [Bool.or_eq_false_iff] at h3
      refine ⟨⟨h1, h2, h3.1⟩, ?_⟩
      have := h3.2
      simpa [h4] using this
    · omega
theorem homeM_sect (live : List Opn) (p : List Run) : homeM live p = zid ∨ ∃ o ∈ live, homeM live p = idO o := homeF_mem live zid
theorem filter_none {l : List Opn} {g : Id} (h : ∀ y ∈ l, g ≠ idO y) : l.filter (fun y => !decide (g = idO y)) = l := List.filter_eq_self.2 (fun y hy => by simp [h y hy])
theorem ahead_is {l : List Opn} (hb : Bag l) {A B : List Opn} {g : Opn} (e : livesM l l = A ++ g :: B) : aheadL l (idO g) = lastI A ∧ aheadE l (idO g) = 0 := by
  have hL := liv_bag hb
  rw [e] at hL
  have hlen : A.length + 1 < (A ++ g :: B).length + 1 := by simp
  have hg : (sectsM (A ++ g :: B)).getD (A.length + 1) zid = idO g := by
    unfold sectsM
    rw [List.getD_cons_succ, List.map_append, List.getD_eq_getElem?_getD, List.getElem?_append_right (by simp)]
    simp
  have hw := where_at hL hlen
  rw [hg] at hw
  have hwm : whereM (A ++ g :: B) (idO g) = ((A.length + 1 : Nat) : Int) := by unfold whereM; rw [hw, if_pos hlen]
  unfold aheadL aheadE
  rw [e, hwm, hw, (bagB_iff l).2 hb]
  rw [if_pos ⟨rfl, by omega⟩, if_pos rfl, if_pos (by omega)]
  refine ⟨?_, rfl⟩
  unfold lastI sectsM
  rw [Nat.add_sub_cancel, List.map_append, List.getD_eq_getElem?_getD, List.getD_eq_getElem?_getD, ← List.cons_append, List.getElem?_append_left (by simp)]
/-- What one operation more homes elsewhere is what the law expects. -/
theorem home_more {l : List Opn} {o : Opn} {p : List Run} (hl : Bag l) (ho : mayO o = true) (hw : Bag (withO l o)) (hp : anyB p = true) :
    homeM (livesM (withO l o) (withO l o)) p = wantM l o p ∧ (hasO l (idO o) = false ∧ o.k = 4 ∧ homeM (livesM l l) p = tgt o → aheadE l (homeM (livesM l l) p) = 0) := by
  unfold wantM
  by_cases hh : hasO l (idO o) = true
  · rw [withO_yes hh, if_neg (by simp [hh]), if_neg (by simp [hh])]
    exact ⟨rfl, fun h => by rw [hh] at h; cases h.1⟩
  have hno : hasO l (idO o) = false := by simpa using hh
  have hL := liv_bag hl
  by_cases h4 : o.k = 4
  · rw [lives_less hl hw hno h4]
    have htz : tgt o ≠ zid := fun e => by
      have h1 := (tgt_cells ho).1
      have h2 := last_bounds (mayO_parts ho).2.1
      rw [e] at h1
      have h3 : ((zid).t : Int) = 0 := rfl
      omega
    by_cases hg : ∃ g ∈ livesM l l, tgt o = idO g
    · obtain ⟨g, hgm, hge⟩ := hg
      obtain ⟨A, B, e⟩ := List.append_of_mem hgm
      have hLe := hL
      rw [e] at hLe
      have hi' := List.pairwise_append.1 hLe.one
      have hf : (livesM l l).filter (fun y => !decide (tgt o = idO y)) = A ++ B := by
        rw [e, hge, List.filter_append, List.filter_cons_of_neg (by simp), filter_none (fun y hy => Ne.symm (hi'.2.2 y hy g (by simp))), filter_none (fun y hy => (List.pairwise_cons.1 hi'.2.1).1 y hy)]
      rw [hf, home_del (g := g) (fun x hx => (hLe.may x hx).1) hLe.srt hLe.one, ← e]
      have ha := ahead_is hl e
      by_cases hq : homeM (livesM l l) p = idO g
      · rw [if_pos hq, if_pos ⟨hno, h4, by rw [hq, hge]⟩, hq]
        exact ⟨ha.1.symm, fun _ => ha.2⟩
      · rw [if_neg hq, if_neg (fun h => hq (by rw [h.2.2, hge])), if_neg (fun h => by have := h.1.2.1; omega)]
        exact ⟨rfl, fun h => absurd (by rw [h.2.2, hge]) hq⟩
    · have hf : (livesM l l).filter (fun y => !decide (tgt o = idO y)) = livesM l l := filter_none (fun y hy e => hg ⟨y, hy, e⟩)
      have hn : homeM (livesM l l) p ≠ tgt o := fun e => by
        rcases homeM_sect (livesM l l) p with h | ⟨y, hy, h⟩
        · exact htz (e.symm.trans h)
        · exact hg ⟨y, hy, e.symm.trans h⟩
      rw [hf, if_neg (fun h => hn h.2.2), if_neg (fun h => by have := h.1.2.1; omega)]
      exact ⟨rfl, fun h => absurd h.2.2 hn⟩
  · rw [if_neg (fun h => h4 h.2.1)]
    refine ⟨?_, fun h => absurd h.2.1 h4⟩
    by_cases h2 : o.k = 2 ∧ ended l (idO o) = false
    · have hw2 := liv_bag hw
      rw [lives_ins hl ho hw hno h2.1 h2.2] at hw2 ⊢
      have ei : insM (livesM l l) o = (livesM l l).take (atM (livesM l l) o) ++ o :: (livesM l l).drop (atM (livesM l l) o) := by unfold insM; simp
      rw [ei] at hw2 ⊢
      rw [home_ins (fun x hx => (hw2.may x hx).1) hw2.srt hw2.one, List.take_append_drop]
      have hc : cmp o.pl p ≤ 0 ↔ notBehind o p = true := by
        unfold cmp
        rw [if_pos ⟨anyB_may (mayO_parts ho).2.1, hp⟩, nb_iff0]
      by_cases hq : homeM (livesM l l) p = homeM (livesM l l) o.pl ∧ notBehind o p = true
      · rw [if_pos hq, if_pos ⟨⟨hno, h2⟩, hq.1, hc.2 hq.2⟩]
      · rw [if_neg hq, if_neg (fun h => hq ⟨h.2.1, hc.1 h.2.2⟩)]
    · rw [lives_stay hl hw hno h4 h2, if_neg (fun h => h2 h.1.2)]
end Go.Proofs.YtdackenaknieaaaGreat.Homes

/- What counts of what is held, in plain words: places cut, content that is homed, what counts. Conditions: none. -/
namespace Go.Proofs.YtdackenaknieaaaGreat.Covers
open Ops Stamp Bags Marks Homes Go.Proofs.YtdackenaknieaaaGreat.Place

/-! ### The first stamps of a place -/
/-- The first so many stamps of a place, as a place. -/
def cutN : List Run → Nat → List Run
  | [], _ => []
  | x :: p, k => if k = 0 then [] else if x.m ≤ (k : Int) then x :: cutN p (k - x.m.toNat) else [mkRun x.t x.r (k : Int)]
theorem cutN_zero (p : List Run) : cutN p 0 = [] := by cases p <;> rfl
theorem up_take (t r : Nat) : ∀ (n k : Nat), k ≤ n → (up t r n).take k = up t r k := fun n k h => by
  obtain ⟨m, rfl⟩ : ∃ m, n = k + m := ⟨n - k, by omega⟩
  rw [up_add, List.take_append_of_le_length (by rw [up_len]; exact Nat.le_refl _), List.take_of_length_le (by rw [up_len]; exact Nat.le_refl _)]
theorem all_cutN : ∀ {p : List Run} {k : Nat}, Chain p → all (cutN p k) = (all p).take k
  | [], k, _ => by simp [cutN, all]
  | x :: p, k, h => by
    by_cases h0 : k = 0
    · subst h0; simp [cutN_zero, all]
    obtain ⟨n, hn, n1, n2, n3, n4⟩ := h.head.nat
    unfold cutN
    rw [if_neg h0]
    by_cases h1 : x.m ≤ (k : Int)
    · rw [if_pos h1]
      show up x.t x.r x.m.toNat ++ all (cutN p (k - x.m.toNat)) = (up x.t x.r x.m.toNat ++ all p).take k
      rw [all_cutN h.tail, n3, List.take_append, up_len, List.take_of_length_le (l := up x.t x.r n) (by rw [up_len]; omega)]
    · rw [if_neg h1]
      have hx := x.ht
      have hr := x.hr
      show up (mkRun x.t x.r k).t (mkRun x.t x.r k).r (mkRun x.t x.r k).m.toNat ++ [] = (up x.t x.r x.m.toNat ++ all p).take k
      rw [mkRun_t hx, mkRun_r hr, mkRun_m (by omega), List.append_nil, Int.toNat_natCast, n3, List.take_append_of_le_length (by rw [up_len]; omega), up_take _ _ _ _ (by omega)]
theorem cutN_head : ∀ {p : List Run} {k : Nat} {z : Run}, (cutN p k).head? = some z → ∃ y q, p = y :: q ∧ z.t = y.t ∧ z.r = y.r
  | [], k, z, h => by simp [cutN] at h
  | x :: p, k, z, h => by
    refine ⟨x, p, rfl, ?_⟩
    unfold cutN at h
    split at h
    · simp at h
    · split at h
      · simp only [List.head?_cons, Option.some.injEq] at h
        subst h
        exact ⟨rfl, rfl⟩
      · simp only [List.head?_cons, Option.some.injEq] at h
        subst h
        exact ⟨mkRun_t x.ht, mkRun_r x.hr⟩
theorem chain_cons {x : Run} {p : List Run} (h1 : Go.Proofs.YtdackenaknieaaaGreat.Place.One x) (h2 : Chain p) (h3 : ∀ y, p.head? = some y → Go.Proofs.YtdackenaknieaaaGreat.Place.Next x y) : Chain (x :: p) := by
  cases p with
  | nil => exact h1
  | cons y p => exact ⟨h1, h3 y rfl, h2⟩
theorem chain_cutN : ∀ {p : List Run} {k : Nat}, Chain p → Chain (cutN p k)
  | [], k, _ => trivial
  | x :: p, k, h => by
    unfold cutN
    split
    · trivial
    · split
      · refine chain_cons h.head (chain_cutN h.tail) (fun z hz => ?_)
        obtain ⟨y, q, rfl, e1, e2⟩ := cutN_head hz
        have := h.2.1
        unfold Go.Proofs.YtdackenaknieaaaGreat.Place.Next at this ⊢
        rw [e1, e2]
        exact this
      · rename_i h0 h1
        obtain ⟨o1, o2, o3, o4, o5, o6⟩ := h.head
        show Go.Proofs.YtdackenaknieaaaGreat.Place.One _
        unfold Go.Proofs.YtdackenaknieaaaGreat.Place.One
        rw [mkRun_t x.ht, mkRun_r x.hr, mkRun_m (by omega)]
        omega
theorem cutN_len : ∀ (p : List Run) (k : Nat), (cutN p k).length ≤ p.length
  | [], _ => by simp [cutN]
  | x :: p, k => by
    unfold cutN
    split
    · simp
    · split
      · have := cutN_len p (k - x.m.toNat)
        simpa using this
      · simp
theorem may_cutN {p : List Run} {k : Nat} (h : mayB p = true) (hk : 1 ≤ k) : mayB (cutN p k) = true := by
  have hM := (mayB_iff p).1 h
  have hc := chain_cutN (k := k) hM.2.2.1
  have hl := cutN_len p k
  refine (mayB_iff _).2 ⟨?_, Nat.le_trans hl hM.2.1, hc, ?_⟩
  · cases p with
    | nil => have := hM.1; simp at this
    | cons x p =>
      unfold cutN
      rw [if_neg (by omega)]
      split <;> simp
  · have h1 := long_len hc
    have h2 := long_len hM.2.2.1
    have h3 := hM.2.2.2
    rw [all_cutN hM.2.2.1, List.length_take] at h1
    omega
theorem any_cutN {p : List Run} {k : Nat} (h : mayB p = true) : anyB (cutN p k) = true := by
  by_cases hk : k = 0
  · subst hk; rw [cutN_zero]; rfl
  · exact anyB_may (may_cutN h (by omega))
theorem cutN_cutN {p : List Run} {j k : Nat} (h : Chain p) (hj : j ≤ k) : cutN (cutN p k) j = cutN p j := by
  refine all_inj (chain_cutN (chain_cutN h)) (chain_cutN h) ?_
  rw [all_cutN (chain_cutN h), all_cutN h, all_cutN h, List.take_take, Nat.min_eq_left hj]
theorem cutN_all {p : List Run} (h : Chain p) : cutN p (all p).length = p := by
  refine all_inj (chain_cutN h) h ?_
  rw [all_cutN h, List.take_length]
/-- The last stamp of the first ones. -/
theorem last_cutN {p : List Run} {k : Nat} (h : mayB p = true) (hk : k < (all p).length) : lastV (cutN p (k + 1)) = ((((all p).getD k zid).t : Int), (((all p).getD k zid).r : Int)) := by
  have hM := (mayB_iff p).1 h
  refine lastV_of (P := (all p).take k) (may_cutN h (by omega)) ?_
  rw [all_cutN hM.2.2.1, List.take_succ_eq_append_getElem hk, getD_id hk]
where
  getD_id {l : List Id} {j : Nat} (h : j < l.length) : l.getD j zid = l[j]'h := by rw [List.getD_eq_getElem?_getD, List.getElem?_eq_getElem h]; rfl

/-! ### What counts -/
/-- On how many stamps of its place one stands. -/
def manyN (o : Opn) : Nat := (all o.pl).length - offs o
/-- The content that is homed in a section, by live marks. -/
def inL (l live : List Opn) (s : Id) : List Opn := l.filter (fun o => contB o && decide (homeM live o.pl = s))
/-- Does content that is homed in a section count? -/
def isB (l live : List Opn) (s : Id) (o : Opn) : Bool := (List.range (manyN o)).all (fun k => !decide (homeM live (cutN o.pl (k + 1)) = s) || hasO l ((all o.pl).getD k zid))
theorem isB_iff {l live : List Opn} {s : Id} {o : Opn} : isB l live s o = true ↔ ∀ k, k < manyN o → homeM live (cutN o.pl (k + 1)) = s → hasO l ((all o.pl).getD k zid) = true := by
  unfold isB
  rw [List.all_eq_true]
  constructor
  · intro h k hk e
    have := h k (List.mem_range.2 hk)
    simpa [e] using this
  · intro h k hk
    by_cases e : homeM live (cutN o.pl (k + 1)) = s
    · rw [h k (List.mem_range.1 hk) e, Bool.or_true]
    · simp [e]
def countL (l live : List Opn) (s : Id) : List Opn := (inL l live s).filter (isB l live s)
def homedL (l : List Opn) (s : Id) : List Opn := if spanE l s = 0 then inL l (livesM l l) s else []
def countsL (l : List Opn) (s : Id) : List Opn := if spanE l s = 0 then countL l (livesM l l) s else []
def versionL (l : List Opn) (s : Id) : List Clocks.Tm := if spanE l s = 0 then Clocks.among ((countL l (livesM l l) s).map idO) else []
theorem spanE_zero {l : List Opn} {s : Id} : spanE l s = 0 ↔ Bag l ∧ 0 ≤ whereM (livesM l l) s := by
  unfold spanE
  by_cases h : bagB l = true
  · rw [if_pos h]
    by_cases h2 : 0 ≤ whereM (livesM l l) s
    · simp [h2, (bagB_iff l).1 h]
    · simp [h2]
  · have : ¬ Bag l := fun hb => h ((bagB_iff l).2 hb)
    simp [h, this]
theorem spanE_cases (l : List Opn) (s : Id) : spanE l s = 0 ∨ spanE l s = 8 ∨ spanE l s = 130 := by
  unfold spanE
  split
  · split
    · exact .inl rfl
    · exact .inr (.inr rfl)
  · exact .inr (.inl rfl)
theorem mem_inL {l live : List Opn} {s : Id} {o : Opn} : o ∈ inL l live s ↔ o ∈ l ∧ contB o = true ∧ homeM live o.pl = s := by
  unfold inL; rw [List.mem_filter]; simp
theorem mem_countL {l live : List Opn} {s : Id} {o : Opn} : o ∈ countL l live s ↔ (o ∈ l ∧ contB o = true ∧ homeM live o.pl = s) ∧ isB l live s o = true := by
  unfold countL; rw [List.mem_filter, mem_inL]
theorem inL_sub (l live : List Opn) (s : Id) : (inL l live s).Sublist l := List.filter_sublist
theorem countL_sub (l live : List Opn) (s : Id) : (countL l live s).Sublist l := List.filter_sublist.trans (inL_sub l live s)
/-! ### The version: a set of stamps -/
theorem among_has {l : List Id} (hm : ∀ a ∈ l, Clocks.mayI a) (hl : l.length ≤ 1024) (a : Id) : Clocks.hasC (Clocks.among l) a = decide (a ∈ l) := by
  obtain ⟨h1, _, h3⟩ := Clocks.among_ok l hm hl
  rw [Clocks.hasC_may ((Clocks.mayC_iff _).2 h1), Bool.eq_iff_iff, Spans.inB_iff, h3, decide_eq_true_iff]
  constructor
  · rintro ⟨b, hb, e1, e2⟩
    rwa [show a = b from Id.ext' e2.symm e1.symm]
  · exact fun h => ⟨a, h, rfl, rfl⟩
theorem among_cnt (l : List Id) : (∀ a ∈ l, Clocks.mayI a) → l.length ≤ 1024 → l.Nodup → Clocks.manyC (Clocks.among l) = l.length := by
  refine Clocks.list_snoc_ind (P := fun l => (∀ a ∈ l, Clocks.mayI a) → l.length ≤ 1024 → l.Nodup → Clocks.manyC (Clocks.among l) = l.length) ?_ ?_ l
  · intro _ _ _; rfl
  · intro l x ih hm hl hd
    rw [List.length_append, List.length_singleton] at hl ⊢
    have hd' := List.nodup_append.1 hd
    have hml : ∀ a ∈ l, Clocks.mayI a := fun a ha => hm a (by simp [ha])
    have i := ih hml (by omega) hd'.1
    have hx := hm x (by simp)
    have h1 := Clocks.among_ok l hml (by omega)
    have h2 := Clocks.one_ok hx
    rw [Clocks.among_snoc, Clocks.manyC_parts h1.1 h2, Clocks.manyC_one]
    have hno : x ∉ l := fun h => hd'.2.2 x h x (by simp) rfl
    have : Clocks.leftC (Clocks.among l) (Clocks.one x) = Clocks.among l := by
      rw [← Clocks.clk_spn h1.1]
      unfold Clocks.leftC
      refine Clocks.clk_congr fun r _ => ?_
      rw [Clocks.clk_spn h1.1]
      have f1 := Clocks.sp_fine h1.1 r
      have f2 := Clocks.sp_fine h2 r
      have lo := Spans.left_ok f1 f2.all
      refine Spans.uniq lo.1 f1 (fun n => ?_)
      rw [lo.2]
      refine ⟨fun h => h.1, fun h => ⟨h, fun h3 => ?_⟩⟩
      obtain ⟨a, ha, e1, e2⟩ := (h1.2.2 r n).1 h
      have hon := Clocks.hasC_one hx a
      rw [Clocks.hasC_may ((Clocks.mayC_iff _).2 h2)] at hon
      have : Spans.inB (Clocks.spn (Clocks.one x) a.r) a.t = true := (Spans.inB_iff _ _).2 (by rw [e1, e2]; exact h3)
      rw [this] at hon
      have e := of_decide_eq_true hon.symm
      subst e
      exact hno ha
    rw [this, i]
theorem mayO_mayI {o : Opn} (h : mayO o = true) : Clocks.mayI (idO o) := by
  have h1 := (mayO_parts h).1
  unfold may at h1
  unfold Clocks.mayI idO
  simpa using h1
theorem count_may {l : List Opn} (hb : Bag l) (live : List Opn) (s : Id) : (∀ a ∈ (countL l live s).map idO, Clocks.mayI a) ∧ ((countL l live s).map idO).length ≤ 1024 ∧ ((countL l live s).map idO).Nodup := by
  refine ⟨fun a ha => ?_, ?_, ?_⟩
  · obtain ⟨o, ho, rfl⟩ := List.mem_map.1 ha
    exact mayO_mayI (hb.2.1 o (mem_countL.1 ho).1.1)
  · rw [List.length_map]
    exact Nat.le_trans (countL_sub l live s).length_le hb.1
  · unfold List.Nodup
    rw [List.pairwise_map]
    exact (hb.2.2.sublist (countL_sub l live s)).imp (fun h => lessO_ne h)
end Go.Proofs.YtdackenaknieaaaGreat.Covers

/- Homes: sections and spans, one by one. Conditions: none. -/
namespace Go.Proofs.YtdackenaknieaaaGreat.Homes
open Ops Stamp Bags Marks Go.Proofs.YtdackenaknieaaaGreat.Place

theorem span_at {l : List Opn} (hb : Bag l) {i : Nat} (hi : i < (livesM l l).length + 1) :
    fromL l ((sectsM (livesM l l)).getD i zid) = beginM (livesM l l) i ∧ toL l ((sectsM (livesM l l)).getD i zid) = beginM (livesM l l) ((i : Int) + 1) ∧ spanE l ((sectsM (livesM l l)).getD i zid) = 0 := by
  have hw := whereM_at (liv_bag hb) hi
  unfold fromL toL spanE
  rw [hw, (bagB_iff l).2 hb]
  rw [if_pos ⟨rfl, by omega⟩, if_pos ⟨rfl, by omega⟩, if_pos rfl, if_pos (by omega)]
  exact ⟨rfl, rfl, rfl⟩
theorem home_at {live : List Opn} (h : Liv live) {p : List Run} {i : Nat} (hi : i < live.length + 1) : (sectsM live).getD i zid = homeM live p ↔ i = cntM live p := by
  rw [homeM_is h]
  constructor
  · intro e
    exact sects_inj h hi (by have := cntM_le live p; omega) e
  · rintro rfl; rfl
end Go.Proofs.YtdackenaknieaaaGreat.Homes

/- What counts is closed; with content, or a mark, more all that counted counts; all content is homed in one section. Conditions: none. -/
namespace Go.Proofs.YtdackenaknieaaaGreat.Covers
open Ops Stamp Bags Marks Homes Go.Proofs.YtdackenaknieaaaGreat.Place

theorem manyN_le (o : Opn) : manyN o ≤ (all o.pl).length := Nat.sub_le _ _
/-- What counts is closed. -/
theorem count_has {l live : List Opn} {s : Id} {o : Opn} (h : o ∈ countL l live s) {k : Nat} (hk : k < manyN o) (e : homeM live (cutN o.pl (k + 1)) = s) : hasO l ((all o.pl).getD k zid) = true :=
  isB_iff.1 (mem_countL.1 h).2 k hk e
theorem count_closed {l live : List Opn} (hb : Bag l) {s : Id} {o y : Opn} (h : o ∈ countL l live s) {k : Nat} (hk : k < manyN o) (e : homeM live (cutN o.pl (k + 1)) = s)
    (hf : findO l ((all o.pl).getD k zid) = some y) (hy : y.k = 1) (hp : y.pl = cutN o.pl (k + 1)) : y ∈ countL l live s := by
  have ho := (mem_countL.1 h)
  have hm := (mayO_parts (hb.2.1 o ho.1.1)).2.1
  have hc := ((mayB_iff _).1 hm).2.2.1
  have hl := manyN_le o
  refine mem_countL.2 ⟨⟨(findO_some hf).1, by unfold contB; simp [hy], by rw [hp]; exact e⟩, isB_iff.2 fun j hj e2 => ?_⟩
  have hlen : (all y.pl).length = k + 1 := by rw [hp, all_cutN hc, List.length_take]; omega
  have hoff : offs y = 1 := by unfold offs ownB; simp [hy]
  have hj2 : j < k := by unfold manyN at hj; rw [hlen, hoff] at hj; omega
  rw [hp, cutN_cutN hc (by omega)] at e2
  have := isB_iff.1 ho.2 j (by omega) e2
  rw [hp, all_cutN hc, List.getD_eq_getElem?_getD, List.getElem?_take, if_pos (by omega), ← List.getD_eq_getElem?_getD]
  exact this

theorem want_no {l : List Opn} {o : Opn} (h4 : o.k ≠ 4) (p : List Run) : wantM l o p = if (hasO l (idO o) = false ∧ o.k = 2 ∧ ended l (idO o) = false) ∧ homeM (livesM l l) p = homeM (livesM l l) o.pl ∧ cmp o.pl p ≤ 0 then idO o else homeM (livesM l l) p := by
  unfold wantM
  rw [if_neg (fun h => h4 h.2.1)]
/-- One operation more, and no join: what was homed in two sections stays so. -/
theorem grow_home {l : List Opn} {o : Opn} {p q : List Run} (hl : Bag l) (ho : mayO o = true) (hw : Bag (withO l o)) (h4 : o.k ≠ 4) (hp : anyB p = true) (hq : anyB q = true)
    (e : homeM (livesM (withO l o) (withO l o)) q = homeM (livesM (withO l o) (withO l o)) p) : homeM (livesM l l) q = homeM (livesM l l) p := by
  rw [(home_more hl ho hw hp).1, (home_more hl ho hw hq).1] at e
  rw [want_no h4, want_no h4] at e
  have hne : ∀ r, hasO l (idO o) = false → homeM (livesM l l) r ≠ idO o := fun r hn e2 => by
    rcases homeM_sect (livesM l l) r with h | ⟨y, hy, h⟩
    · exact id_ne_zid ho (e2.symm.trans h)
    · exact hasO_no.1 hn y (mem_livesM.1 hy).1 (h.symm.trans e2)
  split at e
  · rename_i h1
    split at e
    · rename_i h2
      exact h1.2.1.trans h2.2.1.symm
    · exact absurd e.symm (hne p h1.1.1)
  · split at e
    · rename_i h2
      exact absurd e (hne q h2.1.1)
    · exact e
theorem grow_same {l : List Opn} {o : Opn} {p : List Run} (hl : Bag l) (ho : mayO o = true) (hw : Bag (withO l o)) (h4 : o.k ≠ 4) (h2 : o.k ≠ 2) (hp : anyB p = true) :
    homeM (livesM (withO l o) (withO l o)) p = homeM (livesM l l) p := by
  rw [(home_more hl ho hw hp).1]
  rw [want_no h4, if_neg (fun h => h2 h.1.2.1)]
theorem count_grows {l : List Opn} {o c : Opn} {s : Id} (hl : Bag l) (ho : mayO o = true) (hw : Bag (withO l o)) (h4 : o.k ≠ 4) (hc : c ∈ countL l (livesM l l) s) :
    c ∈ countL (withO l o) (livesM (withO l o) (withO l o)) (homeM (livesM (withO l o) (withO l o)) c.pl) := by
  have h := mem_countL.1 hc
  have hm := (mayO_parts (hl.2.1 c h.1.1)).2.1
  refine mem_countL.2 ⟨⟨mem_withO.2 (.inl h.1.1), h.1.2.1, rfl⟩, isB_iff.2 fun k hk e => ?_⟩
  have e2 := grow_home hl ho hw h4 (anyB_may hm) (any_cutN hm) e
  have := isB_iff.1 h.2 k hk (e2.trans h.1.2.2)
  obtain ⟨x, hx, ex⟩ := hasO_iff.1 this
  exact hasO_iff.2 ⟨x, mem_withO.2 (.inl hx), ex⟩
/-- A place's home is a section. -/
theorem home_where {l : List Opn} (hl : Bag l) (p : List Run) : spanE l (homeM (livesM l l) p) = 0 := by
  have hL := liv_bag hl
  refine spanE_zero.2 ⟨hl, ?_⟩
  rw [homeM_is hL, whereM_at hL (by have := cntM_le (livesM l l) p; omega)]
  omega
end Go.Proofs.YtdackenaknieaaaGreat.Covers

/- A place gone back, from its end on: what is found by that. Conditions: a bag, a section of it, its content. -/
namespace Go.Proofs.YtdackenaknieaaaGreat.Covers
open Ops Stamp Bags Marks Homes Go.Proofs.YtdackenaknieaaaGreat.Place

/-- Does a span hold a place? -/
def homB (F T p : List Run) : Bool := decide (cmp F p ≤ 0) && (decide (T.length = 0) || decide (cmp p T < 0))
theorem begin_any {live : List Opn} (h : Liv live) (a : Int) : anyB (beginM live a) = true := by
  unfold beginM
  split
  · rename_i hx
    have hj : (a - 1).toNat < live.length := by omega
    rw [List.getD_eq_getElem?_getD, List.getElem?_eq_getElem hj]
    exact anyB_may (mayO_parts (h.may _ (List.getElem_mem hj)).1).2.1
  · rfl
theorem from_any {l : List Opn} {s : Id} (hE : spanE l s = 0) : anyB (fromL l s) = true := by
  obtain ⟨hb, hs⟩ := spanE_zero.1 hE
  unfold fromL
  rw [if_pos ⟨(bagB_iff l).2 hb, hs⟩]
  exact begin_any (liv_bag hb) _
theorem homB_is {l : List Opn} {s : Id} (hE : spanE l s = 0) {p : List Run} (hp : anyB p = true) : homB (fromL l s) (toL l s) p = decide (homeM (livesM l l) p = s) := by
  obtain ⟨hb, hs⟩ := spanE_zero.1 hE
  have hw : whereN (livesM l l) s < (livesM l l).length + 1 := by
    unfold whereM at hs
    split at hs
    · assumption
    · omega
  have e := where_of hw
  obtain ⟨i, hi⟩ : ∃ i, whereN (livesM l l) s = i := ⟨_, rfl⟩
  rw [hi] at hw e
  subst e
  obtain ⟨e1, e2, _⟩ := span_at hb hw
  rw [e1, e2]
  unfold homB
  rw [span_home (liv_bag hb) hp hw, decide_eq_decide, eq_comm (a := homeM _ _), home_at (liv_bag hb) hw]

/-! ### Places cut are ahead -/
theorem cut_ahead {p : List Run} (h : mayB p = true) {j k : Nat} (hj : j ≤ k) : Go.Proofs.YtdackenaknieaaaGreat.Place.hold (all (cutN p j)) (all (cutN p k)) = 0 ∨ Go.Proofs.YtdackenaknieaaaGreat.Place.hold (all (cutN p j)) (all (cutN p k)) = -1 := by
  have hc := ((mayB_iff p).1 h).2.2.1
  rw [all_cutN hc, all_cutN hc]
  have e : (all p).take k = (all p).take j ++ ((all p).take k).drop j := by
    have := List.take_append_drop j ((all p).take k)
    rw [List.take_take, Nat.min_eq_left hj] at this
    exact this.symm
  rw [e]
  cases ((all p).take k).drop j with
  | nil => left; rw [List.append_nil]; exact (hold_eq _ _).2 rfl
  | cons a m => right; exact hold_front _ a m
theorem cmp_any {p q : List Run} (hp : anyB p = true) (hq : anyB q = true) : cmp p q = Go.Proofs.YtdackenaknieaaaGreat.Place.hold (all p) (all q) := by
  unfold cmp; rw [if_pos ⟨hp, hq⟩]
theorem cmp_back {F p : List Run} (hF : anyB F = true) (h : mayB p = true) {j k : Nat} (hj : j ≤ k) (hk : cmp (cutN p k) F < 0) : cmp F (cutN p j) > 0 := by
  rw [cmp_any (any_cutN h) hF] at hk
  rw [cmp_any hF (any_cutN h)]
  have h1 := hold_range (all (cutN p k)) (all F)
  have h2 := hold_neg (all (cutN p j)) (all F)
  have h3 : Go.Proofs.YtdackenaknieaaaGreat.Place.hold (all (cutN p j)) (all F) = -1 := by
    rcases cut_ahead h hj with e | e
    · rw [(hold_eq _ _).1 e]; omega
    · exact hold_trans _ _ _ e (by omega)
  omega

/-! ### The walk -/
/-- From a stamp on, all that is homed in the section is there. -/
def okN (l : List Opn) (s : Id) (o : Opn) (k : Nat) : Prop := ∀ j, k ≤ j → j < (all o.pl).length → homeM (livesM l l) (cutN o.pl (j + 1)) = s → hasO l ((all o.pl).getD j zid) = true
theorem ok_end (l : List Opn) (s : Id) (o : Opn) : okN l s o (all o.pl).length := fun j h1 h2 => by omega
theorem ok_zero {l : List Opn} {s : Id} {o : Opn} (h : okN l s o 0) : isB l (livesM l l) s o = true :=
  isB_iff.2 fun k hk e => h k (by omega) (by have := manyN_le o; omega) e
theorem ok_break {l : List Opn} {s : Id} {o : Opn} {k : Nat} (hE : spanE l s = 0) (ho : o ∈ l) (h : okN l s o k) (hk : cmp (cutN o.pl k) (fromL l s) < 0) : isB l (livesM l l) s o = true := by
  have hm := (mayO_parts ((spanE_zero.1 hE).1.2.1 o ho)).2.1
  refine isB_iff.2 fun j hj e => ?_
  by_cases hjk : k ≤ j
  · exact h j hjk (by have := manyN_le o; omega) e
  · exfalso
    have h1 := cmp_back (from_any hE) hm (show j + 1 ≤ k by omega) hk
    have h2 := homB_is hE (any_cutN (k := j + 1) hm)
    rw [decide_eq_true e] at h2
    unfold homB at h2
    rw [decide_eq_false (by omega)] at h2
    simp at h2
theorem ok_step {l : List Opn} {s : Id} {o : Opn} {k : Nat} (h : okN l s o (k + 1)) (hh : hasO l ((all o.pl).getD k zid) = true) : okN l s o k := fun j h1 h2 e => by
  by_cases hjk : j = k
  · subst hjk; exact hh
  · exact h j (by omega) h2 e
theorem own_last {o : Opn} (h : mayO o = true) (hk : ownB o = true) : (all o.pl).getD ((all o.pl).length - 1) zid = idO o := by
  have h3 := (mayO_parts h).2.2
  have hl := lastV_all (mayO_parts h).2.1
  unfold kindB kindF at h3
  unfold ownB at hk
  rw [hl] at h3
  have : o.k = 1 ∨ o.k = 2 := by simpa using hk
  have h4 : (((((all o.pl).getD ((all o.pl).length - 1) zid).t : Int), (((all o.pl).getD ((all o.pl).length - 1) zid).r : Int)) : Int × Int) = ((o.t : Int), (o.r : Int)) := by
    rcases this with e | e
    · rw [e] at h3; simp at h3; simpa using h3.1
    · rw [e] at h3; simp at h3; simpa using h3.1
  obtain ⟨h5, h6⟩ := Prod.mk.inj h4
  exact Id.ext' (by show _ = o.t; omega) (by show _ = o.r; omega)
theorem ok_no {l : List Opn} {s : Id} {o : Opn} {k : Nat} (hE : spanE l s = 0) (ho : o ∈ l) (hB : homB (fromL l s) (toL l s) o.pl = true) (hk : k < (all o.pl).length)
    (h1 : ¬ cmp (cutN o.pl (k + 1)) (fromL l s) < 0) (h2 : hasO l ((all o.pl).getD k zid) = false) : isB l (livesM l l) s o = false := by
  have hO := (spanE_zero.1 hE).1.2.1 o ho
  have hm := (mayO_parts hO).2.1
  have hc := ((mayB_iff o.pl).1 hm).2.2.1
  have hkm : k < manyN o := by
    unfold manyN offs
    by_cases hw : ownB o = true
    · rw [if_pos hw]
      by_cases he : k = (all o.pl).length - 1
      · rw [he, own_last hO hw] at h2
        exact absurd rfl (hasO_no.1 h2 o ho)
      · omega
    · rw [if_neg hw]; omega
  have hh : homeM (livesM l l) (cutN o.pl (k + 1)) = s := by
    have e := homB_is hE (any_cutN (k := k + 1) hm)
    have hF := from_any hE
    have e2 : homB (fromL l s) (toL l s) (cutN o.pl (k + 1)) = true := by
      unfold homB at hB ⊢
      rw [Bool.and_eq_true, Bool.or_eq_true, decide_eq_true_iff, decide_eq_true_iff, decide_eq_true_iff] at hB ⊢
      refine ⟨?_, hB.2.imp id fun h => ?_⟩
      · rw [cmp_any hF (any_cutN hm)]
        rw [cmp_any (any_cutN hm) hF] at h1
        have := hold_neg (all (cutN o.pl (k + 1))) (all (fromL l s))
        omega
      · have hT : anyB (toL l s) = true := by
          obtain ⟨hb, hs⟩ := spanE_zero.1 hE
          unfold toL
          rw [if_pos ⟨(bagB_iff l).2 hb, hs⟩]
          exact begin_any (liv_bag hb) _
        rw [cmp_any (anyB_may hm) hT] at h
        rw [cmp_any (any_cutN hm) hT]
        have h3 := hold_range (all o.pl) (all (toL l s))
        have h4 := cut_ahead hm (show k + 1 ≤ (all o.pl).length by omega)
        rw [cutN_all hc] at h4
        rcases h4 with h5 | h5
        · rw [(hold_eq _ _).1 h5]; omega
        · have := hold_trans _ _ _ h5 (show Go.Proofs.YtdackenaknieaaaGreat.Place.hold (all o.pl) (all (toL l s)) = -1 by omega)
          omega
    rw [e2] at e
    exact of_decide_eq_true e.symm
  cases hz : isB l (livesM l l) s o
  · rfl
  · have := isB_iff.1 hz k hkm hh
    rw [this] at h2
    cases h2

/-! ### The last stamp taken -/
/-- A place without its last stamp, by its last run. -/
def downL (p : List Run) : List Run := p.take (p.length - 1) ++ (if (p.getD (p.length - 1) zrun).m = 1 then [] else [mkRun (p.getD (p.length - 1) zrun).t (p.getD (p.length - 1) zrun).r ((p.getD (p.length - 1) zrun).m - 1)])
theorem down_is : ∀ {p : List Run}, Chain p → 0 < p.length → cutN p ((all p).length - 1) = downL p
  | [], _, h => by simp at h
  | [x], hc, _ => by
    obtain ⟨n, hn, n1, n2, n3, n4⟩ := hc.head.nat
    have e : (all [x]).length = n := by
      show (up x.t x.r x.m.toNat ++ []).length = n
      rw [List.append_nil, up_len]; omega
    rw [e]
    unfold downL cutN
    simp only [List.length_singleton, Nat.sub_self, List.take_zero, List.nil_append, List.getD_cons_zero]
    by_cases h1 : x.m = 1
    · rw [if_pos h1, if_pos (by omega)]
    · rw [if_neg h1, if_neg (by omega), if_neg (by omega)]
      congr 2
      omega
  | x :: y :: p, hc, _ => by
    obtain ⟨n, hn, n1, n2, n3, n4⟩ := hc.head.nat
    have ih := down_is hc.tail (by simp)
    obtain ⟨m, hm, m1, m2, m3, m4⟩ := hc.tail.head.nat
    have e2 : 1 ≤ (all (y :: p)).length := by
      show 1 ≤ (up y.t y.r y.m.toNat ++ all p).length
      rw [List.length_append, up_len]; omega
    have e : (all (x :: y :: p)).length = n + (all (y :: p)).length := by
      show (up x.t x.r x.m.toNat ++ all (y :: p)).length = _
      rw [List.length_append, up_len]; omega
    have e3 : cutN (x :: y :: p) ((all (x :: y :: p)).length - 1) = x :: cutN (y :: p) ((all (y :: p)).length - 1) := by
      rw [e]
      conv => lhs; unfold cutN
      rw [if_neg (by omega), if_pos (by omega)]
      congr 2
      omega
    rw [e3, ih]
    unfold downL
    simp
theorem cut_down {p : List Run} (h : mayB p = true) {k : Nat} (hk : k < (all p).length) : cutN p k = downL (cutN p (k + 1)) := by
  have hc := ((mayB_iff p).1 h).2.2.1
  have hm := may_cutN (k := k + 1) h (by omega)
  have e : (all (cutN p (k + 1))).length = k + 1 := by rw [all_cutN hc, List.length_take]; omega
  rw [← down_is (chain_cutN hc) ((mayB_iff _).1 hm).1, e, cutN_cutN hc (by omega)]
  rfl
end Go.Proofs.YtdackenaknieaaaGreat.Covers

/- A map from stamps to nothing, as a set of stamps. Conditions: none. -/
namespace Go.Proofs.YtdackenaknieaaaGreat
open Go.RowKit Go.WideShapes
open Go.Maps (Keyed IsMap)

theorem laidOut : laidOutB Tryz.prog = true := by kernel_rfl
theorem idRow : (28 : TypeId) < Tryz.prog.types.size := of_decide_eq_true (by kernel_rfl)
theorem idWide : (match Tryz.prog.underlying 28 with | some (.array _ _) | some (.struct _) => true | _ => false) = true := by rw [Tryz.underlying28]
set_option maxRecDepth 100000 in
theorem idLaw : Keyed Tryz.prog 28 := Keyed.of_law (deep_law_laid laidOut (m := 2) (by omega) idRow (by kernel_rfl) idWide)
theorem idType : Tryz.prog.keyType 28 = true := by kernel_rfl
theorem idCells : Tryz.prog.cellsOf 28 = 2 := by kernel_rfl
theorem idCell0 : Tryz.prog.cellsOf 26 = 1 := by kernel_rfl
theorem idCell1 : Tryz.prog.cellsOf 5 = 1 := by kernel_rfl
theorem idKey_some (a : Id) : ∃ l, keyOf Tryz.prog 28 (idv a) = some l := by
  obtain ⟨n, hn⟩ : ∃ n, Tryz.prog.types.size = n + 1 := by
    have h := idRow
    generalize Tryz.prog.types.size = s at h ⊢
    cases s with
    | zero => exact absurd h (Nat.not_lt_zero _)
    | succ n => exact ⟨n, rfl⟩
  have w0 : (Lit.int .u32 (a.t : Int)).wf = true := by
    have h1 : IntKind.u32.min = 0 := by decide
    have h2 : IntKind.u32.max = 4294967295 := by decide
    have := a.ht
    simp [Lit.wf, h1, h2]
    omega
  have w1 : (Lit.int .u8 (a.r : Int)).wf = true := by
    have h1 : IntKind.u8.min = 0 := by decide
    have h2 : IntKind.u8.max = 255 := by decide
    have := a.hr
    simp [Lit.wf, h1, h2]
    omega
  unfold keyOf idv
  rw [Tryz.underlying28, idType, hn]
  simp [Value.formed, Program.keyLits, Tryz.underlying28, Tryz.underlying26, Tryz.underlying5, idCells, idCell0, idCell1, w0, w1, Value.cells]
/-- A stamp as a key. -/
noncomputable def key (a : Id) : Lit := (keyOf Tryz.prog 28 (idv a)).getD (.bool true)
theorem key_of (a : Id) : keyOf Tryz.prog 28 (idv a) = some (key a) := by
  obtain ⟨l, hl⟩ := idKey_some a
  unfold key
  rw [hl]
  rfl
theorem key_inj {a b : Id} (h : key a = key b) : a = b := by
  have h1 := key_of a
  rw [h] at h1
  have := idLaw.inj h1 (key_of b)
  unfold idv at this
  simp at this
  exact Id.ext' (by omega) (by omega)
/-- Block b is a map with just these stamps. -/
def SetI (w : World) (b n : Nat) (S : Id → Bool) : Prop := ∃ D : DataW Value, w.ownsMap Tryz.prog 28 unitElem b n D ∧ ∀ a : Id, Maps.has D (key a) = S a
theorem SetI.made (w : World) : SetI (w.alloc (.map #[] 0)) w.heap.size 0 (fun _ => false) := ⟨_, World.ownsMap_made w _ _ _, fun _ => rfl⟩
theorem SetI.keeps {w w' : World} {b n : Nat} {S : Id → Bool} (h : SetI w b n S) (hb : Below w.heap.size w w') : SetI w' b n S := by
  obtain ⟨D, ⟨es, clock, h1, h2, h3, h4⟩, h5⟩ := h
  exact ⟨D, ⟨es, clock, (hb.block b (Array.getElem?_eq_some_iff.1 h1).1).trans h1, h2, h3, h4⟩, h5⟩
theorem SetI.lt {w : World} {b n : Nat} {S : Id → Bool} (h : SetI w b n S) : b < w.heap.size := by
  obtain ⟨D, h1, _⟩ := h
  exact h1.lt
theorem SetI.kept {w w' : World} {b n : Nat} {S : Id → Bool} {row : Option Nat} (h : SetI w b n S) (hg : w.grownBy w' row) (hne : some b ≠ row) : SetI w' b n S := by
  obtain ⟨D, h1, h2⟩ := h
  exact ⟨D, h1.kept hg hne, h2⟩
theorem SetI.ext {w : World} {b n : Nat} {S T : Id → Bool} (h : SetI w b n S) (e : ∀ a, S a = T a) : SetI w b n T := by
  obtain ⟨D, h1, h2⟩ := h
  exact ⟨D, h1, fun a => (h2 a).trans (e a)⟩
set_option maxRecDepth 100000 in
/-- A store of one more, at the operation. -/
theorem wpList_put_set (w : World) {ops : Array Oper} {rest : List Oper} {o : Oper} {a : Act} {Q : Exit → Act → World → Prop}
    (hg : o.guard = none) (m x v : Operand) (t e : TypeId) (hop : o.op = Op.mapUpdate t m x v) (ht : Tryz.prog.underlying t = some (.map 28 e))
    (b n : Nat) (i : Id) (S : Id → Bool) (hM : SetI w b n S) (hn : n < 9223372036854775807) (hm : a.eval m = .map (some b)) (hx : a.eval x = .agg #[.int .u32 (i.t : Int), .int .u8 (i.r : Int)]) (hv : a.eval v = .agg #[])
    (hK : ∀ w', SetI w' b (n + 1) (fun k => decide (k = i) || S k) → w.grownBy w' (some b) → wpList Tryz.prog ops Q rest (a.put o.dst undef) w') : wpList Tryz.prog ops Q (o :: rest) a w := by
  obtain ⟨D, h1, h2⟩ := hM
  refine wpList_mapUpdate_own w hg m x v t hop 28 e idLaw ht unitElem b n D hm h1 (by unfold maxLen; omega) (idv i) (.agg #[]) (key i) hx hv (key_of i) (.agg []) [] unitElem_mk (fun w' h g => hK w' ⟨_, h, fun k => ?_⟩ g)
  by_cases hk : k = i
  · subst hk
    rw [Maps.has_put_same h1.isMap (idLaw.key (key_of k))]
    simp
  · rw [Maps.has_put_other (fun e => hk (key_inj e)), h2 k]
    simp [hk]
theorem del_size {w : World} {b n : Nat} {D : DataW Value} (h : w.ownsMap Tryz.prog 28 unitElem b n D) (i : Id) : decide (Maps.size (D.del (key i)) < Maps.size D) = Maps.has D (key i) := by
  have e := Maps.size_del (h.tidy idLaw) (k := key i)
  cases hh : Maps.has D (key i) <;> rw [hh] at e <;> simp at e
  · exact decide_eq_false (by omega)
  · exact decide_eq_true (by omega)
theorem del_has {D : DataW Value} {S : Id → Bool} (h : ∀ a : Id, Maps.has D (key a) = S a) (i : Id) : ∀ a : Id, Maps.has (D.del (key i)) (key a) = (S a && !decide (a = i)) := fun a => by
  by_cases e : a = i
  · subst e
    rw [Maps.has_del_same]
    simp
  · rw [Maps.has_del_other (fun k => e (key_inj k)), h a]
    simp [e]
end Go.Proofs.YtdackenaknieaaaGreat
