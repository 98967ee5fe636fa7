/- Live marks are sorted by their places, strictly; what one operation more makes of them. Conditions: none. -/
import Derived.Test.YtdgcokknaampdaaPk09
import Derived.Test.YtdgcokknaampdaaPk05

namespace Go.Proofs.Ytdgcokknaampdaa.Marks
open Ops Stamp Bags Go.Proofs.Ytdgcokknaampdaa.Place

def pre (a b : Opn) : Prop := cmp a.pl b.pl < 0
theorem cmp_may {a b : Opn} (ha : mayO a = true) (hb : mayO b = true) : cmp a.pl b.pl = Go.Proofs.Ytdgcokknaampdaa.Place.hold (all a.pl) (all b.pl) := by
  unfold cmp; rw [if_pos ⟨anyB_may (mayO_parts ha).2.1, anyB_may (mayO_parts hb).2.1⟩]
theorem hold_val : ∀ l m : List Id, Go.Proofs.Ytdgcokknaampdaa.Place.hold l m = -1 ∨ Go.Proofs.Ytdgcokknaampdaa.Place.hold l m = 0 ∨ Go.Proofs.Ytdgcokknaampdaa.Place.hold l m = 1 := hold_range
theorem pre_iff {a b : Opn} (ha : mayO a = true) (hb : mayO b = true) : pre a b ↔ Go.Proofs.Ytdgcokknaampdaa.Place.hold (all a.pl) (all b.pl) = -1 := by
  unfold pre
  rw [cmp_may ha hb]
  have := hold_val (all a.pl) (all b.pl)
  omega
theorem pre_trans {a b c : Opn} (ha : mayO a = true) (hb : mayO b = true) (hc : mayO c = true) (h : pre a b) (k : pre b c) : pre a c := by
  rw [pre_iff ha hb] at h
  rw [pre_iff hb hc] at k
  rw [pre_iff ha hc]
  exact hold_trans _ _ _ h k
theorem pre_irrefl {a : Opn} (ha : mayO a = true) : ¬ pre a a := by
  rw [pre_iff ha ha, (hold_eq _ _).2 rfl]; decide
theorem pre_asymm {a b : Opn} (ha : mayO a = true) (hb : mayO b = true) (h : pre a b) : ¬ pre b a := fun k => pre_irrefl ha (pre_trans ha hb ha h k)
/-- Marks of unlike stamps have unlike places. -/
theorem mark_ne {a b : Opn} (ha : mayO a = true) (hb : mayO b = true) (ka : a.k = 2) (kb : b.k = 2) (h : idO a ≠ idO b) : pre a b ∨ pre b a := by
  rw [pre_iff ha hb, pre_iff hb ha, hold_neg (all a.pl) (all b.pl)]
  have h0 : Go.Proofs.Ytdgcokknaampdaa.Place.hold (all a.pl) (all b.pl) ≠ 0 := fun e => by
    have ma := (mayB_iff _).1 (mayO_parts ha).2.1
    have mb := (mayB_iff _).1 (mayO_parts hb).2.1
    have e2 := (hold_same ma.2.2.1 mb.2.2.1).1 e
    apply h
    rw [← mark_tgt ha ka, ← mark_tgt hb kb]
    unfold tgt
    simp only [e2]
  have := hold_val (all a.pl) (all b.pl)
  omega

/-! ### Put in its place -/
theorem insM_nil (x : Opn) : insM [] x = [x] := rfl
theorem insM_cons (y : Opn) (out : List Opn) (x : Opn) : insM (y :: out) x = if ahead y x = true then y :: insM out x else x :: y :: out := by
  unfold insM atM
  by_cases h : ahead y x = true
  · rw [if_pos h, List.takeWhile_cons_of_pos (by simpa using h)]; simp
  · rw [if_neg h, List.takeWhile_cons_of_neg (by simpa using h)]; simp
theorem ahead_iff {a b : Opn} : ahead a b = true ↔ pre a b := by unfold ahead pre; exact decide_eq_true_iff
theorem ins_sorted {x : Opn} (hx : mayO x = true) (kx : x.k = 2) : ∀ {out : List Opn}, out.Pairwise pre → (∀ y ∈ out, mayO y = true ∧ y.k = 2) → (∀ y ∈ out, idO y ≠ idO x) → (insM out x).Pairwise pre
  | [], _, _, _ => by rw [insM_nil]; exact List.pairwise_singleton _ _
  | y :: out, hs, hm, hne => by
    have hs' := List.pairwise_cons.1 hs
    have hy := hm y (by simp)
    rw [insM_cons]
    by_cases h : ahead y x = true
    · rw [if_pos h]
      refine List.Pairwise.cons (fun z hz => ?_) (ins_sorted hx kx hs'.2 (fun z hz => hm z (by simp [hz])) (fun z hz => hne z (by simp [hz])))
      rcases mem_insM.1 hz with hz | rfl
      · exact hs'.1 z hz
      · exact ahead_iff.1 h
    · rw [if_neg h]
      have hxy : pre x y := by
        rcases mark_ne hy.1 hx hy.2 kx (hne y (by simp)) with h1 | h1
        · exact absurd (ahead_iff.2 h1) h
        · exact h1
      refine List.Pairwise.cons (fun z hz => ?_) hs
      rcases List.mem_cons.1 hz with rfl | hz
      · exact hxy
      · exact pre_trans hx hy.1 (hm z (by simp [hz])).1 hxy (hs'.1 z hz)
theorem lives_sorted {L : List Opn} : ∀ {l : List Opn}, (∀ o ∈ l, mayO o = true) → l.Pairwise lessO → (livesM L l).Pairwise pre := by
  intro l
  induction l using Clocks.list_snoc_ind with
  | h0 => intro _ _; exact .nil
  | h1 l x ih =>
    intro hm hp
    have hp' := List.pairwise_append.1 hp
    have ih' := ih (fun o ho => hm o (by simp [ho])) hp'.1
    rw [livesM_snoc]
    unfold stepM
    split
    · rename_i h
      refine ins_sorted (hm x (by simp)) h.1 ih' (fun y hy => ?_) (fun y hy => ?_)
      · have := mem_livesM.1 hy; exact ⟨hm y (by simp [this.1]), this.2.1⟩
      · have := mem_livesM.1 hy; exact lessO_ne (hp'.2.2 y this.1 x (by simp))
    · exact ih'
theorem sorted_ext : ∀ {l m : List Opn}, (∀ x ∈ l, mayO x = true) → (∀ x ∈ m, mayO x = true) → l.Pairwise pre → m.Pairwise pre → (∀ x, x ∈ l ↔ x ∈ m) → l = m
  | [], [], _, _, _, _, _ => rfl
  | [], y :: m, _, _, _, _, h => by have := (h y).2 (by simp); simp at this
  | x :: l, [], _, _, _, _, h => by have := (h x).1 (by simp); simp at this
  | x :: l, y :: m, al, am, hl, hm, h => by
    have hl' := List.pairwise_cons.1 hl
    have hm' := List.pairwise_cons.1 hm
    have e : x = y := by
      rcases List.mem_cons.1 ((h x).1 (by simp)) with e | hx
      · exact e
      · rcases List.mem_cons.1 ((h y).2 (by simp)) with e | hy
        · exact e.symm
        · exact absurd (hm'.1 x hx) (pre_asymm (al x (by simp)) (am y (by simp)) (hl'.1 y hy))
    subst e
    rw [sorted_ext (fun z hz => al z (by simp [hz])) (fun z hz => am z (by simp [hz])) hl'.2 hm'.2 (fun z => by
      constructor
      · intro hz
        rcases List.mem_cons.1 ((h z).1 (by simp [hz])) with rfl | hz'
        · exact absurd (hl'.1 z hz) (pre_irrefl (al z (by simp)))
        · exact hz'
      · intro hz
        rcases List.mem_cons.1 ((h z).2 (by simp [hz])) with rfl | hz'
        · exact absurd (hm'.1 z hz) (pre_irrefl (al z (by simp)))
        · exact hz')]
theorem lives_may {L l : List Opn} (hm : ∀ o ∈ l, mayO o = true) : ∀ x ∈ livesM L l, mayO x = true := fun x hx => hm x (mem_livesM.1 hx).1
/-- The live marks are known by which they are. -/
theorem lives_ext {l m : List Opn} (hl : Bag l) (ha : ∀ x ∈ m, mayO x = true) (hs : m.Pairwise pre) (h : ∀ y, y ∈ m ↔ y ∈ l ∧ y.k = 2 ∧ ended l (idO y) = false) : livesM l l = m :=
  sorted_ext (lives_may hl.2.1) ha (lives_sorted hl.2.1 hl.2.2) hs (fun y => mem_livesM.trans (h y).symm)

/-! ### One operation more -/
def keepM (had : Bool) (o y : Opn) : Bool := had || (!decide (o.k = 4) || !decide (tgt o = idO y))
theorem ended_withO {l : List Opn} {o : Opn} (hno : hasO l (idO o) = false) (a : Id) : ended (withO l o) a = (ended l a || (decide (o.k = 4) && decide (tgt o = a))) := by
  rw [Bool.eq_iff_iff, ended_iff, Bool.or_eq_true, ended_iff, Bool.and_eq_true, decide_eq_true_iff, decide_eq_true_iff]
  constructor
  · rintro ⟨x, hx, h1, h2⟩
    rcases mem_withO.1 hx with hx | ⟨rfl, _⟩
    · exact .inl ⟨x, hx, h1, h2⟩
    · exact .inr ⟨h1, h2⟩
  · rintro (⟨x, hx, h1, h2⟩ | ⟨h1, h2⟩)
    · exact ⟨x, mem_withO.2 (.inl hx), h1, h2⟩
    · exact ⟨o, mem_withO.2 (.inr ⟨rfl, hno⟩), h1, h2⟩
/-! ### Which are live -/
end Go.Proofs.Ytdgcokknaampdaa.Marks

/- Homes of places in plain words. Conditions: none. -/
namespace Go.Proofs.Ytdgcokknaampdaa.Homes
open Ops Stamp Bags Marks Go.Proofs.Ytdgcokknaampdaa.Place

/-- One mark's place is not behind a place. -/
def notBehind (o : Opn) (p : List Run) : Bool := decide (Go.Proofs.Ytdgcokknaampdaa.Place.hold (all o.pl) (all p) ≤ 0)
/-- The home of a place, by live marks in order. -/
def homeM (live : List Opn) (p : List Run) : Id := live.foldl (fun s o => if notBehind o p = true then idO o else s) zid
theorem homeM_snoc (live : List Opn) (o : Opn) (p : List Run) : homeM (live ++ [o]) p = if notBehind o p = true then idO o else homeM live p := by
  unfold homeM; rw [List.foldl_append]; rfl
/-- All sections. -/
def sectsM (live : List Opn) : List Id := zid :: live.map idO
theorem sectsM_len (live : List Opn) : (sectsM live).length = live.length + 1 := by simp [sectsM]
/-- The place of a section among all, or how many there are. -/
def whereN (live : List Opn) (s : Id) : Nat := (sectsM live).findIdx (fun x => decide (x = s))
def whereM (live : List Opn) (s : Id) : Int := if whereN live s < live.length + 1 then (whereN live s : Int) else -1
/-- Where a section begins that is at a place among all. -/
def beginM (live : List Opn) (at' : Int) : List Run := if 1 ≤ at' ∧ at' ≤ live.length then (live.getD (at' - 1).toNat ⟨0, 0, 0, [], 0, by decide, by decide, by decide, by decide⟩).pl else []
/-! ### The calls -/
def homeL (l : List Opn) (p : List Run) : Id := if (bagB l && anyB p) = true then homeM (livesM l l) p else zid
def homeE (l : List Opn) (p : List Run) : Int := if (bagB l && anyB p) = true then 0 else 8
def allL (l : List Opn) : List Id := if bagB l = true then sectsM (livesM l l) else []
def aheadL (l : List Opn) (s : Id) : Id := if bagB l = true ∧ 1 ≤ whereM (livesM l l) s then (sectsM (livesM l l)).getD (whereN (livesM l l) s - 1) zid else zid
def aheadE (l : List Opn) (s : Id) : Int := if bagB l = true then (if 1 ≤ whereM (livesM l l) s then 0 else 130) else 8
def fromL (l : List Opn) (s : Id) : List Run := if bagB l = true ∧ 0 ≤ whereM (livesM l l) s then beginM (livesM l l) (whereM (livesM l l) s) else []
def toL (l : List Opn) (s : Id) : List Run := if bagB l = true ∧ 0 ≤ whereM (livesM l l) s then beginM (livesM l l) (whereM (livesM l l) s + 1) else []
def spanE (l : List Opn) (s : Id) : Int := if bagB l = true then (if 0 ≤ whereM (livesM l l) s then 0 else 130) else 8
end Go.Proofs.Ytdgcokknaampdaa.Homes

/- Homes: sections are parts of the order of places, one behind the other. Conditions: none. -/
namespace Go.Proofs.Ytdgcokknaampdaa.Homes
open Ops Stamp Bags Marks Go.Proofs.Ytdgcokknaampdaa.Place

/-- Live marks: in order, of stamps of their own. -/
structure Liv (live : List Opn) : Prop where
  may : ∀ o ∈ live, mayO o = true ∧ o.k = 2
  srt : live.Pairwise pre
  one : live.Pairwise (fun a b => idO a ≠ idO b)
theorem Liv.tail {a : Opn} {live : List Opn} (h : Liv (a :: live)) : Liv live :=
  ⟨fun o ho => h.may o (by simp [ho]), (List.pairwise_cons.1 h.srt).2, (List.pairwise_cons.1 h.one).2⟩
theorem liv_bag {l : List Opn} (h : Bag l) : Liv (livesM l l) := by
  have hs := lives_sorted (L := l) h.2.1 h.2.2
  refine ⟨fun o ho => ⟨h.2.1 o (mem_livesM.1 ho).1, (mem_livesM.1 ho).2.1⟩, hs, ?_⟩
  refine List.Pairwise.imp_of_mem ?_ hs
  intro a b ha hb hp e
  have h1 := findO_mem h.2.2 (mem_livesM.1 ha).1
  have h2 := findO_mem h.2.2 (mem_livesM.1 hb).1
  rw [e, h2] at h1
  injection h1 with h1
  subst h1
  exact pre_irrefl (h.2.1 _ (mem_livesM.1 ha).1) hp
theorem nb_iff0 {o : Opn} {p : List Run} : notBehind o p = true ↔ Go.Proofs.Ytdgcokknaampdaa.Place.hold (all o.pl) (all p) ≤ 0 := by unfold notBehind; exact decide_eq_true_iff
theorem nb_mono {a b : Opn} {p : List Run} (ha : mayO a = true) (hb : mayO b = true) (h : pre a b) (hp : notBehind b p = true) : notBehind a p = true := by
  rw [nb_iff0] at hp ⊢
  rw [pre_iff ha hb] at h
  rcases hold_range (all b.pl) (all p) with h1 | h1 | h1
  · have := hold_trans _ _ _ h h1; omega
  · rw [← (hold_eq _ _).1 h1, h]; decide
  · omega
/-- How many marks are not behind a place. -/
def cntM (live : List Opn) (p : List Run) : Nat := (live.takeWhile (fun o => notBehind o p)).length
theorem cntM_le (live : List Opn) (p : List Run) : cntM live p ≤ live.length := (List.takeWhile_sublist _).length_le
theorem cntM_yes {a : Opn} {live : List Opn} {p : List Run} (h : notBehind a p = true) : cntM (a :: live) p = cntM live p + 1 := by
  unfold cntM; rw [List.takeWhile_cons_of_pos (by simpa using h)]; rfl
theorem cntM_no {a : Opn} {live : List Opn} {p : List Run} (h : notBehind a p = false) : cntM (a :: live) p = 0 := by
  unfold cntM; rw [List.takeWhile_cons_of_neg (by simpa using h)]; rfl
theorem nb_iff {p : List Run} : ∀ {live : List Opn}, Liv live → ∀ (i : Nat) (hi : i < live.length), notBehind (live[i]'hi) p = true ↔ i < cntM live p
  | [], _, i, hi => by simp at hi
  | a :: live, h, i, hi => by
    by_cases ha : notBehind a p = true
    · rw [cntM_yes ha]
      cases i with
      | zero => simp [ha]
      | succ i =>
        have := nb_iff (p := p) h.tail i (by simpa using hi)
        simp only [List.getElem_cons_succ]
        rw [this]
        omega
    · rw [cntM_no (by simpa using ha)]
      constructor
      · intro hb
        exfalso
        apply ha
        cases i with
        | zero => exact hb
        | succ i =>
          have hm := List.getElem_mem (l := live) (n := i) (by simpa using hi)
          exact nb_mono (h.may a (by simp)).1 (h.may _ (by simp [hm])).1 ((List.pairwise_cons.1 h.srt).1 _ hm) hb
      · intro h0; omega
theorem cnt_is {p : List Run} {live : List Opn} (h : Liv live) {k : Nat} (hk : k ≤ live.length) (h1 : ∀ (i : Nat) (hi : i < live.length), notBehind (live[i]'hi) p = true ↔ i < k) : cntM live p = k := by
  have hc := cntM_le live p
  rcases Nat.lt_trichotomy (cntM live p) k with hlt | he | hgt
  · have := (nb_iff (p := p) h (cntM live p) (by omega)).1 ((h1 _ (by omega)).2 hlt)
    omega
  · exact he
  · have := (h1 k (by omega)).1 ((nb_iff (p := p) h k (by omega)).2 hgt)
    omega
theorem fold_home {p : List Run} : ∀ {live : List Opn} (s : Id), Liv live → live.foldl (fun s o => if notBehind o p = true then idO o else s) s = (s :: live.map idO).getD (cntM live p) zid
  | [], s, _ => rfl
  | a :: live, s, h => by
    rw [List.foldl_cons]
    by_cases ha : notBehind a p = true
    · rw [if_pos ha, fold_home _ h.tail, cntM_yes ha]
      rfl
    · rw [if_neg ha, fold_home _ h.tail, cntM_no (by simpa using ha)]
      have : cntM live p = 0 := by
        refine cnt_is h.tail (Nat.zero_le _) (fun i hi => ?_)
        have := nb_iff (p := p) h (i + 1) (by simpa using hi)
        rw [cntM_no (by simpa using ha)] at this
        simp only [List.getElem_cons_succ] at this
        rw [this]
        omega
      rw [this]
      rfl
theorem homeM_is {p : List Run} {live : List Opn} (h : Liv live) : homeM live p = (sectsM live).getD (cntM live p) zid := fold_home zid h
/-! ### Where a section is -/
theorem id_ne_zid {o : Opn} (h : mayO o = true) : idO o ≠ zid := fun e => by
  have := (mayO_parts h).1
  have ht : o.t = 0 := congrArg Id.t e
  rw [ht] at this
  simp [may] at this
theorem sects_one {live : List Opn} (h : Liv live) : (sectsM live).Pairwise (fun a b => a ≠ b) := by
  unfold sectsM
  refine List.Pairwise.cons (fun a ha => ?_) ?_
  · obtain ⟨o, ho, rfl⟩ := List.mem_map.1 ha
    exact fun e => id_ne_zid (h.may o ho).1 e.symm
  · rw [List.pairwise_map]; exact h.one
theorem where_at {live : List Opn} (h : Liv live) {i : Nat} (hi : i < live.length + 1) : whereN live ((sectsM live).getD i zid) = i := by
  have hi' : i < (sectsM live).length := by rw [sectsM_len]; exact hi
  rw [show (sectsM live).getD i zid = (sectsM live)[i] by rw [List.getD_eq_getElem?_getD, List.getElem?_eq_getElem hi']; rfl]
  unfold whereN
  rw [List.findIdx_eq hi']
  refine ⟨by simp, fun j hj => ?_⟩
  have := List.pairwise_iff_getElem.1 (sects_one h) j i (by omega) hi' hj
  simpa using this
theorem sects_inj {live : List Opn} (h : Liv live) {i j : Nat} (hi : i < live.length + 1) (hj : j < live.length + 1) (e : (sectsM live).getD i zid = (sectsM live).getD j zid) : i = j := by
  rw [← where_at h hi, e, where_at h hj]
theorem whereM_at {live : List Opn} (h : Liv live) {i : Nat} (hi : i < live.length + 1) : whereM live ((sectsM live).getD i zid) = i := by
  unfold whereM
  rw [where_at h hi, if_pos hi]
/-! ### Where a section begins -/
theorem begin_zero (live : List Opn) : beginM live 0 = [] := rfl
theorem begin_succ {live : List Opn} {i : Nat} (hi : i < live.length) : beginM live ((i : Int) + 1) = (live[i]'hi).pl := by
  unfold beginM
  rw [if_pos (by omega), show ((i : Int) + 1 - 1).toNat = i by omega, List.getD_eq_getElem?_getD, List.getElem?_eq_getElem hi]
  rfl
theorem begin_end (live : List Opn) : beginM live ((live.length : Int) + 1) = [] := by
  unfold beginM
  rw [if_neg (by omega)]
/-- A place stands in the span of one section alone, its home. -/
theorem span_home {live : List Opn} (h : Liv live) {p : List Run} (hp : anyB p = true) {i : Nat} (hi : i < live.length + 1) :
    (decide (cmp (beginM live i) p ≤ 0) && (decide ((beginM live ((i : Int) + 1)).length = 0) || decide (cmp p (beginM live ((i : Int) + 1)) < 0))) = decide (i = cntM live p) := by
  have hc := cntM_le live p
  have e1 : cmp (beginM live i) p ≤ 0 ↔ i ≤ cntM live p := by
    cases i with
    | zero =>
      have : cmp (beginM live ((0 : Nat) : Int)) p = Go.Proofs.Ytdgcokknaampdaa.Place.hold [] (all p) := by
        show cmp (beginM live 0) p = _
        rw [begin_zero]; unfold cmp; rw [if_pos ⟨rfl, hp⟩]; rfl
      rw [this]
      have h2 : Go.Proofs.Ytdgcokknaampdaa.Place.hold [] (all p) ≤ 0 := by cases all p <;> simp [Go.Proofs.Ytdgcokknaampdaa.Place.hold]
      simp [h2]
    | succ i =>
      have hi' : i < live.length := by omega
      have hm := (h.may _ (List.getElem_mem hi')).1
      rw [show ((i + 1 : Nat) : Int) = (i : Int) + 1 by omega, begin_succ hi']
      unfold cmp
      rw [if_pos ⟨anyB_may (mayO_parts hm).2.1, hp⟩, ← nb_iff0, nb_iff h i hi']
      omega
  have e2 : ((beginM live ((i : Int) + 1)).length = 0 ∨ cmp p (beginM live ((i : Int) + 1)) < 0) ↔ cntM live p ≤ i := by
    by_cases hi' : i < live.length
    · have hm := (h.may _ (List.getElem_mem hi')).1
      have hb := (mayO_parts hm).2.1
      rw [begin_succ hi']
      have h1 : ¬ ((live[i]'hi').pl.length = 0) := by have := ((mayB_iff _).1 hb).1; omega
      unfold cmp
      rw [if_pos ⟨hp, anyB_may hb⟩]
      have h3 := nb_iff (p := p) h i hi'
      rw [nb_iff0] at h3
      have h4 := hold_neg (all (live[i]'hi').pl) (all p)
      constructor
      · rintro (h5 | h5)
        · exact absurd h5 h1
        · exact Nat.le_of_not_lt (fun h6 => by have := h3.2 h6; omega)
      · intro h5
        right
        have h6 : ¬ Go.Proofs.Ytdgcokknaampdaa.Place.hold (all (live[i]'hi').pl) (all p) ≤ 0 := fun h7 => by have := h3.1 h7; omega
        omega
    · obtain rfl : i = live.length := by omega
      rw [begin_end]
      simp [hc]
  rw [Bool.eq_iff_iff, Bool.and_eq_true, Bool.or_eq_true, decide_eq_true_iff, decide_eq_true_iff, decide_eq_true_iff, decide_eq_true_iff, e1, e2]
  omega
end Go.Proofs.Ytdgcokknaampdaa.Homes

/- octavoref13.Home, Sections, Where, Begin: what each answers. Conditions: live marks that may be, in order; a place that may be, or the beginning. -/
namespace Go.Proofs.Ytdgcokknaampdaa.Homes
open Go.RowKit Go.WideShapes Stamp Go.Proofs.Ytdgcokknaampdaa.Place Ops Codes Bags Marks
attribute [local go_sem ↓] Go.wp_at_zero Go.wp_at_succ
attribute [local go_sem] yielded_undef

/-- Two cells of a block stored. -/
def put2 (X : World) (g : Nat) (d0 d1 : Value) : World := (X.setCell ⟨g, 0, none⟩ d0).setCell ⟨g, 1, none⟩ d1
theorem put2_same {X : World} {g : Nat} {c0 c1 : Value} (d0 d1 : Value) {e : TypeId} (h : X.heap[g]? = some (.cells #[c0, c1] e)) : (put2 X g d0 d1).heap[g]? = some (.cells #[d0, d1] e) := set_blk h
theorem put2_other {X : World} {g k : Nat} (d0 d1 : Value) {o : Obj} (hk : k ≠ g) (h : X.heap[k]? = some o) : (put2 X g d0 d1).heap[k]? = some o := by
  unfold put2
  rw [heap_setCell_other _ _ _ _ hk, heap_setCell_other _ _ _ _ hk]
  exact h
theorem put2_below {B g : Nat} {W X : World} (d0 d1 : Value) (hg : B ≤ g) (h : Below B W X) : Below B W (put2 X g d0 d1) := set_below hg h
theorem frz2 {X : World} {g : Nat} {cs : Array Value} {e : TypeId} (h : X.heap[g]? = some (.cells cs e)) (o : Nat) : X.frozen? ⟨g, o, none⟩ = false := by simp [World.frozen?, h]

theorem homeM_take {live : List Opn} {p : List Run} {j : Nat} (hj : j < live.length) : homeM (live.take (j + 1)) p = if notBehind (live[j]'hj) p = true then idO (live[j]'hj) else homeM (live.take j) p := by
  rw [List.take_succ_eq_append_getElem hj, homeM_snoc]

set_option maxRecDepth 100000 in
set_option maxHeartbeats 8000000 in
theorem refHome_any {v u : Value} {live : List Opn} {p : List Run} {w : World} (hv : OpL w v live) (hu : Runs w u p) (hm : ∀ o ∈ live, mayO o = true) (hp : anyB p = true) :
    Calls Try.prog 42 #[v, u] w fun e w' => e = .returned (.agg #[.int .u32 ((homeM live p).t : Int), .int .u8 ((homeM live p).r : Int)]) ∧ Below w.heap.size w w' := by
  obtain ⟨ao, cap, rfl⟩ := hv.shape
  obtain ⟨n, hn⟩ : ∃ n, n = live.length := ⟨_, rfl⟩
  have hmx : n ≤ 9223372036854775807 := by rw [hn]; exact hv.max
  have HV : Hid (∀ W : World, Below w.heap.size w W → OpL W (.slice ao live.length cap) live) := fun W h => hv.keeps h
  have HN := Lib.hid hn
  have AP := (anyB_iff p).1 hp
  have HE : Hid (∀ (x : Opn) (y : Value) (W : World), x ∈ live → Runs w y x.pl → Below w.heap.size w W → Calls Try.prog 67 #[y, u] W fun e w' => e = .returned (.int .i64 (Go.Proofs.Ytdgcokknaampdaa.Place.hold (all x.pl) (all p))) ∧ Below W.heap.size W w') := fun x y W hx hy h => by
    have M := (mayB_iff _).1 (mayO_parts (hm x hx)).2.1
    have hlp : p.length ≤ 100 := by
      rcases AP with rfl | h
      · simp
      · exact Nat.le_trans h.2.1 (by decide)
    exact held_any (hy.keeps h) (hu.keeps h) M.2.2.1 AP.chain (Nat.le_trans M.2.1 (by decide)) hlp
  rw [← hn]
  obtain ⟨wl, hwl⟩ : ∃ x, x = (w.alloc (.cells #[.int .u32 0, .int .u8 0] 24)).alloc (.cells #[.int .u32 0, .int .u8 0] 24) := ⟨_, rfl⟩
  have X0 : Hid (wl.heap[w.heap.size]? = some (.cells #[.int .u32 0, .int .u8 0] 24)) := by rw [hwl]; exact blk_old (blk_new rfl)
  have Y0 : Hid (wl.heap[w.heap.size + 1]? = some (.cells #[.int .u32 ((homeM (live.take 0) p).t : Int), .int .u8 ((homeM (live.take 0) p).r : Int)] 24)) := by rw [hwl]; exact blk_new (by simp)
  have B0 : Hid (Below w.heap.size w wl) := by rw [hwl]; exact ((Below.refl _ _).alloc (Nat.le_refl _) _).alloc (by simp) _
  have HW := Lib.hid hwl
  obtain ⟨R, hR⟩ : ∃ z, homeM live p = z := ⟨_, rfl⟩
  rw [hR]
  obtain ⟨T, r, hT, hr⟩ := R
  have HR := Lib.hid hR
  simp only
  clear hv hn hm hp AP hu hwl hR
  go_enter Try.func42, Try.ntmps42
  go_wp2
  rw [← HW.out]
  go_loopw [6] (fun i wr => ∃ j : Nat, j ≤ n ∧ i = .int .i64 (j : Int) ∧ Hid (wr.heap[w.heap.size]? = some (.cells #[.int .u32 0, .int .u8 0] 24)) ∧ Hid (wr.heap[w.heap.size + 1]? = some (.cells #[.int .u32 ((homeM (live.take j) p).t : Int), .int .u8 ((homeM (live.take j) p).r : Int)] 24)) ∧ Hid (Below w.heap.size w wr)) (fun i _ => n - (intOf i).toNat)
  case atStart => exact ⟨0, by omega, rfl, X0, Y0, B0⟩
  case round =>
    clear X0 Y0 B0 HW wl
    obtain ⟨j, hj, rfl, hx0, hy0, hbel⟩ := hrel
    by_cases hjn : j < n
    rotate_left
    · have q3 : decide (j < n) = false := by simpa using hjn
      have hkk : live.take j = live := List.take_of_length_le (by have := HN.out; omega)
      rw [hkk, HR.out] at hy0
      simp only at hy0
      have c0 := cell_of_row _ _ 0 _ _ _ hy0.out
      have c1 := cell_of_row _ _ 1 _ _ _ hy0.out
      have d0 := cell_of_row _ _ 0 _ _ _ hx0.out
      have d1 := cell_of_row _ _ 1 _ _ _ hx0.out
      have f0 : ∀ o, wr.frozen? ⟨w.heap.size, o, none⟩ = false := fun o => frz2 hx0.out o
      obtain ⟨WF, hWF⟩ : ∃ WF, WF = put2 wr w.heap.size (.int .u32 (T : Int)) (.int .u8 (r : Int)) := ⟨_, rfl⟩
      have HF := put2_same (.int .u32 (T : Int)) (.int .u8 (r : Int)) hx0.out
      have BF := put2_below (.int .u32 (T : Int)) (.int .u8 (r : Int)) (Nat.le_refl w.heap.size) hbel.out
      rw [← hWF] at HF BF
      have HF2 := Lib.hid HF
      have BF2 := Lib.hid BF
      unfold put2 at hWF
      have HW := Lib.hid hWF
      clear hkk hWF HF BF hx0 hy0 hbel
      go_wp2
      rw [← HW.out]
      have e0 := cell_of_row _ _ 0 _ _ _ HF2.out
      have e1 := cell_of_row _ _ 1 _ _ _ HF2.out
      exact bodyPost_ret (v := .agg #[.int .u32 (T : Int), .int .u8 (r : Int)]) (by simp [results, Try.results42, go_sem, e0, e1]) rfl ⟨rfl, BF2.out⟩
    have q3 : decide (j < n) = true := by simpa using hjn
    have q4 : (0 : Int) ≤ (j : Int) := by omega
    have q5 : (j : Int) < (n : Int) := by omega
    have hjl : j < live.length := by rw [← HN.out]; exact hjn
    obtain ⟨bb, oo, y, e, hbb, hru, h0, h1, h2, h3, h4⟩ := opl_at (HV.out w (Below.refl _ _)) j hjl
    subst e
    obtain ⟨x, hx⟩ : ∃ x, x = live[j]'hjl := ⟨_, rfl⟩
    rw [← hx] at hru h0 h1 h2 h4
    have hxm : x ∈ live := by rw [hx]; exact List.getElem_mem _
    have hst := homeM_take (p := p) hjl
    rw [← hx] at hst
    have HX := Lib.hid (HE.out x y wr hxm hru hbel.out)
    have hnb : notBehind x p = decide (Go.Proofs.Ytdgcokknaampdaa.Place.hold (all x.pl) (all p) ≤ 0) := rfl
    obtain ⟨h, hh⟩ : ∃ z, Go.Proofs.Ytdgcokknaampdaa.Place.hold (all x.pl) (all p) = z := ⟨_, rfl⟩
    rw [hh] at HX hnb
    obtain ⟨t, ht⟩ : ∃ z, x.t = z := ⟨_, rfl⟩
    obtain ⟨rx, hrx⟩ : ∃ z, x.r = z := ⟨_, rfl⟩
    rw [ht] at h1
    rw [hrx] at h2
    have HID : Hid ((idO x).t = t ∧ (idO x).r = rx) := ⟨ht, hrx⟩
    have HST := Lib.hid hst
    have HNB := Lib.hid hnb
    have C1 : Hid (∀ W : World, Below w.heap.size w W → W.cell? ⟨bb, oo + j * 5 + 1, none⟩ = some (.int .u32 (t : Int)) ∧ W.cell? ⟨bb, oo + j * 5 + 2, none⟩ = some (.int .u8 (rx : Int))) := fun W h => ⟨(h.cell (p := ⟨bb, oo + j * 5 + 1, none⟩) hbb).trans h1, (h.cell (p := ⟨bb, oo + j * 5 + 2, none⟩) hbb).trans h2⟩
    replace h3 := (hbel.out.cell (p := ⟨bb, oo + j * 5 + 3, none⟩) hbb).trans h3
    obtain ⟨yo, yc, rfl⟩ := hru.shape
    obtain ⟨ny, hny⟩ : ∃ n, x.pl.length = n := ⟨_, rfl⟩
    rw [hny] at HX h3
    clear hx hxm hst hnb hh ht hrx h0 h1 h2 h4 hny hru hbb
    go_wp2_with fail
    clear h3
    refine HX.out.mono ?_
    rintro e w1 ⟨rfl, b1⟩
    have B1 := Lib.hid (bt hbel.out b1)
    have X1 := Lib.hid (blk_below b1 hx0.out)
    have Y1 := Lib.hid (blk_below b1 hy0.out)
    obtain ⟨c1, c2⟩ := C1.out w1 B1.out
    clear b1 HX hx0 hy0 hbel
    by_cases hle : h ≤ 0
    rotate_left
    · have d1 : decide (h ≤ 0) = false := decide_eq_false hle
      have Y2 : Hid (w1.heap[w.heap.size + 1]? = some (.cells #[.int .u32 ((homeM (live.take (j + 1)) p).t : Int), .int .u8 ((homeM (live.take (j + 1)) p).r : Int)] 24)) := by
        unfold Hid
        rw [HST.out, if_neg (by rw [HNB.out, d1]; decide)]
        exact Y1.out
      clear HST HNB HID Y1 hle c1 c2
      go_wp2
      go_roundw
      case rel => exact ⟨j + 1, by omega, by go_num, X1, Y2, B1⟩
      case measure => simp [intOf]; omega
    have d1 : decide (h ≤ 0) = true := decide_eq_true hle
    have k0 := cell_of_row _ _ 0 _ _ _ Y1.out
    have k1 := cell_of_row _ _ 1 _ _ _ Y1.out
    have f0 : ∀ o, w1.frozen? ⟨w.heap.size + 1, o, none⟩ = false := fun o => frz2 Y1.out o
    obtain ⟨WF, hWF⟩ : ∃ WF, WF = put2 w1 (w.heap.size + 1) (.int .u32 (t : Int)) (.int .u8 (rx : Int)) := ⟨_, rfl⟩
    have Y2 : Hid (WF.heap[w.heap.size + 1]? = some (.cells #[.int .u32 ((homeM (live.take (j + 1)) p).t : Int), .int .u8 ((homeM (live.take (j + 1)) p).r : Int)] 24)) := by
      unfold Hid
      rw [HST.out, if_pos (by rw [HNB.out, d1]), HID.out.1, HID.out.2, hWF]
      exact put2_same _ _ Y1.out
    have X2 : Hid (WF.heap[w.heap.size]? = some (.cells #[.int .u32 0, .int .u8 0] 24)) := by
      rw [hWF]
      exact put2_other _ _ (by omega) X1.out
    have B2 : Hid (Below w.heap.size w WF) := by
      rw [hWF]
      exact put2_below _ _ (Nat.le_succ _) B1.out
    unfold put2 at hWF
    have HW := Lib.hid hWF
    clear hWF HST HNB HID Y1 X1 B1 hle
    go_wp2
    rw [← HW.out]
    clear k0 k1 f0 c1 c2 HW
    go_roundw
    case rel => exact ⟨j + 1, by omega, by go_num, X2, Y2, B2⟩
    case measure => simp [intOf]; omega

theorem sects_take {live : List Opn} {j : Nat} (hj : j < live.length) : sectsM (live.take (j + 1)) = sectsM (live.take j) ++ [idO (live[j]'hj)] := by
  unfold sectsM
  rw [List.take_succ_eq_append_getElem hj, List.map_append]
  rfl
/-- Stamps of the call's own. -/
def OwnI (w : World) (base : Nat) (v : Value) (l : List Id) : Prop := w.ownsRow base 24 2 v l.length (ids l)
theorem OwnI.of {w0 w : World} {v : Value} {l : List Id} (h : Shr idE 24 w0 w v l) : OwnI w w0.heap.size v l := by
  obtain ⟨cs, h1, h2⟩ := h
  unfold OwnI
  rw [← idE_rows h2]
  exact h1
set_option maxRecDepth 100000 in
set_option maxHeartbeats 4000000 in
theorem refSections_any {v : Value} {live : List Opn} {w : World} (hv : OpL w v live) (hl : live.length ≤ 1000000) :
    Calls Try.prog 39 #[v] w fun e w' => ∃ ao cap, e = .returned (.slice ao (live.length + 1) cap) ∧ OwnI w' w.heap.size (.slice ao (live.length + 1) cap) (sectsM live) ∧ Below w.heap.size w w' := by
  obtain ⟨ao, cap, rfl⟩ := hv.shape
  obtain ⟨n, hn⟩ : ∃ n, n = live.length := ⟨_, rfl⟩
  have HV : Hid (∀ W : World, Below w.heap.size w W → OpL W (.slice ao live.length cap) live) := fun W h => hv.keeps h
  have HN := Lib.hid hn
  rw [← hn] at hl ⊢
  have S0 : Hid (Shr idE 24 w (w.alloc (.cells #[.int .u32 0, .int .u8 0] 24)) (.slice (some ⟨w.heap.size, 0, none⟩) 1 1) (sectsM (live.take 0))) :=
    by
    have e0 : sectsM (live.take 0) = [zid] := by simp [sectsM]
    unfold Hid
    rw [e0]
    exact ⟨[.int .u32 0, .int .u8 0], ⟨rfl, .inr ⟨w.heap.size, 1, #[.int .u32 0, .int .u8 0], rfl, Nat.le_refl _, heap_alloc_new w _, by simp, by decide, rfl, rfl⟩⟩, ⟨[.int .u32 0, .int .u8 0], [], rfl, rfl, rfl⟩⟩
  have B0 : Hid (Below w.heap.size w (w.alloc (.cells #[.int .u32 0, .int .u8 0] 24))) := (Below.refl _ _).alloc (Nat.le_refl _) _
  clear hv hn
  go_enter Try.func39, Try.ntmps39
  go_wp2
  go_loopw [3, 4] (fun v i wr => ∃ j : Nat, j ≤ n ∧ i = .int .i64 (j : Int) ∧ (∃ ao cap, v = .slice ao (j + 1) cap) ∧ Hid (Shr idE 24 w wr v (sectsM (live.take j))) ∧ Hid (Below w.heap.size w wr)) (fun _ i _ => n - (intOf i).toNat)
  case atStart => exact ⟨0, by omega, rfl, ⟨_, _, rfl⟩, S0, B0⟩
  case round =>
    clear S0 B0
    obtain ⟨j, hj, rfl, ⟨aoL, capL, rfl⟩, hshr, hbel⟩ := hrel
    by_cases hjn : j < n
    rotate_left
    · have q3 : decide (j < n) = false := by simpa using hjn
      have hkk : live.take j = live := List.take_of_length_le (by have := HN.out; omega)
      obtain rfl : j = n := by omega
      rw [hkk] at hshr
      clear hkk
      go_wp2
      go_ret
      exact ⟨_, _, rfl, OwnI.of hshr.out, hbel.out⟩
    have q3 : decide (j < n) = true := by simpa using hjn
    have q4 : (0 : Int) ≤ (j : Int) := by omega
    have q5 : (j : Int) < (n : Int) := by omega
    have hjl : j < live.length := by rw [← HN.out]; exact hjn
    obtain ⟨bb, oo, y, e, hbb, hru, h0, h1, h2, h3, h4⟩ := opl_at (HV.out wr hbel.out) j hjl
    subst e
    obtain ⟨x, hx⟩ : ∃ x, x = live[j]'hjl := ⟨_, rfl⟩
    rw [← hx] at h1 h2
    have INN : Hid (idE.inn w [.int .u32 (x.t : Int), .int .u8 (x.r : Int)] (idO x)) := rfl
    have FT : Hid (sectsM (live.take (j + 1)) = sectsM (live.take j) ++ [idO x]) := by rw [hx]; exact sects_take hjl
    have HM : Hid (j + 1 = (sectsM (live.take j)).length) := by unfold Hid; rw [sectsM_len, List.length_take, ← HN.out]; omega
    obtain ⟨t, ht⟩ : ∃ z, x.t = z := ⟨_, rfl⟩
    obtain ⟨r, hr⟩ : ∃ z, x.r = z := ⟨_, rfl⟩
    rw [ht] at h1
    rw [hr] at h2
    rw [ht, hr] at INN
    have HZ : Hid (w.heap.size ≤ wr.heap.size) := hbel.out.size
    clear hx hru ht hr h0 h3 h4
    go_wp2_with (at_builtin; refine wpList_append_enc (E := idE) Try.underlying42 id_info rfl (w0 := w) (wp := wr) (by rfl) (.tmp 13) (.tmp 19) (by rfl) (by rfl) hshr.out (G := wr.heap.size) (by rfl) rfl (c := #[.int .u32 (t : Int), .int .u8 (r : Int)]) INN.out HM.out (by omega) (by omega) HZ.out ?_)
    rintro v6 w6 s6 va vc rfl b6
    have S6 := Lib.hid s6
    rw [← FT.out] at S6
    have B6 := Lib.hid (hbel.out.trans b6)
    clear s6 b6 h1 h2 hshr
    go_wp2
    go_roundw
    case rel => exact ⟨j + 1, by omega, by go_num, ⟨va, vc, rfl⟩, S6, B6⟩
    case measure => simp [intOf]; omega
end Go.Proofs.Ytdgcokknaampdaa.Homes

/- Homes: sections and spans, one by one. Conditions: none. -/
namespace Go.Proofs.Ytdgcokknaampdaa.Homes
open Ops Stamp Bags Marks Go.Proofs.Ytdgcokknaampdaa.Place

theorem span_at {l : List Opn} (hb : Bag l) {i : Nat} (hi : i < (livesM l l).length + 1) :
    fromL l ((sectsM (livesM l l)).getD i zid) = beginM (livesM l l) i ∧ toL l ((sectsM (livesM l l)).getD i zid) = beginM (livesM l l) ((i : Int) + 1) ∧ spanE l ((sectsM (livesM l l)).getD i zid) = 0 := by
  have hw := whereM_at (liv_bag hb) hi
  unfold fromL toL spanE
  rw [hw, (bagB_iff l).2 hb]
  rw [if_pos ⟨rfl, by omega⟩, if_pos ⟨rfl, by omega⟩, if_pos rfl, if_pos (by omega)]
  exact ⟨rfl, rfl, rfl⟩
theorem begin_len {live : List Opn} (h : Liv live) {i : Nat} (hi : i < live.length + 1) : (beginM live ((i : Int) + 1)).length = 0 ↔ i = live.length := by
  by_cases hl : i < live.length
  · rw [begin_succ hl]
    have := ((mayB_iff _).1 (mayO_parts (h.may _ (List.getElem_mem hl)).1).2.1).1
    omega
  · obtain rfl : i = live.length := by omega
    rw [begin_end]
    simp
theorem begin_pos {live : List Opn} (h : Liv live) {i : Nat} (h0 : 0 < i) (hi : i < live.length + 1) : (beginM live (i : Int)).length ≠ 0 := by
  obtain ⟨k, rfl⟩ : ∃ k, i = k + 1 := ⟨i - 1, by omega⟩
  rw [show ((k + 1 : Nat) : Int) = (k : Int) + 1 by omega]
  intro e
  have := (begin_len h (by omega)).1 e
  omega
theorem home_at {live : List Opn} (h : Liv live) {p : List Run} {i : Nat} (hi : i < live.length + 1) : (sectsM live).getD i zid = homeM live p ↔ i = cntM live p := by
  rw [homeM_is h]
  constructor
  · intro e
    exact sects_inj h hi (by have := cntM_le live p; omega) e
  · rintro rfl; rfl
/-- How many of the first sections are a place's home. -/
def hits (c j : Nat) : Nat := if c < j then 1 else 0
theorem hits_next (c j : Nat) : hits c (j + 1) = if j = c then hits c j + 1 else hits c j := by
  unfold hits
  by_cases h : j = c
  · subst h; simp
  · rw [if_neg h]
    by_cases h2 : c < j
    · rw [if_pos h2, if_pos (by omega)]
    · rw [if_neg h2, if_neg (by omega)]
end Go.Proofs.Ytdgcokknaampdaa.Homes
