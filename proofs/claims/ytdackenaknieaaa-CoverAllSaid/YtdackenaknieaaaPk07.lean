/- Homes: sections are parts of the order of places, one behind the other. Conditions: none. -/
import Derived.Maps.Own
import Derived.Maps.OwnOps
import Derived.Maps.OwnSet
import Derived.Maps.Views
import Derived.DeepKeys4
import Derived.Laws.EntriesVeiled
import Derived.Test.YtdackenaknieaaaPk06
import Derived.Test.YtdackenaknieaaaPk01
import Derived.Test.YtdackenaknieaaaPk02

namespace Go.Proofs.Ytdackenaknieaaa.Homes
open Ops Stamp Bags Marks Go.Proofs.Ytdackenaknieaaa.Place

/-- Live marks: in order, of stamps of their own. -/
structure Liv (live : List Opn) : Prop where
  may : ∀ o ∈ live, mayO o = true ∧ o.k = 2
  srt : live.Pairwise pre
  one : live.Pairwise (fun a b => idO a ≠ idO b)
theorem Liv.tail {a : Opn} {live : List Opn} (h : Liv (a :: live)) : Liv live :=
  ⟨fun o ho => h.may o (by simp [ho]), (List.pairwise_cons.1 h.srt).2, (List.pairwise_cons.1 h.one).2⟩
theorem liv_bag {l : List Opn} (h : Bag l) : Liv (livesM l l) := by
  have hs := lives_sorted (L := l) h.2.1 h.2.2
  refine ⟨fun o ho => ⟨h.2.1 o (mem_livesM.1 ho).1, (mem_livesM.1 ho).2.1⟩, hs, ?_⟩
  refine List.Pairwise.imp_of_mem ?_ hs
  intro a b ha hb hp e
  have h1 := findO_mem h.2.2 (mem_livesM.1 ha).1
  have h2 := findO_mem h.2.2 (mem_livesM.1 hb).1
  rw [e, h2] at h1
  injection h1 with h1
  subst h1
  exact pre_irrefl (h.2.1 _ (mem_livesM.1 ha).1) hp
theorem nb_iff0 {o : Opn} {p : List Run} : notBehind o p = true ↔ Go.Proofs.Ytdackenaknieaaa.Place.hold (all o.pl) (all p) ≤ 0 := by unfold notBehind; exact decide_eq_true_iff
theorem nb_mono {a b : Opn} {p : List Run} (ha : mayO a = true) (hb : mayO b = true) (h : pre a b) (hp : notBehind b p = true) : notBehind a p = true := by
  rw [nb_iff0] at hp ⊢
  rw [pre_iff ha hb] at h
  rcases hold_range (all b.pl) (all p) with h1 | h1 | h1
  · have := hold_trans _ _ _ h h1; omega
  · rw [← (hold_eq _ _).1 h1, h]; decide
  · omega
/-- How many marks are not behind a place. -/
def cntM (live : List Opn) (p : List Run) : Nat := (live.takeWhile (fun o => notBehind o p)).length
theorem cntM_le (live : List Opn) (p : List Run) : cntM live p ≤ live.length := (List.takeWhile_sublist _).length_le
theorem cntM_yes {a : Opn} {live : List Opn} {p : List Run} (h : notBehind a p = true) : cntM (a :: live) p = cntM live p + 1 := by
  unfold cntM; rw [List.takeWhile_cons_of_pos (by simpa using h)]; rfl
theorem cntM_no {a : Opn} {live : List Opn} {p : List Run} (h : notBehind a p = false) : cntM (a :: live) p = 0 := by
  unfold cntM; rw [List.takeWhile_cons_of_neg (by simpa using h)]; rfl
theorem nb_iff {p : List Run} : ∀ {live : List Opn}, Liv live → ∀ (i : Nat) (hi : i < live.length), notBehind (live[i]'hi) p = true ↔ i < cntM live p
  | [], _, i, hi => by simp at hi
  | a :: live, h, i, hi => by
    by_cases ha : notBehind a p = true
    · rw [cntM_yes ha]
      cases i with
      | zero => simp [ha]
      | succ i =>
        have := nb_iff (p := p) h.tail i (by simpa using hi)
        simp only [List.getElem_cons_succ]
        rw [this]
        omega
    · rw [cntM_no (by simpa using ha)]
      constructor
      · intro hb
        exfalso
        apply ha
        cases i with
        | zero => exact hb
        | succ i =>
          have hm := List.getElem_mem (l := live) (n := i) (by simpa using hi)
          exact nb_mono (h.may a (by simp)).1 (h.may _ (by simp [hm])).1 ((List.pairwise_cons.1 h.srt).1 _ hm) hb
      · intro h0; omega
theorem cnt_is {p : List Run} {live : List Opn} (h : Liv live) {k : Nat} (hk : k ≤ live.length) (h1 : ∀ (i : Nat) (hi : i < live.length), notBehind (live[i]'hi) p = true ↔ i < k) : cntM live p = k := by
  have hc := cntM_le live p
  rcases Nat.lt_trichotomy (cntM live p) k with hlt | he | hgt
  · have := (nb_iff (p := p) h (cntM live p) (by omega)).1 ((h1 _ (by omega)).2 hlt)
    omega
  · exact he
  · have := (h1 k (by omega)).1 ((nb_iff (p := p) h k (by omega)).2 hgt)
    omega
theorem fold_home {p : List Run} : ∀ {live : List Opn} (s : Id), Liv live → live.foldl (fun s o => if notBehind o p = true then idO o else s) s = (s :: live.map idO).getD (cntM live p) zid
  | [], s, _ => rfl
  | a :: live, s, h => by
    rw [List.foldl_cons]
    by_cases ha : notBehind a p = true
    · rw [if_pos ha, fold_home _ h.tail, cntM_yes ha]
      rfl
    · rw [if_neg ha, fold_home _ h.tail, cntM_no (by simpa using ha)]
      have : cntM live p = 0 := by
        refine cnt_is h.tail (Nat.zero_le _) (fun i hi => ?_)
        have := nb_iff (p := p) h (i + 1) (by simpa using hi)
        rw [cntM_no (by simpa using ha)] at this
        simp only [List.getElem_cons_succ] at this
        rw [this]
        omega
      rw [this]
      rfl
theorem homeM_is {p : List Run} {live : List Opn} (h : Liv live) : homeM live p = (sectsM live).getD (cntM live p) zid := fold_home zid h
/-! ### Where a section is -/
theorem id_ne_zid {o : Opn} (h : mayO o = true) : idO o ≠ zid := fun e => by
  have := (mayO_parts h).1
  have ht : o.t = 0 := congrArg Id.t e
  rw [ht] at this
  simp [may] at this
theorem sects_one {live : List Opn} (h : Liv live) : (sectsM live).Pairwise (fun a b => a ≠ b) := by
  unfold sectsM
  refine List.Pairwise.cons (fun a ha => ?_) ?_
  · obtain ⟨o, ho, rfl⟩ := List.mem_map.1 ha
    exact fun e => id_ne_zid (h.may o ho).1 e.symm
  · rw [List.pairwise_map]; exact h.one
theorem where_at {live : List Opn} (h : Liv live) {i : Nat} (hi : i < live.length + 1) : whereN live ((sectsM live).getD i zid) = i := by
  have hi' : i < (sectsM live).length := by rw [sectsM_len]; exact hi
  rw [show (sectsM live).getD i zid = (sectsM live)[i] by rw [List.getD_eq_getElem?_getD, List.getElem?_eq_getElem hi']; rfl]
  unfold whereN
  rw [List.findIdx_eq hi']
  refine ⟨by simp, fun j hj => ?_⟩
  have := List.pairwise_iff_getElem.1 (sects_one h) j i (by omega) hi' hj
  simpa using this
theorem where_of {live : List Opn} {s : Id} (h : whereN live s < live.length + 1) : (sectsM live).getD (whereN live s) zid = s := by
  have hi' : whereN live s < (sectsM live).length := by rw [sectsM_len]; exact h
  rw [show (sectsM live).getD (whereN live s) zid = (sectsM live)[whereN live s] by rw [List.getD_eq_getElem?_getD, List.getElem?_eq_getElem hi']; rfl]
  have := List.findIdx_getElem (p := fun x => decide (x = s)) (xs := sectsM live) (w := hi')
  exact of_decide_eq_true this
theorem sects_inj {live : List Opn} (h : Liv live) {i j : Nat} (hi : i < live.length + 1) (hj : j < live.length + 1) (e : (sectsM live).getD i zid = (sectsM live).getD j zid) : i = j := by
  rw [← where_at h hi, e, where_at h hj]
theorem whereM_at {live : List Opn} (h : Liv live) {i : Nat} (hi : i < live.length + 1) : whereM live ((sectsM live).getD i zid) = i := by
  unfold whereM
  rw [where_at h hi, if_pos hi]
/-! ### Where a section begins -/
theorem begin_zero (live : List Opn) : beginM live 0 = [] := rfl
theorem begin_succ {live : List Opn} {i : Nat} (hi : i < live.length) : beginM live ((i : Int) + 1) = (live[i]'hi).pl := by
  unfold beginM
  rw [if_pos (by omega), show ((i : Int) + 1 - 1).toNat = i by omega, List.getD_eq_getElem?_getD, List.getElem?_eq_getElem hi]
  rfl
theorem begin_end (live : List Opn) : beginM live ((live.length : Int) + 1) = [] := by
  unfold beginM
  rw [if_neg (by omega)]
/-- A place stands in the span of one section alone, its home. -/
theorem span_home {live : List Opn} (h : Liv live) {p : List Run} (hp : anyB p = true) {i : Nat} (hi : i < live.length + 1) :
    (decide (cmp (beginM live i) p ≤ 0) && (decide ((beginM live ((i : Int) + 1)).length = 0) || decide (cmp p (beginM live ((i : Int) + 1)) < 0))) = decide (i = cntM live p) := by
  have hc := cntM_le live p
  have e1 : cmp (beginM live i) p ≤ 0 ↔ i ≤ cntM live p := by
    cases i with
    | zero =>
      have : cmp (beginM live ((0 : Nat) : Int)) p = Go.Proofs.Ytdackenaknieaaa.Place.hold [] (all p) := by
        show cmp (beginM live 0) p = _
        rw [begin_zero]; unfold cmp; rw [if_pos ⟨rfl, hp⟩]; rfl
      rw [this]
      have h2 : Go.Proofs.Ytdackenaknieaaa.Place.hold [] (all p) ≤ 0 := by cases all p <;> simp [Go.Proofs.Ytdackenaknieaaa.Place.hold]
      simp [h2]
    | succ i =>
      have hi' : i < live.length := by omega
      have hm := (h.may _ (List.getElem_mem hi')).1
      rw [show ((i + 1 : Nat) : Int) = (i : Int) + 1 by omega, begin_succ hi']
      unfold cmp
      rw [if_pos ⟨anyB_may (mayO_parts hm).2.1, hp⟩, ← nb_iff0, nb_iff h i hi']
      omega
  have e2 : ((beginM live ((i : Int) + 1)).length = 0 ∨ cmp p (beginM live ((i : Int) + 1)) < 0) ↔ cntM live p ≤ i := by
    by_cases hi' : i < live.length
    · have hm := (h.may _ (List.getElem_mem hi')).1
      have hb := (mayO_parts hm).2.1
      rw [begin_succ hi']
      have h1 : ¬ ((live[i]'hi').pl.length = 0) := by have := ((mayB_iff _).1 hb).1; omega
      unfold cmp
      rw [if_pos ⟨hp, anyB_may hb⟩]
      have h3 := nb_iff (p := p) h i hi'
      rw [nb_iff0] at h3
      have h4 := hold_neg (all (live[i]'hi').pl) (all p)
      constructor
      · rintro (h5 | h5)
        · exact absurd h5 h1
        · exact Nat.le_of_not_lt (fun h6 => by have := h3.2 h6; omega)
      · intro h5
        right
        have h6 : ¬ Go.Proofs.Ytdackenaknieaaa.Place.hold (all (live[i]'hi').pl) (all p) ≤ 0 := fun h7 => by have := h3.1 h7; omega
        omega
    · obtain rfl : i = live.length := by omega
      rw [begin_end]
      simp [hc]
  rw [Bool.eq_iff_iff, Bool.and_eq_true, Bool.or_eq_true, decide_eq_true_iff, decide_eq_true_iff, decide_eq_true_iff, decide_eq_true_iff, e1, e2]
  omega
end Go.Proofs.Ytdackenaknieaaa.Homes

/- Homes: what a mark more, a mark less homes elsewhere. Conditions: none. -/
namespace Go.Proofs.Ytdackenaknieaaa.Homes
open Ops Stamp Bags Marks Go.Proofs.Ytdackenaknieaaa.Place

end Go.Proofs.Ytdackenaknieaaa.Homes

/- Homes: what one operation more homes elsewhere. Conditions: none. -/
namespace Go.Proofs.Ytdackenaknieaaa.Homes
open Ops Stamp Bags Marks Go.Proofs.Ytdackenaknieaaa.Place

end Go.Proofs.Ytdackenaknieaaa.Homes

/- What counts of what is held, in plain words: places cut, content that is homed, what counts. Conditions: none. -/
namespace Go.Proofs.Ytdackenaknieaaa.Covers
open Ops Stamp Bags Marks Homes Go.Proofs.Ytdackenaknieaaa.Place

/-! ### The first stamps of a place -/
/-- The first so many stamps of a place, as a place. -/
def cutN : List Run → Nat → List Run
  | [], _ => []
  | x :: p, k => if k = 0 then [] else if x.m ≤ (k : Int) then x :: cutN p (k - x.m.toNat) else [mkRun x.t x.r (k : Int)]
theorem cutN_zero (p : List Run) : cutN p 0 = [] := by cases p <;> rfl
theorem up_take (t r : Nat) : ∀ (n k : Nat), k ≤ n → (up t r n).take k = up t r k := fun n k h => by
  obtain ⟨m, rfl⟩ : ∃ m, n = k + m := ⟨n - k, by omega⟩
  rw [up_add, List.take_append_of_le_length (by rw [up_len]; exact Nat.le_refl _), List.take_of_length_le (by rw [up_len]; exact Nat.le_refl _)]
theorem all_cutN : ∀ {p : List Run} {k : Nat}, Chain p → all (cutN p k) = (all p).take k
  | [], k, _ => by simp [cutN, all]
  | x :: p, k, h => by
    by_cases h0 : k = 0
    · subst h0; simp [cutN_zero, all]
    obtain ⟨n, hn, n1, n2, n3, n4⟩ := h.head.nat
    unfold cutN
    rw [if_neg h0]
    by_cases h1 : x.m ≤ (k : Int)
    · rw [if_pos h1]
      show up x.t x.r x.m.toNat ++ all (cutN p (k - x.m.toNat)) = (up x.t x.r x.m.toNat ++ all p).take k
      rw [all_cutN h.tail, n3, List.take_append, up_len, List.take_of_length_le (l := up x.t x.r n) (by rw [up_len]; omega)]
    · rw [if_neg h1]
      have hx := x.ht
      have hr := x.hr
      show up (mkRun x.t x.r k).t (mkRun x.t x.r k).r (mkRun x.t x.r k).m.toNat ++ [] = (up x.t x.r x.m.toNat ++ all p).take k
      rw [mkRun_t hx, mkRun_r hr, mkRun_m (by omega), List.append_nil, Int.toNat_natCast, n3, List.take_append_of_le_length (by rw [up_len]; omega), up_take _ _ _ _ (by omega)]
theorem cutN_head : ∀ {p : List Run} {k : Nat} {z : Run}, (cutN p k).head? = some z → ∃ y q, p = y :: q ∧ z.t = y.t ∧ z.r = y.r
  | [], k, z, h => by simp [cutN] at h
  | x :: p, k, z, h => by
    refine ⟨x, p, rfl, ?_⟩
    unfold cutN at h
    split at h
    · simp at h
    · split at h
      · simp only [List.head?_cons, Option.some.injEq] at h
        subst h
        exact ⟨rfl, rfl⟩
      · simp only [List.head?_cons, Option.some.injEq] at h
        subst h
        exact ⟨mkRun_t x.ht, mkRun_r x.hr⟩
theorem chain_cons {x : Run} {p : List Run} (h1 : Go.Proofs.Ytdackenaknieaaa.Place.One x) (h2 : Chain p) (h3 : ∀ y, p.head? = some y → Go.Proofs.Ytdackenaknieaaa.Place.Next x y) : Chain (x :: p) := by
  cases p with
  | nil => exact h1
  | cons y p => exact ⟨h1, h3 y rfl, h2⟩
theorem chain_cutN : ∀ {p : List Run} {k : Nat}, Chain p → Chain (cutN p k)
  | [], k, _ => trivial
  | x :: p, k, h => by
    unfold cutN
    split
    · trivial
    · split
      · refine chain_cons h.head (chain_cutN h.tail) (fun z hz => ?_)
        obtain ⟨y, q, rfl, e1, e2⟩ := cutN_head hz
        have := h.2.1
        unfold Go.Proofs.Ytdackenaknieaaa.Place.Next at this ⊢
        rw [e1, e2]
        exact this
      · rename_i h0 h1
        obtain ⟨o1, o2, o3, o4, o5, o6⟩ := h.head
        show Go.Proofs.Ytdackenaknieaaa.Place.One _
        unfold Go.Proofs.Ytdackenaknieaaa.Place.One
        rw [mkRun_t x.ht, mkRun_r x.hr, mkRun_m (by omega)]
        omega
theorem cutN_len : ∀ (p : List Run) (k : Nat), (cutN p k).length ≤ p.length
  | [], _ => by simp [cutN]
  | x :: p, k => by
    unfold cutN
    split
    · simp
    · split
      · have := cutN_len p (k - x.m.toNat)
        simpa using this
      · simp
theorem may_cutN {p : List Run} {k : Nat} (h : mayB p = true) (hk : 1 ≤ k) : mayB (cutN p k) = true := by
  have hM := (mayB_iff p).1 h
  have hc := chain_cutN (k := k) hM.2.2.1
  have hl := cutN_len p k
  refine (mayB_iff _).2 ⟨?_, Nat.le_trans hl hM.2.1, hc, ?_⟩
  · cases p with
    | nil => have := hM.1; simp at this
    | cons x p =>
      unfold cutN
      rw [if_neg (by omega)]
      split <;> simp
  · have h1 := long_len hc
    have h2 := long_len hM.2.2.1
    have h3 := hM.2.2.2
    rw [all_cutN hM.2.2.1, List.length_take] at h1
    omega
theorem any_cutN {p : List Run} {k : Nat} (h : mayB p = true) : anyB (cutN p k) = true := by
  by_cases hk : k = 0
  · subst hk; rw [cutN_zero]; rfl
  · exact anyB_may (may_cutN h (by omega))
theorem cutN_cutN {p : List Run} {j k : Nat} (h : Chain p) (hj : j ≤ k) : cutN (cutN p k) j = cutN p j := by
  refine all_inj (chain_cutN (chain_cutN h)) (chain_cutN h) ?_
  rw [all_cutN (chain_cutN h), all_cutN h, all_cutN h, List.take_take, Nat.min_eq_left hj]
theorem cutN_all {p : List Run} (h : Chain p) : cutN p (all p).length = p := by
  refine all_inj (chain_cutN h) h ?_
  rw [all_cutN h, List.take_length]
/-- The last stamp of the first ones. -/
theorem last_cutN {p : List Run} {k : Nat} (h : mayB p = true) (hk : k < (all p).length) : lastV (cutN p (k + 1)) = ((((all p).getD k zid).t : Int), (((all p).getD k zid).r : Int)) := by
  have hM := (mayB_iff p).1 h
  refine lastV_of (P := (all p).take k) (may_cutN h (by omega)) ?_
  rw [all_cutN hM.2.2.1, List.take_succ_eq_append_getElem hk, getD_id hk]
where
  getD_id {l : List Id} {j : Nat} (h : j < l.length) : l.getD j zid = l[j]'h := by rw [List.getD_eq_getElem?_getD, List.getElem?_eq_getElem h]; rfl

/-! ### What counts -/
/-- On how many stamps of its place one stands. -/
def manyN (o : Opn) : Nat := (all o.pl).length - offs o
/-- The content that is homed in a section, by live marks. -/
def inL (l live : List Opn) (s : Id) : List Opn := l.filter (fun o => contB o && decide (homeM live o.pl = s))
/-- Does content that is homed in a section count? -/
def isB (l live : List Opn) (s : Id) (o : Opn) : Bool := (List.range (manyN o)).all (fun k => !decide (homeM live (cutN o.pl (k + 1)) = s) || hasO l ((all o.pl).getD k zid))
theorem isB_iff {l live : List Opn} {s : Id} {o : Opn} : isB l live s o = true ↔ ∀ k, k < manyN o → homeM live (cutN o.pl (k + 1)) = s → hasO l ((all o.pl).getD k zid) = true := by
  unfold isB
  rw [List.all_eq_true]
  constructor
  · intro h k hk e
    have := h k (List.mem_range.2 hk)
    simpa [e] using this
  · intro h k hk
    by_cases e : homeM live (cutN o.pl (k + 1)) = s
    · rw [h k (List.mem_range.1 hk) e, Bool.or_true]
    · simp [e]
def countL (l live : List Opn) (s : Id) : List Opn := (inL l live s).filter (isB l live s)
def homedL (l : List Opn) (s : Id) : List Opn := if spanE l s = 0 then inL l (livesM l l) s else []
def countsL (l : List Opn) (s : Id) : List Opn := if spanE l s = 0 then countL l (livesM l l) s else []
theorem spanE_zero {l : List Opn} {s : Id} : spanE l s = 0 ↔ Bag l ∧ 0 ≤ whereM (livesM l l) s := by
  unfold spanE
  by_cases h : bagB l = true
  · rw [if_pos h]
    by_cases h2 : 0 ≤ whereM (livesM l l) s
    · simp [h2, (bagB_iff l).1 h]
    · simp [h2]
  · have : ¬ Bag l := fun hb => h ((bagB_iff l).2 hb)
    simp [h, this]
theorem spanE_cases (l : List Opn) (s : Id) : spanE l s = 0 ∨ spanE l s = 8 ∨ spanE l s = 130 := by
  unfold spanE
  split
  · split
    · exact .inl rfl
    · exact .inr (.inr rfl)
  · exact .inr (.inl rfl)
theorem mem_inL {l live : List Opn} {s : Id} {o : Opn} : o ∈ inL l live s ↔ o ∈ l ∧ contB o = true ∧ homeM live o.pl = s := by
  unfold inL; rw [List.mem_filter]; simp
theorem inL_sub (l live : List Opn) (s : Id) : (inL l live s).Sublist l := List.filter_sublist
theorem count_le (l live : List Opn) (s : Id) : (countL l live s).length ≤ (inL l live s).length := List.length_filter_le _ _

/-! ### The version: a set of stamps -/
end Go.Proofs.Ytdackenaknieaaa.Covers

/- Homes: sections and spans, one by one. Conditions: none. -/
namespace Go.Proofs.Ytdackenaknieaaa.Homes
open Ops Stamp Bags Marks Go.Proofs.Ytdackenaknieaaa.Place

theorem span_at {l : List Opn} (hb : Bag l) {i : Nat} (hi : i < (livesM l l).length + 1) :
    fromL l ((sectsM (livesM l l)).getD i zid) = beginM (livesM l l) i ∧ toL l ((sectsM (livesM l l)).getD i zid) = beginM (livesM l l) ((i : Int) + 1) ∧ spanE l ((sectsM (livesM l l)).getD i zid) = 0 := by
  have hw := whereM_at (liv_bag hb) hi
  unfold fromL toL spanE
  rw [hw, (bagB_iff l).2 hb]
  rw [if_pos ⟨rfl, by omega⟩, if_pos ⟨rfl, by omega⟩, if_pos rfl, if_pos (by omega)]
  exact ⟨rfl, rfl, rfl⟩
theorem home_at {live : List Opn} (h : Liv live) {p : List Run} {i : Nat} (hi : i < live.length + 1) : (sectsM live).getD i zid = homeM live p ↔ i = cntM live p := by
  rw [homeM_is h]
  constructor
  · intro e
    exact sects_inj h hi (by have := cntM_le live p; omega) e
  · rintro rfl; rfl
end Go.Proofs.Ytdackenaknieaaa.Homes

/- What counts is closed; with content, or a mark, more all that counted counts; all content is homed in one section. Conditions: none. -/
namespace Go.Proofs.Ytdackenaknieaaa.Covers
open Ops Stamp Bags Marks Homes Go.Proofs.Ytdackenaknieaaa.Place

theorem manyN_le (o : Opn) : manyN o ≤ (all o.pl).length := Nat.sub_le _ _
theorem sect_where {l : List Opn} (hl : Bag l) {i : Nat} (hi : i < (livesM l l).length + 1) : spanE l ((sectsM (livesM l l)).getD i zid) = 0 := by
  refine spanE_zero.2 ⟨hl, ?_⟩
  rw [whereM_at (liv_bag hl) hi]
  omega

/-- The content that is homed from a section on. -/
def restL (l live : List Opn) (j : Nat) : List Opn := l.filter (fun o => contB o && decide (j ≤ cntM live o.pl))
theorem rest_zero (l live : List Opn) : restL l live 0 = l.filter contB := by
  unfold restL
  congr 1
  funext o
  simp
theorem rest_end (l live : List Opn) : restL l live (live.length + 1) = [] := by
  unfold restL
  rw [List.filter_eq_nil_iff]
  intro o _
  have := cntM_le live o.pl
  simp
  omega
theorem len_parts {α : Type} (p q r : α → Bool) (h : ∀ x, p x = (q x || r x)) (hd : ∀ x, ¬ (q x = true ∧ r x = true)) : ∀ l : List α, (l.filter p).length = (l.filter q).length + (l.filter r).length
  | [] => rfl
  | x :: l => by
    have ih := len_parts p q r h hd l
    have h1 := h x
    have h2 := hd x
    rw [List.filter_cons, List.filter_cons, List.filter_cons, h1]
    cases hq : q x <;> cases hr : r x
    · simpa using ih
    · simp [ih]; omega
    · simp [ih]; omega
    · exact absurd ⟨hq, hr⟩ h2
theorem rest_step {l live : List Opn} (hL : Liv live) {j : Nat} (hj : j < live.length + 1) : (restL l live j).length = (inL l live ((sectsM live).getD j zid)).length + (restL l live (j + 1)).length := by
  unfold restL inL
  refine len_parts _ _ _ (fun o => ?_) (fun o => ?_) l
  all_goals
    have hc := cntM_le live o.pl
    have he : homeM live o.pl = (sectsM live).getD j zid ↔ cntM live o.pl = j := by
      rw [homeM_is hL]
      exact ⟨fun e => sects_inj hL (by omega) hj e, fun e => by rw [e]⟩
  · cases contB o
    · rfl
    · simp only [Bool.true_and]
      rw [Bool.eq_iff_iff, Bool.or_eq_true, decide_eq_true_iff, decide_eq_true_iff, decide_eq_true_iff, he]
      omega
  · simp only [Bool.and_eq_true, decide_eq_true_eq, he]
    omega
theorem find_in {l live : List Opn} (hb : Bag l) {s : Id} {o : Opn} (h : o ∈ inL l live s) : findO l (idO o) = some o := findO_mem hb.2.2 (mem_inL.1 h).1
end Go.Proofs.Ytdackenaknieaaa.Covers

/- A place gone back, from its end on: what is found by that. Conditions: a bag, a section of it, its content. -/
namespace Go.Proofs.Ytdackenaknieaaa.Covers
open Ops Stamp Bags Marks Homes Go.Proofs.Ytdackenaknieaaa.Place

/-- Does a span hold a place? -/
def homB (F T p : List Run) : Bool := decide (cmp F p ≤ 0) && (decide (T.length = 0) || decide (cmp p T < 0))
theorem begin_any {live : List Opn} (h : Liv live) (a : Int) : anyB (beginM live a) = true := by
  unfold beginM
  split
  · rename_i hx
    have hj : (a - 1).toNat < live.length := by omega
    rw [List.getD_eq_getElem?_getD, List.getElem?_eq_getElem hj]
    exact anyB_may (mayO_parts (h.may _ (List.getElem_mem hj)).1).2.1
  · rfl
theorem from_any {l : List Opn} {s : Id} (hE : spanE l s = 0) : anyB (fromL l s) = true := by
  obtain ⟨hb, hs⟩ := spanE_zero.1 hE
  unfold fromL
  rw [if_pos ⟨(bagB_iff l).2 hb, hs⟩]
  exact begin_any (liv_bag hb) _
theorem homB_is {l : List Opn} {s : Id} (hE : spanE l s = 0) {p : List Run} (hp : anyB p = true) : homB (fromL l s) (toL l s) p = decide (homeM (livesM l l) p = s) := by
  obtain ⟨hb, hs⟩ := spanE_zero.1 hE
  have hw : whereN (livesM l l) s < (livesM l l).length + 1 := by
    unfold whereM at hs
    split at hs
    · assumption
    · omega
  have e := where_of hw
  obtain ⟨i, hi⟩ : ∃ i, whereN (livesM l l) s = i := ⟨_, rfl⟩
  rw [hi] at hw e
  subst e
  obtain ⟨e1, e2, _⟩ := span_at hb hw
  rw [e1, e2]
  unfold homB
  rw [span_home (liv_bag hb) hp hw, decide_eq_decide, eq_comm (a := homeM _ _), home_at (liv_bag hb) hw]

/-! ### Places cut are ahead -/
theorem cut_ahead {p : List Run} (h : mayB p = true) {j k : Nat} (hj : j ≤ k) : Go.Proofs.Ytdackenaknieaaa.Place.hold (all (cutN p j)) (all (cutN p k)) = 0 ∨ Go.Proofs.Ytdackenaknieaaa.Place.hold (all (cutN p j)) (all (cutN p k)) = -1 := by
  have hc := ((mayB_iff p).1 h).2.2.1
  rw [all_cutN hc, all_cutN hc]
  have e : (all p).take k = (all p).take j ++ ((all p).take k).drop j := by
    have := List.take_append_drop j ((all p).take k)
    rw [List.take_take, Nat.min_eq_left hj] at this
    exact this.symm
  rw [e]
  cases ((all p).take k).drop j with
  | nil => left; rw [List.append_nil]; exact (hold_eq _ _).2 rfl
  | cons a m => right; exact hold_front _ a m
theorem cmp_any {p q : List Run} (hp : anyB p = true) (hq : anyB q = true) : cmp p q = Go.Proofs.Ytdackenaknieaaa.Place.hold (all p) (all q) := by
  unfold cmp; rw [if_pos ⟨hp, hq⟩]
theorem cmp_back {F p : List Run} (hF : anyB F = true) (h : mayB p = true) {j k : Nat} (hj : j ≤ k) (hk : cmp (cutN p k) F < 0) : cmp F (cutN p j) > 0 := by
  rw [cmp_any (any_cutN h) hF] at hk
  rw [cmp_any hF (any_cutN h)]
  have h1 := hold_range (all (cutN p k)) (all F)
  have h2 := hold_neg (all (cutN p j)) (all F)
  have h3 : Go.Proofs.Ytdackenaknieaaa.Place.hold (all (cutN p j)) (all F) = -1 := by
    rcases cut_ahead h hj with e | e
    · rw [(hold_eq _ _).1 e]; omega
    · exact hold_trans _ _ _ e (by omega)
  omega

/-! ### The walk -/
/-- From a stamp on, all that is homed in the section is there. -/
def okN (l : List Opn) (s : Id) (o : Opn) (k : Nat) : Prop := ∀ j, k ≤ j → j < (all o.pl).length → homeM (livesM l l) (cutN o.pl (j + 1)) = s → hasO l ((all o.pl).getD j zid) = true
theorem ok_end (l : List Opn) (s : Id) (o : Opn) : okN l s o (all o.pl).length := fun j h1 h2 => by omega
theorem ok_zero {l : List Opn} {s : Id} {o : Opn} (h : okN l s o 0) : isB l (livesM l l) s o = true :=
  isB_iff.2 fun k hk e => h k (by omega) (by have := manyN_le o; omega) e
theorem ok_break {l : List Opn} {s : Id} {o : Opn} {k : Nat} (hE : spanE l s = 0) (ho : o ∈ l) (h : okN l s o k) (hk : cmp (cutN o.pl k) (fromL l s) < 0) : isB l (livesM l l) s o = true := by
  have hm := (mayO_parts ((spanE_zero.1 hE).1.2.1 o ho)).2.1
  refine isB_iff.2 fun j hj e => ?_
  by_cases hjk : k ≤ j
  · exact h j hjk (by have := manyN_le o; omega) e
  · exfalso
    have h1 := cmp_back (from_any hE) hm (show j + 1 ≤ k by omega) hk
    have h2 := homB_is hE (any_cutN (k := j + 1) hm)
    rw [decide_eq_true e] at h2
    unfold homB at h2
    rw [decide_eq_false (by omega)] at h2
    simp at h2
theorem ok_step {l : List Opn} {s : Id} {o : Opn} {k : Nat} (h : okN l s o (k + 1)) (hh : hasO l ((all o.pl).getD k zid) = true) : okN l s o k := fun j h1 h2 e => by
  by_cases hjk : j = k
  · subst hjk; exact hh
  · exact h j (by omega) h2 e
theorem own_last {o : Opn} (h : mayO o = true) (hk : ownB o = true) : (all o.pl).getD ((all o.pl).length - 1) zid = idO o := by
  have h3 := (mayO_parts h).2.2
  have hl := lastV_all (mayO_parts h).2.1
  unfold kindB kindF at h3
  unfold ownB at hk
  rw [hl] at h3
  have : o.k = 1 ∨ o.k = 2 := by simpa using hk
  have h4 : (((((all o.pl).getD ((all o.pl).length - 1) zid).t : Int), (((all o.pl).getD ((all o.pl).length - 1) zid).r : Int)) : Int × Int) = ((o.t : Int), (o.r : Int)) := by
    rcases this with e | e
    · rw [e] at h3; simp at h3; simpa using h3.1
    · rw [e] at h3; simp at h3; simpa using h3.1
  obtain ⟨h5, h6⟩ := Prod.mk.inj h4
  exact Id.ext' (by show _ = o.t; omega) (by show _ = o.r; omega)
theorem ok_no {l : List Opn} {s : Id} {o : Opn} {k : Nat} (hE : spanE l s = 0) (ho : o ∈ l) (hB : homB (fromL l s) (toL l s) o.pl = true) (hk : k < (all o.pl).length)
    (h1 : ¬ cmp (cutN o.pl (k + 1)) (fromL l s) < 0) (h2 : hasO l ((all o.pl).getD k zid) = false) : isB l (livesM l l) s o = false := by
  have hO := (spanE_zero.1 hE).1.2.1 o ho
  have hm := (mayO_parts hO).2.1
  have hc := ((mayB_iff o.pl).1 hm).2.2.1
  have hkm : k < manyN o := by
    unfold manyN offs
    by_cases hw : ownB o = true
    · rw [if_pos hw]
      by_cases he : k = (all o.pl).length - 1
      · rw [he, own_last hO hw] at h2
        exact absurd rfl (hasO_no.1 h2 o ho)
      · omega
    · rw [if_neg hw]; omega
  have hh : homeM (livesM l l) (cutN o.pl (k + 1)) = s := by
    have e := homB_is hE (any_cutN (k := k + 1) hm)
    have hF := from_any hE
    have e2 : homB (fromL l s) (toL l s) (cutN o.pl (k + 1)) = true := by
      unfold homB at hB ⊢
      rw [Bool.and_eq_true, Bool.or_eq_true, decide_eq_true_iff, decide_eq_true_iff, decide_eq_true_iff] at hB ⊢
      refine ⟨?_, hB.2.imp id fun h => ?_⟩
      · rw [cmp_any hF (any_cutN hm)]
        rw [cmp_any (any_cutN hm) hF] at h1
        have := hold_neg (all (cutN o.pl (k + 1))) (all (fromL l s))
        omega
      · have hT : anyB (toL l s) = true := by
          obtain ⟨hb, hs⟩ := spanE_zero.1 hE
          unfold toL
          rw [if_pos ⟨(bagB_iff l).2 hb, hs⟩]
          exact begin_any (liv_bag hb) _
        rw [cmp_any (anyB_may hm) hT] at h
        rw [cmp_any (any_cutN hm) hT]
        have h3 := hold_range (all o.pl) (all (toL l s))
        have h4 := cut_ahead hm (show k + 1 ≤ (all o.pl).length by omega)
        rw [cutN_all hc] at h4
        rcases h4 with h5 | h5
        · rw [(hold_eq _ _).1 h5]; omega
        · have := hold_trans _ _ _ h5 (show Go.Proofs.Ytdackenaknieaaa.Place.hold (all o.pl) (all (toL l s)) = -1 by omega)
          omega
    rw [e2] at e
    exact of_decide_eq_true e.symm
  cases hz : isB l (livesM l l) s o
  · rfl
  · have := isB_iff.1 hz k hkm hh
    rw [this] at h2
    cases h2

/-! ### The last stamp taken -/
/-- A place without its last stamp, by its last run. -/
def downL (p : List Run) : List Run := p.take (p.length - 1) ++ (if (p.getD (p.length - 1) zrun).m = 1 then [] else [mkRun (p.getD (p.length - 1) zrun).t (p.getD (p.length - 1) zrun).r ((p.getD (p.length - 1) zrun).m - 1)])
theorem down_is : ∀ {p : List Run}, Chain p → 0 < p.length → cutN p ((all p).length - 1) = downL p
  | [], _, h => by simp at h
  | [x], hc, _ => by
    obtain ⟨n, hn, n1, n2, n3, n4⟩ := hc.head.nat
    have e : (all [x]).length = n := by
      show (up x.t x.r x.m.toNat ++ []).length = n
      rw [List.append_nil, up_len]; omega
    rw [e]
    unfold downL cutN
    simp only [List.length_singleton, Nat.sub_self, List.take_zero, List.nil_append, List.getD_cons_zero]
    by_cases h1 : x.m = 1
    · rw [if_pos h1, if_pos (by omega)]
    · rw [if_neg h1, if_neg (by omega), if_neg (by omega)]
      congr 2
      omega
  | x :: y :: p, hc, _ => by
    obtain ⟨n, hn, n1, n2, n3, n4⟩ := hc.head.nat
    have ih := down_is hc.tail (by simp)
    obtain ⟨m, hm, m1, m2, m3, m4⟩ := hc.tail.head.nat
    have e2 : 1 ≤ (all (y :: p)).length := by
      show 1 ≤ (up y.t y.r y.m.toNat ++ all p).length
      rw [List.length_append, up_len]; omega
    have e : (all (x :: y :: p)).length = n + (all (y :: p)).length := by
      show (up x.t x.r x.m.toNat ++ all (y :: p)).length = _
      rw [List.length_append, up_len]; omega
    have e3 : cutN (x :: y :: p) ((all (x :: y :: p)).length - 1) = x :: cutN (y :: p) ((all (y :: p)).length - 1) := by
      rw [e]
      conv => lhs; unfold cutN
      rw [if_neg (by omega), if_pos (by omega)]
      congr 2
      omega
    rw [e3, ih]
    unfold downL
    simp
theorem cut_down {p : List Run} (h : mayB p = true) {k : Nat} (hk : k < (all p).length) : cutN p k = downL (cutN p (k + 1)) := by
  have hc := ((mayB_iff p).1 h).2.2.1
  have hm := may_cutN (k := k + 1) h (by omega)
  have e : (all (cutN p (k + 1))).length = k + 1 := by rw [all_cutN hc, List.length_take]; omega
  rw [← down_is (chain_cutN hc) ((mayB_iff _).1 hm).1, e, cutN_cutN hc (by omega)]
  rfl
end Go.Proofs.Ytdackenaknieaaa.Covers

/- A map from stamps to nothing, as a set of stamps. Conditions: none. -/
namespace Go.Proofs.Ytdackenaknieaaa
open Go.RowKit Go.WideShapes
open Go.Maps (Keyed IsMap)

theorem laidOut : laidOutB Try.prog = true := by kernel_rfl
theorem idRow : (32 : TypeId) < Try.prog.types.size := of_decide_eq_true (by kernel_rfl)
theorem idWide : (match Try.prog.underlying 32 with | some (.array _ _) | some (.struct _) => true | _ => false) = true := by rw [Try.underlying32]
set_option maxRecDepth 100000 in
theorem idLaw : Keyed Try.prog 32 := Keyed.of_law (deep_law_laid laidOut (m := 2) (by omega) idRow (by kernel_rfl) idWide)
theorem idType : Try.prog.keyType 32 = true := by kernel_rfl
theorem idCells : Try.prog.cellsOf 32 = 2 := by kernel_rfl
theorem idCell0 : Try.prog.cellsOf 30 = 1 := by kernel_rfl
theorem idCell1 : Try.prog.cellsOf 5 = 1 := by kernel_rfl
theorem idKey_some (a : Id) : ∃ l, keyOf Try.prog 32 (idv a) = some l := by
  obtain ⟨n, hn⟩ : ∃ n, Try.prog.types.size = n + 1 := by
    have h := idRow
    generalize Try.prog.types.size = s at h ⊢
    cases s with
    | zero => exact absurd h (Nat.not_lt_zero _)
    | succ n => exact ⟨n, rfl⟩
  have w0 : (Lit.int .u32 (a.t : Int)).wf = true := by
    have h1 : IntKind.u32.min = 0 := by decide
    have h2 : IntKind.u32.max = 4294967295 := by decide
    have := a.ht
    simp [Lit.wf, h1, h2]
    omega
  have w1 : (Lit.int .u8 (a.r : Int)).wf = true := by
    have h1 : IntKind.u8.min = 0 := by decide
    have h2 : IntKind.u8.max = 255 := by decide
    have := a.hr
    simp [Lit.wf, h1, h2]
    omega
  unfold keyOf idv
  rw [Try.underlying32, idType, hn]
  simp [Value.formed, Program.keyLits, Try.underlying32, Try.underlying30, Try.underlying5, idCells, idCell0, idCell1, w0, w1, Value.cells]
/-- A stamp as a key. -/
noncomputable def key (a : Id) : Lit := (keyOf Try.prog 32 (idv a)).getD (.bool true)
theorem key_of (a : Id) : keyOf Try.prog 32 (idv a) = some (key a) := by
  obtain ⟨l, hl⟩ := idKey_some a
  unfold key
  rw [hl]
  rfl
theorem key_inj {a b : Id} (h : key a = key b) : a = b := by
  have h1 := key_of a
  rw [h] at h1
  have := idLaw.inj h1 (key_of b)
  unfold idv at this
  simp at this
  exact Id.ext' (by omega) (by omega)
/-- Block b is a map with just these stamps. -/
def SetI (w : World) (b n : Nat) (S : Id → Bool) : Prop := ∃ D : DataW Value, w.ownsMap Try.prog 32 unitElem b n D ∧ ∀ a : Id, Maps.has D (key a) = S a
theorem SetI.made (w : World) : SetI (w.alloc (.map #[] 0)) w.heap.size 0 (fun _ => false) := ⟨_, World.ownsMap_made w _ _ _, fun _ => rfl⟩
theorem SetI.keeps {w w' : World} {b n : Nat} {S : Id → Bool} (h : SetI w b n S) (hb : Below w.heap.size w w') : SetI w' b n S := by
  obtain ⟨D, ⟨es, clock, h1, h2, h3, h4⟩, h5⟩ := h
  exact ⟨D, ⟨es, clock, (hb.block b (Array.getElem?_eq_some_iff.1 h1).1).trans h1, h2, h3, h4⟩, h5⟩
theorem SetI.lt {w : World} {b n : Nat} {S : Id → Bool} (h : SetI w b n S) : b < w.heap.size := by
  obtain ⟨D, h1, _⟩ := h
  exact h1.lt
theorem SetI.kept {w w' : World} {b n : Nat} {S : Id → Bool} {row : Option Nat} (h : SetI w b n S) (hg : w.grownBy w' row) (hne : some b ≠ row) : SetI w' b n S := by
  obtain ⟨D, h1, h2⟩ := h
  exact ⟨D, h1.kept hg hne, h2⟩
theorem SetI.ext {w : World} {b n : Nat} {S T : Id → Bool} (h : SetI w b n S) (e : ∀ a, S a = T a) : SetI w b n T := by
  obtain ⟨D, h1, h2⟩ := h
  exact ⟨D, h1, fun a => (h2 a).trans (e a)⟩
set_option maxRecDepth 100000 in
/-- A store of one more, at the operation. -/
theorem wpList_put_set (w : World) {ops : Array Oper} {rest : List Oper} {o : Oper} {a : Act} {Q : Exit → Act → World → Prop}
    (hg : o.guard = none) (m x v : Operand) (t e : TypeId) (hop : o.op = Op.mapUpdate t m x v) (ht : Try.prog.underlying t = some (.map 32 e))
    (b n : Nat) (i : Id) (S : Id → Bool) (hM : SetI w b n S) (hn : n < 9223372036854775807) (hm : a.eval m = .map (some b)) (hx : a.eval x = .agg #[.int .u32 (i.t : Int), .int .u8 (i.r : Int)]) (hv : a.eval v = .agg #[])
    (hK : ∀ w', SetI w' b (n + 1) (fun k => decide (k = i) || S k) → w.grownBy w' (some b) → wpList Try.prog ops Q rest (a.put o.dst undef) w') : wpList Try.prog ops Q (o :: rest) a w := by
  obtain ⟨D, h1, h2⟩ := hM
  refine wpList_mapUpdate_own w hg m x v t hop 32 e idLaw ht unitElem b n D hm h1 (by unfold maxLen; omega) (idv i) (.agg #[]) (key i) hx hv (key_of i) (.agg []) [] unitElem_mk (fun w' h g => hK w' ⟨_, h, fun k => ?_⟩ g)
  by_cases hk : k = i
  · subst hk
    rw [Maps.has_put_same h1.isMap (idLaw.key (key_of k))]
    simp
  · rw [Maps.has_put_other (fun e => hk (key_inj e)), h2 k]
    simp [hk]
theorem del_size {w : World} {b n : Nat} {D : DataW Value} (h : w.ownsMap Try.prog 32 unitElem b n D) (i : Id) : decide (Maps.size (D.del (key i)) < Maps.size D) = Maps.has D (key i) := by
  have e := Maps.size_del (h.tidy idLaw) (k := key i)
  cases hh : Maps.has D (key i) <;> rw [hh] at e <;> simp at e
  · exact decide_eq_false (by omega)
  · exact decide_eq_true (by omega)
theorem del_has {D : DataW Value} {S : Id → Bool} (h : ∀ a : Id, Maps.has D (key a) = S a) (i : Id) : ∀ a : Id, Maps.has (D.del (key i)) (key a) = (S a && !decide (a = i)) := fun a => by
  by_cases e : a = i
  · subst e
    rw [Maps.has_del_same]
    simp
  · rw [Maps.has_del_other (fun k => e (key_inj k)), h a]
    simp [e]
end Go.Proofs.Ytdackenaknieaaa

/- octavo/cover.cut, asking and what it makes, section.homes: what each answers. Conditions: the slices' cells are runs, operations. -/
namespace Go.Proofs.Ytdackenaknieaaa.Covers
open Go.RowKit Go.WideShapes Stamp Go.Proofs.Ytdackenaknieaaa.Place Ops Codes Bags Marks Homes
attribute [local go_sem ↓] Go.wp_at_zero Go.wp_at_succ
attribute [local go_sem] yielded_undef

theorem own_less {w : World} {B n k cap sz : Nat} {e : TypeId} {ao : Option Addr} {cs : List Value} (h : w.ownsRow B e sz (.slice ao n cap) n cs) (hk : k ≤ n) (hn : 0 < n) : w.ownsRow B e sz (.slice ao k cap) k (cs.take (k * sz)) := by
  obtain ⟨hl, h⟩ := h
  rcases h with ⟨h1, h2⟩ | ⟨g, c, cur, h1, h2, h3, h4, h5, h6, h7⟩
  · omega
  · cases h1
    refine ⟨by rw [List.length_take, hl]; exact Nat.min_eq_left (Nat.mul_le_mul_right _ hk), .inr ⟨g, cap, cur, rfl, h2, h3, by omega, h5, h6, ?_⟩⟩
    rw [← h7, List.take_take, Nat.min_eq_left (Nat.mul_le_mul_right _ hk)]
theorem runs_take (l : List Run) (k : Nat) (h : k ≤ l.length) : runs (l.take k) = (runs l).take (k * 3) := by
  have e : runs l = runs (l.take k) ++ runs (l.drop k) := by rw [← runs_append, List.take_append_drop]
  rw [e, List.take_append_of_le_length (by rw [runs_len, List.length_take]; omega)]
  exact (List.take_of_length_le (by rw [runs_len, List.length_take]; omega)).symm
theorem runs_last {l : List Run} (hl : 0 < l.length) {m : Int} (hm : -9223372036854775808 ≤ m ∧ m ≤ 9223372036854775807) :
    (runs l).set ((l.length - 1) * 3 + 2) (.int .i64 m) = runs (l.take (l.length - 1) ++ [mkRun (l.getD (l.length - 1) zrun).t (l.getD (l.length - 1) zrun).r m]) := by
  obtain ⟨k, hk⟩ : ∃ k, l.length = k + 1 := ⟨l.length - 1, by omega⟩
  have e : l = l.take k ++ [l.getD k zrun] := by
    have := List.take_append_drop k l
    rw [List.drop_eq_getElem_cons (by omega), List.drop_eq_nil_iff.2 (by omega)] at this
    rw [show l.getD k zrun = l[k] by rw [List.getD_eq_getElem?_getD, List.getElem?_eq_getElem (by omega)]; rfl]
    exact this.symm
  obtain ⟨x, hx⟩ : ∃ x, l.getD k zrun = x := ⟨_, rfl⟩
  rw [hk, Nat.add_sub_cancel, hx]
  rw [hx] at e
  have hl2 : (l.take k).length = k := by rw [List.length_take]; omega
  have e2 : runs l = runs (l.take k) ++ runs [x] := by rw [← runs_append, ← e]
  rw [e2, List.set_append_right _ _ (by rw [runs_len, hl2]; omega), runs_append]
  congr 1
  rw [runs_len, hl2, show k * 3 + 2 - k * 3 = 2 by omega]
  show [Value.int .u32 (x.t : Int), .int .u8 (x.r : Int), .int .i64 m] = [Value.int .u32 ((mkRun x.t x.r m).t : Int), .int .u8 ((mkRun x.t x.r m).r : Int), .int .i64 (mkRun x.t x.r m).m]
  rw [mkRun_t x.ht, mkRun_r x.hr, mkRun_m hm]
theorem down_len {p : List Run} (hp : 0 < p.length) : (downL p).length = if (p.getD (p.length - 1) zrun).m = 1 then p.length - 1 else p.length := by
  unfold downL
  rw [List.length_append, List.length_take]
  split <;> simp <;> omega

set_option maxRecDepth 100000 in
set_option maxHeartbeats 4000000 in
theorem vcut_any {v : Value} {p : List Run} {B : Nat} {w : World} (hv : w.ownsRow B 48 3 v p.length (runs p)) (hp : 0 < p.length) (hl : p.length ≤ 1000) (hc : Chain p) :
    Calls Try.prog 39 #[v] w fun e w' => (∃ ao cap, e = .returned (.slice ao (downL p).length cap) ∧ w'.ownsRow B 48 3 (.slice ao (downL p).length cap) (downL p).length (runs (downL p))) ∧ Below B w w' := by
  obtain ⟨ao, cap, rfl⟩ : ∃ ao cap, v = .slice ao p.length cap := Sees.shape (Sees.own hv)
  obtain ⟨g, rfl⟩ : ∃ g, ao = some ⟨g, 0, none⟩ := by
    rcases hv.2 with ⟨_, h⟩ | ⟨g, c, cur, h, _⟩
    · omega
    · cases h; exact ⟨g, rfl⟩
  have hg : B ≤ g := by
    rcases hv.2 with ⟨_, h⟩ | ⟨g', c, cur, h, h2, _⟩
    · omega
    · cases h; exact h2
  obtain ⟨x, hx⟩ : ∃ x, p.getD (p.length - 1) zrun = x := ⟨_, rfl⟩
  have hone : Go.Proofs.Ytdackenaknieaaa.Place.One x := by rw [← hx]; exact chain_one hc (by omega)
  obtain ⟨n, hn⟩ : ∃ n, p.length = n := ⟨_, rfl⟩
  obtain ⟨k, rfl⟩ : ∃ k, n = k + 1 := ⟨n - 1, by omega⟩
  have hdl := down_len hp
  have hset := runs_last hp (m := x.m - 1) (by have := hone.2.2.2; omega)
  have hdn : downL p = p.take k ++ (if x.m = 1 then [] else [mkRun x.t x.r (x.m - 1)]) := by unfold downL; rw [hx, hn]; rfl
  rw [hx, hn] at hdl hset
  rw [Nat.add_sub_cancel] at hset hdl
  rw [hn] at hv
  have xm : w.cell? ⟨g, k * 3 + 2, none⟩ = some (.int .i64 x.m) := by
    rw [hv.cellAt (k * 3 + 2) (by omega), (runs_get p k (by omega)).2.2, show p.getD k zrun = x by rw [← hx, hn]; rfl]
  have xf : w.frozen? ⟨g, k * 3 + 2, none⟩ = false := hv.frozenAt _
  have h1 := hone.2.2.2.1
  have h2 := hone.2.2.2.2.1
  have hst := (hv.stored (k * 3 + 2) (.int .i64 (x.m - 1))).1
  rw [hset] at hst
  have BW : Hid (Below B w (w.setCell ⟨g, k * 3 + 2, none⟩ (.int .i64 (x.m - 1)))) := (Below.refl _ _).setCell (p := ⟨g, k * 3 + 2, none⟩) hg _
  have ym : (w.setCell ⟨g, k * 3 + 2, none⟩ (.int .i64 (x.m - 1))).cell? ⟨g, k * 3 + 2, none⟩ = some (.int .i64 (x.m - 1)) := by
    rw [hst.cellAt (k * 3 + 2) (by omega)]
    have e := (runs_get (p.take k ++ [mkRun x.t x.r (x.m - 1)]) k (by simp; omega)).2.2
    rw [e]
    have e3 : (p.take k ++ [mkRun x.t x.r (x.m - 1)]).getD k zrun = mkRun x.t x.r (x.m - 1) := by
      rw [List.getD_eq_getElem?_getD, List.getElem?_append_right (by rw [List.length_take]; omega), List.length_take, Nat.min_eq_left (by omega)]
      simp
    rw [e3, mkRun_m (by omega)]
  have OW : Hid ((w.setCell ⟨g, k * 3 + 2, none⟩ (.int .i64 (x.m - 1))).ownsRow B 48 3 (.slice (some ⟨g, 0, none⟩) (k + 1) cap) (k + 1) (runs (p.take k ++ [mkRun x.t x.r (x.m - 1)]))) := hst
  have hcap : k + 1 ≤ cap ∧ cap ≤ 9223372036854775807 := by
    have := (Sees.cap (Sees.own hv)).2
    exact ⟨this.1, this.2.1⟩
  have hk0 : ((k + 1 : Nat) : Int) - 1 = (k : Int) := by omega
  have e1 : ((k : Int) + 1) - 1 = (k : Int) := by omega
  have e2 : IntKind.i64.wrap (k : Int) = (k : Int) := IntWalk.i64_in _ (by omega)
  have w0 : (0 : Int) ≤ (k : Int) := by omega
  have w1 : (k : Int) < (k : Int) + 1 := by omega
  have w2 : (k : Int) ≤ (cap : Int) := by omega
  have e4 : IntKind.i64.wrap (x.m - 1) = x.m - 1 := IntWalk.i64_in _ (by omega)
  have hkp : k ≤ p.length := by omega
  obtain ⟨WX, hWX⟩ : ∃ W, w.setCell ⟨g, k * 3 + 2, none⟩ (.int .i64 (x.m - 1)) = W := ⟨_, rfl⟩
  rw [hWX] at OW BW ym
  obtain ⟨m, hm⟩ : ∃ m, x.m = m := ⟨_, rfl⟩
  rw [hm] at hdn hdl xm h1 h2 e4 OW ym hWX
  have HDN := Lib.hid hdn
  have HDL := Lib.hid hdl
  clear hdn hdl hset hst hone hv hl hc hx
  rw [hn]
  by_cases hm1 : m = 1
  · subst hm1
    have q : decide ((1 : Int) - 1 = 0) = true := by decide
    have L2 : Hid ((downL p).length = k) := by have := HDL.out; rwa [if_pos rfl] at this
    have OK : Hid (WX.ownsRow B 48 3 (.slice (some ⟨g, 0, none⟩) k cap) k (runs (downL p))) := by
      have h := own_less OW.out (Nat.le_succ k) (Nat.succ_pos k)
      rw [← runs_take _ _ (by simp; omega), List.take_append_of_le_length (by rw [List.length_take]; omega), List.take_take, Nat.min_self] at h
      unfold Hid
      rw [HDN.out, if_pos rfl, List.append_nil]
      exact h
    have hWX0 : w.setCell ⟨g, k * 3 + 2, none⟩ (.int .i64 0) = WX := hWX
    clear OW HDN HDL hm hn hWX
    go_enter Try.func39, Try.ntmps39
    go_wp2
    go_ret
    rw [L2.out]
    exact ⟨⟨_, _, rfl, OK.out⟩, BW.out⟩
  · have q : decide (m - 1 = 0) = false := decide_eq_false (by omega)
    have q0 : ¬ m - 1 = 0 := by omega
    have L2 : Hid ((downL p).length = k + 1) := by have := HDL.out; rwa [if_neg hm1] at this
    have OK : Hid (WX.ownsRow B 48 3 (.slice (some ⟨g, 0, none⟩) (k + 1) cap) (k + 1) (runs (downL p))) := by
      unfold Hid
      rw [HDN.out, if_neg hm1]
      exact OW.out
    clear OW HDN HDL hm hn
    go_enter Try.func39, Try.ntmps39
    go_wp2
    go_ret
    rw [L2.out]
    exact ⟨⟨_, _, rfl, OK.out⟩, BW.out⟩

theorem ZU (w : World) : (zeroValue 86).run Try.prog w = .ok (.agg #[]) w := by kernel_rfl
set_option maxRecDepth 100000 in
set_option maxHeartbeats 4000000 in
/-- What asking makes, called: is there an operation of a stamp? -/
theorem there_any {b n g : Nat} {S : Id → Bool} (a : Id) {w : World} (hs : SetI w b n S) (hc : w.cell? ⟨g, 0, none⟩ = some (.map (some b))) (hg : g < w.heap.size) :
    Calls Try.prog 55 #[.agg #[.int .u32 (a.t : Int), .int .u8 (a.r : Int)], .pointer (some ⟨g, 0, none⟩)] w fun e w' => e = .returned (.bool (S a)) ∧ Below w.heap.size w w' := by
  have B0 : Below w.heap.size w (w.alloc (.cells #[.int .u32 (a.t : Int), .int .u8 (a.r : Int)] 32)) := (Below.refl _ _).alloc (Nat.le_refl _) _
  obtain ⟨D, d1, d2⟩ := hs.keeps B0
  obtain ⟨v, ps, hrun, hv⟩ := d1.look_ok idLaw Try.underlying65 (ZU _) unitElem_mk (key_of a)
  obtain ⟨rfl, _⟩ := unitElem_inv hv
  rw [d2 a] at hrun
  unfold idv at hrun
  have c0 := (B0.cell (p := ⟨g, 0, none⟩) hg).trans hc
  have B1 : Hid (Below w.heap.size w ((w.alloc (.cells #[.int .u32 (a.t : Int), .int .u8 (a.r : Int)] 32)).alloc (.cells #[] 86))) := B0.alloc (by simp) _
  obtain ⟨q, hq⟩ : ∃ q, S a = q := ⟨_, rfl⟩
  rw [hq] at hrun ⊢
  clear hs hc d1 d2 hv B0 hq
  go_enter Try.func55, Try.ntmps55
  go_wp2
  go_ret
  exact ⟨rfl, B1.out⟩

theorem hasO_snoc {l : List Opn} {x : Opn} (a : Id) : hasO (l ++ [x]) a = (hasO l a || decide (idO x = a)) := by
  rw [Bool.eq_iff_iff, Bool.or_eq_true, hasO_iff, hasO_iff, decide_eq_true_iff]
  simp only [List.mem_append, List.mem_singleton]
  constructor
  · rintro ⟨o, h | rfl, e⟩
    · exact .inl ⟨o, h, e⟩
    · exact .inr e
  · rintro (⟨o, h, e⟩ | e)
    · exact ⟨o, .inl h, e⟩
    · exact ⟨x, .inr rfl, e⟩
set_option maxRecDepth 100000 in
set_option maxHeartbeats 4000000 in
theorem asking_any {v : Value} {l : List Opn} {w : World} (hv : OpL w v l) (hl : l.length ≤ 1024) :
    Calls Try.prog 36 #[v] w fun e w' => ∃ g b n, e = .returned (.func (.func 55) #[] #[.pointer (some ⟨g, 0, none⟩)]) ∧ g < w'.heap.size ∧ w'.cell? ⟨g, 0, none⟩ = some (.map (some b)) ∧ SetI w' b n (hasO l) ∧ Below w.heap.size w w' := by
  obtain ⟨ao, cap, rfl⟩ := hv.shape
  obtain ⟨n, hn⟩ : ∃ n, n = l.length := ⟨_, rfl⟩
  have HV : Hid (∀ W : World, Below w.heap.size w W → OpL W (.slice ao l.length cap) l) := fun W h => hv.keeps h
  have HN := Lib.hid hn
  rw [← hn] at hl ⊢
  have hmm := @run_makeMap Try.prog
  obtain ⟨wl, hwl⟩ : ∃ wl, (w.alloc (.map #[] 0)).alloc (.cells #[.map (some w.heap.size)] 65) = wl := ⟨_, rfl⟩
  have hsz : (w.alloc (.map #[] 0)).heap.size = w.heap.size + 1 := Array.size_push _
  have BA : Below (w.alloc (.map #[] 0)).heap.size (w.alloc (.map #[] 0)) wl := by rw [← hwl]; exact (Below.refl _ _).alloc (Nat.le_refl _) _
  have S0 : Hid (SetI wl w.heap.size 0 (hasO (l.take 0))) := by
    have h : SetI (w.alloc (.map #[] 0)) w.heap.size 0 (hasO (l.take 0)) := (SetI.made w).ext (fun a => by rw [List.take_zero]; rfl)
    exact h.keeps BA
  have X0 : Hid (wl.heap[w.heap.size + 1]? = some (.cells #[.map (some w.heap.size)] 65)) := by rw [← hwl]; exact blk_new hsz
  have B0 : Hid (Below w.heap.size w wl) := by rw [← hwl]; exact ((Below.refl _ _).alloc (Nat.le_refl _) _).alloc (by rw [hsz]; omega) _
  have HW := Lib.hid hwl
  clear hv hn hwl BA hsz
  go_enter Try.func36, Try.ntmps36
  go_wp2
  rw [HW.out]
  go_loopw [9] (fun i wr => ∃ j : Nat, j ≤ n ∧ i = .int .i64 (j : Int) ∧ Hid (SetI wr w.heap.size j (hasO (l.take j))) ∧ Hid (wr.heap[w.heap.size + 1]? = some (.cells #[.map (some w.heap.size)] 65)) ∧ Hid (Below w.heap.size w wr)) (fun i _ => n - (intOf i).toNat)
  case atStart => exact ⟨0, by omega, rfl, S0, X0, B0⟩
  case round =>
    clear S0 B0 X0 HW
    obtain ⟨j, hj, rfl, hset, hblk, hbel⟩ := hrel
    by_cases hjn : j < n
    rotate_left
    · have q3 : decide (j < n) = false := by simpa using hjn
      have hkk : l.take j = l := List.take_of_length_le (by have := HN.out; omega)
      rw [hkk] at hset
      have hsz : Hid (w.heap.size + 1 < wr.heap.size) := (Array.getElem?_eq_some_iff.1 hblk.out).1
      have hce : Hid (wr.cell? ⟨w.heap.size + 1, 0, none⟩ = some (.map (some w.heap.size))) := cell_of_row _ _ 0 _ _ _ hblk.out
      obtain rfl : j = n := by omega
      clear hkk
      go_wp2
      go_ret
      exact ⟨_, _, _, rfl, hsz.out, hce.out, hset.out, hbel.out⟩
    have q3 : decide (j < n) = true := by simpa using hjn
    have q4 : (0 : Int) ≤ (j : Int) := by omega
    have q5 : (j : Int) < (n : Int) := by omega
    have hjl : j < l.length := by rw [← HN.out]; exact hjn
    obtain ⟨bb, oo, u, e, hbb, hru, h0, h1, h2, h3, h4⟩ := opl_at (HV.out wr hbel.out) j hjl
    subst e
    obtain ⟨x, hx⟩ : ∃ x, x = l[j]'hjl := ⟨_, rfl⟩
    rw [← hx] at hru h0 h1 h2 h4
    have HSN : Hid (∀ a, hasO (l.take (j + 1)) a = (hasO (l.take j) a || decide (idO x = a))) := fun a => by rw [List.take_succ_eq_append_getElem hjl, hasO_snoc, hx]
    obtain ⟨uo, uc, rfl⟩ := hru.shape
    obtain ⟨nu, hnu⟩ : ∃ n, n = x.pl.length := ⟨_, rfl⟩
    rw [← hnu] at h3
    clear hru hx hnu
    obtain ⟨k, t, r, pl, p, hk, ht, hr, hp⟩ := x
    simp only at h0 h1 h2 h4
    have BL : Hid (Below wr.heap.size wr (wr.alloc (.cells #[.int .u8 (k : Int), .int .u32 (t : Int), .int .u8 (r : Int), .slice uo nu uc, .int .i64 p] 35))) := (Below.refl _ _).alloc (Nat.le_refl _) _
    have SL := Lib.hid (hset.out.keeps BL.out)
    have XL := Lib.hid (blk_below BL.out hblk.out)
    have BW := Lib.hid (bt hbel.out BL.out)
    have c0 := cell_of_row _ _ 0 _ _ _ XL.out
    clear hset hblk BL
    go_wp2_with (at_mapUpdate; refine wpList_put_set _ rfl _ _ _ 65 86 rfl Try.underlying65 w.heap.size j ⟨t, r, ht, hr⟩ (hasO (l.take j)) SL.out (by omega) rfl rfl rfl ?_)
    intro w3 s3 g3
    have S3 : Hid (SetI w3 w.heap.size (j + 1) (hasO (l.take (j + 1)))) := s3.ext (fun a => by
      rw [HSN.out a, Bool.or_comm]
      simp [eq_comm, idO])
    have X3 := Lib.hid (blk_grown g3 (by simp) XL.out)
    have B3 : Hid (Below w.heap.size w w3) := BW.out.grown g3 BW.out.size (fun i e => by cases e; exact Nat.le_refl _)
    clear s3 g3 SL XL BW c0
    go_wp2
    go_roundw
    case rel => exact ⟨j + 1, by omega, by go_num, S3, X3, B3⟩
    case measure => simp [intOf]; omega

set_option maxRecDepth 100000 in
set_option maxHeartbeats 4000000 in
theorem homes_any {va vb u th : Value} {F T : List Run} {o : Opn} {w : World} (ha : Runs w va F) (hb : Runs w vb T) (hu : Runs w u o.pl) (hth : ∃ f x y, th = .func f x y) :
    Calls Try.prog 20 #[.agg #[va, vb, th], opv o u] w fun e w' => e = .returned (.bool (homB F T o.pl)) ∧ Below w.heap.size w w' := by
  have C1 : Hid (∀ W : World, Below w.heap.size w W → Calls Try.prog 25 #[va, u] W fun e w' => e = .returned (.int .i64 (cmp F o.pl)) ∧ Below W.heap.size W w') := fun W h => pCompare_any (ha.keeps h) (hu.keeps h)
  have C2 : Hid (∀ W : World, Below w.heap.size w W → Calls Try.prog 25 #[u, vb] W fun e w' => e = .returned (.int .i64 (cmp o.pl T)) ∧ Below W.heap.size W w') := fun W h => pCompare_any (hu.keeps h) (hb.keeps h)
  obtain ⟨f1, f2, f3, rfl⟩ := hth
  obtain ⟨ao, ac, rfl⟩ := ha.shape
  obtain ⟨bo, bc, rfl⟩ := hb.shape
  obtain ⟨uo, uc, rfl⟩ := hu.shape
  have B0 : Hid (Below w.heap.size w ((w.alloc (.cells #[.slice ao F.length ac, .slice bo T.length bc, .func f1 f2 f3] 55)).alloc (.cells #[.int .u8 (o.k : Int), .int .u32 (o.t : Int), .int .u8 (o.r : Int), .slice uo o.pl.length uc, .int .i64 o.p] 35))) := ((Below.refl _ _).alloc (Nat.le_refl _) _).alloc (by simp) _
  have SK : Hid (∀ W : World, Below ((w.alloc (.cells #[.slice ao F.length ac, .slice bo T.length bc, .func f1 f2 f3] 55)).alloc (.cells #[.int .u8 (o.k : Int), .int .u32 (o.t : Int), .int .u8 (o.r : Int), .slice uo o.pl.length uc, .int .i64 o.p] 35)).heap.size ((w.alloc (.cells #[.slice ao F.length ac, .slice bo T.length bc, .func f1 f2 f3] 55)).alloc (.cells #[.int .u8 (o.k : Int), .int .u32 (o.t : Int), .int .u8 (o.r : Int), .slice uo o.pl.length uc, .int .i64 o.p] 35)) W →
      W.cell? ⟨w.heap.size, 1, none⟩ = some (.slice bo T.length bc) ∧ W.cell? ⟨w.heap.size + 1, 3, none⟩ = some (.slice uo o.pl.length uc)) := fun W h => by
    have g1 : W.heap[w.heap.size]? = some (.cells #[.slice ao F.length ac, .slice bo T.length bc, .func f1 f2 f3] 55) := blk_below h (blk_old (blk_new rfl))
    have g2 : W.heap[w.heap.size + 1]? = some (.cells #[.int .u8 (o.k : Int), .int .u32 (o.t : Int), .int .u8 (o.r : Int), .slice uo o.pl.length uc, .int .i64 o.p] 35) := blk_below h (blk_new (by simp))
    exact ⟨cell_of_row _ _ 1 _ _ _ g1, cell_of_row _ _ 3 _ _ _ g2⟩
  have HH : Hid (homB F T o.pl = (decide (cmp F o.pl ≤ 0) && (decide (T.length = 0) || decide (cmp o.pl T < 0)))) := rfl
  obtain ⟨z, hz⟩ : ∃ z, homB F T o.pl = z := ⟨_, rfl⟩
  rw [hz] at HH ⊢
  obtain ⟨c, hc⟩ : ∃ c, cmp F o.pl = c := ⟨_, rfl⟩
  obtain ⟨d, hd⟩ : ∃ c, cmp o.pl T = c := ⟨_, rfl⟩
  rw [hc] at C1 HH
  rw [hd] at C2 HH
  obtain ⟨nf, hnf⟩ : ∃ n, F.length = n := ⟨_, rfl⟩
  obtain ⟨nt, hnt⟩ : ∃ n, T.length = n := ⟨_, rfl⟩
  obtain ⟨nu, hnu⟩ : ∃ n, o.pl.length = n := ⟨_, rfl⟩
  rw [hnf] at C1 B0 SK ⊢
  rw [hnt] at C2 B0 SK HH ⊢
  rw [hnu] at C1 C2 B0 SK
  unfold opv
  rw [hnu]
  clear ha hb hu hz hc hd hnf hnt hnu
  obtain ⟨k, t, r, l, p, hk, ht, hr, hp⟩ := o
  simp only at B0 SK ⊢
  clear hk ht hr hp
  by_cases h1 : c ≤ 0
  rotate_left
  · have q1 : decide (c ≤ 0) = false := decide_eq_false h1
    obtain rfl : false = z := by rw [HH.out, q1]; rfl
    clear HH C2
    go_enter Try.func20, Try.ntmps20
    go_wp2_with fail
    refine (C1.out _ B0.out).mono ?_
    rintro e w1 ⟨rfl, b1⟩
    have B1 := Lib.hid (bt B0.out b1)
    clear b1 C1 B0 SK
    go_wp2
    go_ret
    exact ⟨rfl, B1.out⟩
  have q1 : decide (c ≤ 0) = true := decide_eq_true h1
  by_cases h2 : nt = 0
  · obtain rfl : true = z := by rw [HH.out, q1, decide_eq_true h2]; rfl
    subst h2
    clear HH C2
    go_enter Try.func20, Try.ntmps20
    go_wp2_with fail
    refine (C1.out _ B0.out).mono ?_
    rintro e w1 ⟨rfl, b1⟩
    obtain ⟨g1, g2⟩ := SK.out _ b1
    have B1 := Lib.hid (bt B0.out b1)
    clear b1 C1 B0 SK
    go_wp2
    go_ret
    exact ⟨rfl, B1.out⟩
  · have q2 : decide ((nt : Int) = 0) = false := decide_eq_false (by omega)
    have q3 : ((nt : Int) == 0) = false := by simp; omega
    have q4 : decide (nt = 0) = false := decide_eq_false h2
    obtain rfl : decide (d < 0) = z := by rw [HH.out, q1, q4]; simp
    clear HH h1
    go_enter Try.func20, Try.ntmps20
    go_wp2_with fail
    refine (C1.out _ B0.out).mono ?_
    rintro e w1 ⟨rfl, b1⟩
    obtain ⟨g1, g2⟩ := SK.out _ b1
    have B1 := Lib.hid (bt B0.out b1)
    clear b1 C1 B0 SK
    go_wp2_with fail
    refine (C2.out _ B1.out).mono ?_
    rintro e w2 ⟨rfl, b2⟩
    have B2 := Lib.hid (bt B1.out b2)
    clear b2 C2 B1
    go_wp2
    go_ret
    exact ⟨rfl, B2.out⟩
end Go.Proofs.Ytdackenaknieaaa.Covers
