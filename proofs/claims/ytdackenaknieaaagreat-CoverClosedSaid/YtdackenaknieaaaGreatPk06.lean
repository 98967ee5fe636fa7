/- Spans, as Bools, and taken one by one. Conditions: none. -/
import Derived.Deep.DrawnRows
import Derived.Deep.RegionHeld3
import Derived.WalkKit
import Derived.WalkSpells
import Derived.WalkLawsBesides
import Derived.RegionTactic
import Derived.Deep.QuietTactic
import Derived.BigQuiet
import Derived.IntWalk
import Derived.Test.YtdackenaknieaaaGreatPk05
import Derived.Test.YtdackenaknieaaaGreatPk01
import Derived.Test.YtdackenaknieaaaGreatPk03

namespace Go.Proofs.YtdackenaknieaaaGreat.Spans

def fineB : List Sp → Bool
  | [] => true
  | [x] => decide (Ok x)
  | x :: y :: l => decide (Ok x) && (decide (x.t + 2 ≤ y.f) && fineB (y :: l))
theorem fineB_iff : ∀ l : List Sp, fineB l = true ↔ Fine l
  | [] => by simp [fineB, Fine]
  | [x] => by simp [fineB, Fine]
  | x :: y :: l => by simp [fineB, Fine, fineB_iff (y :: l)]
/-- May spans be? -/
def mayB (l : List Sp) : Bool := fineB l && decide (l.length ≤ 1024)
theorem mayB_iff (l : List Sp) : mayB l = true ↔ Fine l ∧ l.length ≤ 1024 := by simp [mayB, fineB_iff]
theorem mayB_no {l : List Sp} (h : ¬ Fine l) : mayB l = false := by
  cases hb : mayB l
  · rfl
  · exact absurd ((mayB_iff l).1 hb).1 h
theorem fine_ok : ∀ {l : List Sp} {k : Nat}, Fine l → k < l.length → Ok (l.getD k zsp)
  | [], k, _, h => by simp at h
  | x :: l, 0, h, _ => by simpa using h.head
  | x :: l, k + 1, h, hk => by simpa using fine_ok (k := k) h.tail (by simpa using hk)
theorem fine_next : ∀ {l : List Sp} {k : Nat}, Fine l → k + 1 < l.length → (l.getD k zsp).t + 2 ≤ (l.getD (k + 1) zsp).f
  | [], k, _, h => by simp at h
  | [x], k, _, h => by simp at h
  | x :: y :: l, 0, h, _ => by simpa using h.2.1
  | x :: y :: l, k + 1, h, hk => by
    have := fine_next (l := y :: l) (k := k) h.2.2 (by simpa using hk)
    simpa using this
theorem take_snoc (l : List Sp) (k : Nat) (h : k < l.length) : l.take (k + 1) = l.take k ++ [l.getD k zsp] := by
  rw [List.take_succ_eq_append_getElem h]
  simp [List.getD, List.getElem?_eq_getElem h]
theorem fine_front : ∀ {p q : List Sp}, Fine (p ++ q) → Fine p
  | [], _, _ => trivial
  | [_], _, h => h.head
  | _ :: y :: p, _, h => ⟨h.1, h.2.1, fine_front (p := y :: p) h.2.2⟩
theorem fine_most : ∀ {l : List Sp}, Fine l → ∀ a ∈ l, a.t ≤ (l.getD (l.length - 1) zsp).t
  | [], _, a, ha => by simp at ha
  | [x], _, a, ha => by simp only [List.mem_singleton] at ha; subst ha; simp
  | x :: y :: l, h, a, ha => by
    have ih := fine_most h.2.2
    have e : (x :: y :: l).getD ((x :: y :: l).length - 1) zsp = (y :: l).getD ((y :: l).length - 1) zsp := by simp
    rw [e]
    rw [List.mem_cons] at ha
    rcases ha with rfl | ha
    · have h1 := ih y (by simp)
      have h2 := h.2.1
      have h3 := h.2.2.head
      unfold Ok at h3
      omega
    · exact ih a ha
theorem fine_take_succ {l : List Sp} {k : Nat} (h : k < l.length) (hc : Fine (l.take k)) (h1 : Ok (l.getD k zsp)) (h2 : k = 0 ∨ (l.getD (k - 1) zsp).t + 2 ≤ (l.getD k zsp).f) : Fine (l.take (k + 1)) := by
  rw [take_snoc l k h]
  refine fine_append hc h1 (fun a ha b hb => ?_)
  simp only [List.mem_singleton] at hb
  subst hb
  rcases h2 with rfl | h2
  · simp at ha
  · have h3 := fine_most hc a ha
    have hk : 0 < k := by
      cases k with
      | zero => simp at ha
      | succ k => omega
    rw [List.length_take, Nat.min_eq_left (by omega)] at h3
    have e : (l.take k).getD (k - 1) zsp = l.getD (k - 1) zsp := by
      simp [List.getD, show k - 1 < k by omega]
    rw [e] at h3
    omega
theorem many_snoc (l : List Sp) (x : Sp) : many (l ++ [x]) = many l + (x.t - x.f + 1) := by
  induction l with
  | nil => simp [many]
  | cons y l ih => simp only [List.cons_append, many, ih]; omega
theorem inB_snoc (l : List Sp) (x : Sp) (n : Nat) : inB (l ++ [x]) n = (inB l n || decide (x.f ≤ n ∧ n ≤ x.t)) := by
  induction l with
  | nil => simp [inB]
  | cons y l ih => simp only [List.cons_append, inB, ih, Bool.or_assoc]
theorem both_len : ∀ (b a : List Sp), (both a b).length ≤ a.length + b.length
  | [], _ => by simp [both]
  | x :: b, a => by have h1 := both_len b (ins a x); have h2 := ins_len a x; simp only [both, List.length_cons]; omega
end Go.Proofs.YtdackenaknieaaaGreat.Spans

/- Clocks as lists of a replica and its spans, in Lean alone: one way of writing, joins, what is left, how many, up to when. -/
namespace Go.Proofs.YtdackenaknieaaaGreat.Clocks
open Go.Proofs.YtdackenaknieaaaGreat.Spans

/-- A replica and its spans. -/
abbrev Tm := Nat × List Sp

/-- Replicas from lo on, ascending, each with spans that may be. -/
def Up : Nat → List Tm → Prop
  | _, [] => True
  | lo, x :: c => lo ≤ x.1 ∧ x.1 < 8 ∧ x.2 ≠ [] ∧ mayB x.2 = true ∧ Up (x.1 + 1) c
/-- May the clock be? -/
def Cok (c : List Tm) : Prop := Up 0 c
/-- A replica's spans. -/
def spn : List Tm → Nat → List Sp
  | [], _ => []
  | x :: c, r => if x.1 = r then x.2 else spn c r
theorem up_mono {c : List Tm} {lo lo' : Nat} (h : Up lo c) (hl : lo' ≤ lo) : Up lo' c := by
  cases c with
  | nil => trivial
  | cons x c => exact ⟨Nat.le_trans hl h.1, h.2⟩
theorem spn_low : ∀ {c : List Tm} {lo r : Nat}, Up lo c → r < lo → spn c r = []
  | [], _, _, _, _ => rfl
  | x :: c, lo, r, h, hr => by
    unfold spn
    rw [if_neg (by have := h.1; omega)]
    exact spn_low h.2.2.2.2 (by have := h.1; omega)
theorem spn_high : ∀ {c : List Tm} {lo r : Nat}, Up lo c → 8 ≤ r → spn c r = []
  | [], _, _, _, _ => rfl
  | x :: c, lo, r, h, hr => by
    unfold spn
    rw [if_neg (by have := h.2.1; omega)]
    exact spn_high h.2.2.2.2 hr
theorem spn_may : ∀ {c : List Tm} {lo : Nat}, Up lo c → ∀ r, mayB (spn c r) = true
  | [], _, _, _ => rfl
  | x :: c, lo, h, r => by
    unfold spn
    split
    · exact h.2.2.2.1
    · exact spn_may h.2.2.2.2 r
/-- A clock is written in one way alone. -/
theorem up_ext : ∀ {c d : List Tm} {lo : Nat}, Up lo c → Up lo d → (∀ r, spn c r = spn d r) → c = d
  | [], [], _, _, _, _ => rfl
  | [], y :: d, _, _, hd, h => by
    have := h y.1
    unfold spn at this
    rw [if_pos rfl] at this
    exact absurd this.symm hd.2.2.1
  | x :: c, [], _, hc, _, h => by
    have := h x.1
    unfold spn at this
    rw [if_pos rfl] at this
    exact absurd this hc.2.2.1
  | x :: c, y :: d, lo, hc, hd, h => by
    have hx : spn (x :: c) x.1 = x.2 := by unfold spn; rw [if_pos rfl]
    have hy : spn (y :: d) y.1 = y.2 := by unfold spn; rw [if_pos rfl]
    have e1 : x.1 = y.1 := by
      rcases Nat.lt_trichotomy x.1 y.1 with q | q | q
      · have : spn (y :: d) x.1 = [] := spn_low (lo := y.1) ⟨Nat.le_refl _, hd.2⟩ q
        rw [← h, hx] at this
        exact absurd this hc.2.2.1
      · exact q
      · have : spn (x :: c) y.1 = [] := spn_low (lo := x.1) ⟨Nat.le_refl _, hc.2⟩ q
        rw [h, hy] at this
        exact absurd this hd.2.2.1
    have e2 : x.2 = y.2 := by rw [← hx, ← hy, h, e1]
    have e3 : c = d := by
      refine up_ext (lo := x.1 + 1) hc.2.2.2.2 (by rw [e1]; exact hd.2.2.2.2) fun r => ?_
      by_cases q : x.1 = r
      · rw [spn_low hc.2.2.2.2 (by omega), spn_low hd.2.2.2.2 (by omega)]
      · have := h r
        unfold spn at this
        rwa [if_neg q, if_neg (by omega)] at this
    rw [e3, Prod.ext e1 e2]

/-- The clock of k replicas' spans, from lo on. -/
def clkFrom (g : Nat → List Sp) : Nat → Nat → List Tm
  | _, 0 => []
  | lo, k + 1 => if g lo = [] then clkFrom g (lo + 1) k else (lo, g lo) :: clkFrom g (lo + 1) k
def clk (g : Nat → List Sp) : List Tm := clkFrom g 0 8
theorem clkFrom_up {g : Nat → List Sp} (hg : ∀ r, mayB (g r) = true) : ∀ (k lo : Nat), lo + k ≤ 8 → Up lo (clkFrom g lo k)
  | 0, _, _ => trivial
  | k + 1, lo, h => by
    unfold clkFrom
    split
    · exact up_mono (clkFrom_up hg k (lo + 1) (by omega)) (Nat.le_succ _)
    · rename_i q
      exact ⟨Nat.le_refl _, by show lo < 8; omega, q, hg lo, clkFrom_up hg k (lo + 1) (by omega)⟩
theorem spn_clkFrom (g : Nat → List Sp) : ∀ (k lo r : Nat), spn (clkFrom g lo k) r = if lo ≤ r ∧ r < lo + k then g r else []
  | 0, lo, r => by rw [if_neg (by omega)]; rfl
  | k + 1, lo, r => by
    have ih := spn_clkFrom g k (lo + 1) r
    unfold clkFrom
    by_cases q : g lo = []
    · rw [if_pos q, ih]
      by_cases e : r = lo
      · subst e
        rw [if_neg (by omega), if_pos (by omega), q]
      · by_cases e2 : lo + 1 ≤ r ∧ r < lo + 1 + k
        · rw [if_pos e2, if_pos (by omega)]
        · rw [if_neg e2, if_neg (by omega)]
    · rw [if_neg q]
      unfold spn
      by_cases e : lo = r
      · subst e
        rw [if_pos rfl, if_pos (by omega)]
      · rw [if_neg e, ih]
        by_cases e2 : lo + 1 ≤ r ∧ r < lo + 1 + k
        · rw [if_pos e2, if_pos (by omega)]
        · rw [if_neg e2, if_neg (by omega)]
theorem clk_ok {g : Nat → List Sp} (hg : ∀ r, mayB (g r) = true) : Cok (clk g) := clkFrom_up hg 8 0 (by omega)
theorem spn_clk (g : Nat → List Sp) (r : Nat) : spn (clk g) r = if r < 8 then g r else [] := by
  unfold clk
  rw [spn_clkFrom]
  by_cases h : r < 8
  · rw [if_pos (by omega), if_pos h]
  · rw [if_neg (by omega), if_neg h]
theorem clk_spn {c : List Tm} (h : Cok c) : clk (spn c) = c := by
  refine up_ext (clk_ok (spn_may h)) h fun r => ?_
  rw [spn_clk]
  split
  · rfl
  · exact (spn_high h (by omega)).symm
theorem clk_congr {g k : Nat → List Sp} (h : ∀ r, r < 8 → g r = k r) : clk g = clk k := by
  have go : ∀ (n lo : Nat), lo + n ≤ 8 → clkFrom g lo n = clkFrom k lo n := by
    intro n
    induction n with
    | zero => intro lo _; rfl
    | succ n ih =>
      intro lo hl
      unfold clkFrom
      rw [h lo (by omega), ih (lo + 1) (by omega)]
  exact go 8 0 (by omega)

/-- How many stamps. -/
def manyC : List Tm → Nat
  | [] => 0
  | x :: c => many x.2 + manyC c
def sumFrom (g : Nat → List Sp) : Nat → Nat → Nat
  | _, 0 => 0
  | lo, k + 1 => many (g lo) + sumFrom g (lo + 1) k
theorem manyC_clkFrom (g : Nat → List Sp) : ∀ (k lo : Nat), manyC (clkFrom g lo k) = sumFrom g lo k
  | 0, _ => rfl
  | k + 1, lo => by
    unfold clkFrom sumFrom
    by_cases q : g lo = []
    · rw [if_pos q, manyC_clkFrom g k, q]; show _ = 0 + _; omega
    · rw [if_neg q]; show many (g lo) + manyC _ = _; rw [manyC_clkFrom g k]
theorem sumFrom_add {g p q : Nat → List Sp} (h : ∀ r, many (g r) = many (p r) + many (q r)) : ∀ (k lo : Nat), sumFrom g lo k = sumFrom p lo k + sumFrom q lo k
  | 0, _ => rfl
  | k + 1, lo => by
    unfold sumFrom
    rw [h, sumFrom_add h k]; omega
theorem manyC_add {g p q : Nat → List Sp} (h : ∀ r, many (g r) = many (p r) + many (q r)) : manyC (clk g) = manyC (clk p) + manyC (clk q) := by
  unfold clk
  rw [manyC_clkFrom, manyC_clkFrom, manyC_clkFrom]
  exact sumFrom_add h 8 0

/-- The greatest time of spans, and of a clock. -/
def top : List Sp → Nat
  | [] => 0
  | x :: l => max x.t (top l)
end Go.Proofs.YtdackenaknieaaaGreat.Clocks

/- Clocks taken one by one, whether they may be, as a Bool; the clock of stamps, and the stamps of a clock. Conditions: none. -/
namespace Go.Proofs.YtdackenaknieaaaGreat.Clocks
open Go.Proofs.YtdackenaknieaaaGreat.Spans

def ztm : Tm := (0, [])
def upB : Nat → List Tm → Bool
  | _, [] => true
  | lo, x :: c => decide (lo ≤ x.1 ∧ x.1 < 8 ∧ x.2 ≠ []) && (mayB x.2 && upB (x.1 + 1) c)
theorem upB_iff : ∀ (c : List Tm) (lo : Nat), upB lo c = true ↔ Up lo c
  | [], _ => by simp [upB, Up]
  | x :: c, lo => by
    unfold upB Up
    rw [Bool.and_eq_true, Bool.and_eq_true, decide_eq_true_iff, upB_iff c (x.1 + 1)]
    constructor
    · rintro ⟨⟨h1, h2, h3⟩, h4, h5⟩; exact ⟨h1, h2, h3, h4, h5⟩
    · rintro ⟨h1, h2, h3, h4, h5⟩; exact ⟨⟨h1, h2, h3⟩, h4, h5⟩
/-- May the clock be? -/
def mayC (c : List Tm) : Bool := upB 0 c
theorem mayC_iff (c : List Tm) : mayC c = true ↔ Cok c := upB_iff c 0
theorem mayC_no {c : List Tm} (h : ¬ Cok c) : mayC c = false := by
  cases hb : mayC c
  · rfl
  · exact absurd ((mayC_iff c).1 hb) h
theorem up_all : ∀ {c : List Tm} {lo : Nat}, Up lo c → ∀ x ∈ c, lo ≤ x.1 ∧ x.1 < 8 ∧ x.2 ≠ [] ∧ mayB x.2 = true
  | [], _, _, x, hx => by simp at hx
  | y :: c, lo, h, x, hx => by
    rw [List.mem_cons] at hx
    rcases hx with rfl | hx
    · exact ⟨h.1, h.2.1, h.2.2.1, h.2.2.2.1⟩
    · have := up_all h.2.2.2.2 x hx
      have h1 := h.1
      exact ⟨by omega, this.2⟩
theorem up_front : ∀ {c d : List Tm} {lo : Nat}, Up lo (c ++ d) → Up lo c
  | [], _, _, _ => trivial
  | _ :: _, _, _, h => ⟨h.1, h.2.1, h.2.2.1, h.2.2.2.1, up_front h.2.2.2.2⟩
theorem up_take {c : List Tm} {lo : Nat} (h : Up lo c) (k : Nat) : Up lo (c.take k) := by
  have := List.take_append_drop k c
  rw [← this] at h
  exact up_front h
theorem up_snoc : ∀ {c : List Tm} {x : Tm} {lo : Nat}, Up lo c → (∀ y ∈ c, y.1 < x.1) → lo ≤ x.1 → x.1 < 8 → x.2 ≠ [] → mayB x.2 = true → Up lo (c ++ [x])
  | [], x, lo, _, _, h1, h2, h3, h4 => ⟨h1, h2, h3, h4, trivial⟩
  | y :: c, x, lo, h, hl, h1, h2, h3, h4 => by
    have := hl y (by simp)
    exact ⟨h.1, h.2.1, h.2.2.1, h.2.2.2.1, up_snoc h.2.2.2.2 (fun z hz => hl z (by simp [hz])) (by omega) h2 h3 h4⟩
theorem up_next : ∀ {c : List Tm} {lo k : Nat}, Up lo c → k + 1 < c.length → (c.getD k ztm).1 < (c.getD (k + 1) ztm).1
  | [], _, k, _, h => by simp at h
  | [x], _, k, _, h => by simp at h
  | x :: y :: c, _, 0, h, _ => by
    have h1 : x.1 + 1 ≤ y.1 := h.2.2.2.2.1
    show x.1 < y.1
    omega
  | x :: y :: c, _, k + 1, h, hk => by
    have := up_next (c := y :: c) (k := k) h.2.2.2.2 (by simpa using hk)
    simpa using this
theorem up_most : ∀ {c : List Tm} {lo : Nat}, Up lo c → ∀ a ∈ c, a.1 ≤ (c.getD (c.length - 1) ztm).1
  | [], _, _, a, ha => by simp at ha
  | [x], _, _, a, ha => by simp only [List.mem_singleton] at ha; subst ha; simp
  | x :: y :: c, lo, h, a, ha => by
    have ih := up_most h.2.2.2.2
    have e : (x :: y :: c).getD ((x :: y :: c).length - 1) ztm = (y :: c).getD ((y :: c).length - 1) ztm := by simp
    rw [e]
    rw [List.mem_cons] at ha
    rcases ha with rfl | ha
    · have h1 := ih y (by simp)
      have h2 := h.2.2.2.2.1
      omega
    · exact ih a ha
theorem tm_take_snoc (c : List Tm) (k : Nat) (h : k < c.length) : c.take (k + 1) = c.take k ++ [c.getD k ztm] := by
  rw [List.take_succ_eq_append_getElem h]
  simp [List.getD, List.getElem?_eq_getElem h]
theorem tm_mem {c : List Tm} {k : Nat} (h : k < c.length) : c.getD k ztm ∈ c := by
  rw [List.getD, List.getElem?_eq_getElem h]
  exact List.getElem_mem _
theorem up_take_succ {c : List Tm} {k : Nat} (h : k < c.length) (hc : Up 0 (c.take k)) (h1 : (c.getD k ztm).1 < 8) (h2 : (c.getD k ztm).2 ≠ []) (h3 : mayB (c.getD k ztm).2 = true)
    (h4 : k = 0 ∨ (c.getD (k - 1) ztm).1 < (c.getD k ztm).1) : Up 0 (c.take (k + 1)) := by
  rw [tm_take_snoc c k h]
  refine up_snoc hc (fun a ha => ?_) (Nat.zero_le _) h1 h2 h3
  rcases h4 with rfl | h4
  · simp at ha
  · have h5 := up_most hc a ha
    have hk : 0 < k := by
      cases k with
      | zero => simp at ha
      | succ k => omega
    rw [List.length_take, Nat.min_eq_left (by omega)] at h5
    have e : (c.take k).getD (k - 1) ztm = c.getD (k - 1) ztm := by
      simp [List.getD, show k - 1 < k by omega]
    rw [e] at h5
    omega
theorem manyC_snoc (c : List Tm) (x : Tm) : manyC (c ++ [x]) = manyC c + many x.2 := by
  induction c with
  | nil => simp [manyC]
  | cons y c ih => simp only [List.cons_append, manyC, ih]; omega
theorem clkFrom_snoc (g : Nat → List Sp) : ∀ (k lo : Nat), clkFrom g lo (k + 1) = clkFrom g lo k ++ (if g (lo + k) = [] then [] else [(lo + k, g (lo + k))])
  | 0, lo => by
    simp only [clkFrom, Nat.add_zero, List.nil_append]
  | k + 1, lo => by
    have ih := clkFrom_snoc g k (lo + 1)
    rw [show lo + (k + 1) = lo + 1 + k by omega]
    show (if g lo = [] then clkFrom g (lo + 1) (k + 1) else (lo, g lo) :: clkFrom g (lo + 1) (k + 1)) = (if g lo = [] then clkFrom g (lo + 1) k else (lo, g lo) :: clkFrom g (lo + 1) k) ++ _
    rw [ih]
    by_cases q : g lo = []
    · rw [if_pos q, if_pos q]
    · rw [if_neg q, if_neg q, List.cons_append]
theorem clkFrom_len (g : Nat → List Sp) : ∀ (k lo : Nat), (clkFrom g lo k).length ≤ k
  | 0, _ => Nat.le_refl _
  | k + 1, lo => by
    have := clkFrom_len g k (lo + 1)
    unfold clkFrom
    split
    · omega
    · simp; omega

/-- The clock of a stamp. -/
def one (a : Id) : List Tm := [(a.r, [mk a.t a.t])]
/-- Two together, one without another one. -/
def bothC (a b : List Tm) : List Tm := clk fun r => both (spn a r) (spn b r)
def leftC (a b : List Tm) : List Tm := clk fun r => left (spn a r) (spn b r)
/-- No replica has too many spans. -/
def Few (a b : List Tm) : Prop := ∀ r, (spn a r).length + (spn b r).length ≤ 1024
theorem few_may {a b : List Tm} (ha : Cok a) (hb : Cok b) (h : Few a b) (r : Nat) : mayB (both (spn a r) (spn b r)) = true := by
  have h1 := (mayB_iff _).1 (spn_may ha r)
  have h2 := (mayB_iff _).1 (spn_may hb r)
  exact (mayB_iff _).2 ⟨(both_ok h1.1 h2.1.all).1, Nat.le_trans (both_len _ _) (h r)⟩
theorem bothC_ok {a b : List Tm} (ha : Cok a) (hb : Cok b) (h : Few a b) : Cok (bothC a b) := clk_ok (few_may ha hb h)
theorem spn_bothC {a b : List Tm} (ha : Cok a) (hb : Cok b) (r : Nat) : spn (bothC a b) r = both (spn a r) (spn b r) := by
  unfold bothC
  rw [spn_clk]
  split
  · rfl
  · rw [spn_high ha (by omega), spn_high hb (by omega)]; rfl
/-- May a stamp be? -/
def mayI (a : Id) : Prop := 1 ≤ a.t ∧ a.t ≤ 1073741824 ∧ a.r < 8
instance (a : Id) : Decidable (mayI a) := inferInstanceAs (Decidable (_ ∧ _))
theorem one_sp {a : Id} (h : mayI a) : Ok (mk a.t a.t) := by
  have := a.ht
  unfold mayI at h
  unfold Ok
  rw [mk_f this, mk_t this]
  omega
theorem one_ok {a : Id} (h : mayI a) : Cok (one a) :=
  ⟨Nat.zero_le _, h.2.2, by simp, (mayB_iff _).2 ⟨one_sp h, by simp⟩, trivial⟩
theorem spn_one (a : Id) (r : Nat) : spn (one a) r = if a.r = r then [mk a.t a.t] else [] := by
  unfold one spn
  rfl
theorem spn_one_len (a : Id) (r : Nat) : (spn (one a) r).length ≤ 1 := by
  rw [spn_one]; split <;> simp

/-- The clock of some stamps. -/
def among : List Id → List Tm
  | l => l.foldl (fun c a => bothC c (one a)) []
theorem among_snoc (l : List Id) (a : Id) : among (l ++ [a]) = bothC (among l) (one a) := by unfold among; rw [List.foldl_append]; rfl
theorem list_snoc_ind {α : Type} {P : List α → Prop} (h0 : P []) (h1 : ∀ l a, P l → P (l ++ [a])) (l : List α) : P l := by
  have go : ∀ (n : Nat) (l : List α), l.length = n → P l := by
    intro n
    induction n with
    | zero => intro l h; rw [List.length_eq_zero_iff.1 h]; exact h0
    | succ n ih =>
      intro l h
      rcases List.eq_nil_or_concat l with rfl | ⟨m, x, rfl⟩
      · simp at h
      · rw [List.concat_eq_append] at h ⊢
        exact h1 m x (ih m (by simpa using h))
  exact go l.length l rfl
theorem among_ok (l : List Id) : (∀ a ∈ l, mayI a) → l.length ≤ 1024 → Cok (among l) ∧ (∀ r, (spn (among l) r).length ≤ l.length) ∧
    ∀ r n, In (spn (among l) r) n ↔ ∃ a ∈ l, a.r = r ∧ a.t = n := by
  refine list_snoc_ind (P := fun l => (∀ a ∈ l, mayI a) → l.length ≤ 1024 → Cok (among l) ∧ (∀ r, (spn (among l) r).length ≤ l.length) ∧ ∀ r n, In (spn (among l) r) n ↔ ∃ a ∈ l, a.r = r ∧ a.t = n) ?_ ?_ l
  · intro _ _
    refine ⟨trivial, fun r => Nat.zero_le _, fun r n => ?_⟩
    show In [] n ↔ _
    constructor
    · exact fun h => absurd h (in_nil n)
    · rintro ⟨a, ha, _⟩; simp at ha
  · intro l x ih hm hl
    rw [List.length_append, List.length_singleton] at hl
    obtain ⟨i1, i2, i3⟩ := ih (fun a ha => hm a (by simp [ha])) (by omega)
    have hx := hm x (by simp)
    have ho := one_ok hx
    have hfew : Few (among l) (one x) := fun r => by have := i2 r; have := spn_one_len x r; omega
    rw [among_snoc]
    refine ⟨bothC_ok i1 ho hfew, fun r => ?_, fun r n => ?_⟩
    · rw [spn_bothC i1 ho]
      have h1 := both_len (spn (one x) r) (spn (among l) r)
      have h2 := spn_one_len x r
      have h3 := i2 r
      rw [List.length_append, List.length_singleton]
      omega
    · have h1 := (mayB_iff _).1 (spn_may i1 r)
      have h2 := (mayB_iff _).1 (spn_may ho r)
      rw [spn_bothC i1 ho, (both_ok h1.1 h2.1.all).2 n, i3, spn_one]
      have hxt := x.ht
      constructor
      · rintro (⟨a, h3, h4⟩ | h3)
        · exact ⟨a, by simp [h3], h4⟩
        · by_cases q : x.r = r
          · rw [if_pos q, in_cons, mk_f hxt, mk_t hxt] at h3
            rcases h3 with h3 | h3
            · exact ⟨x, by simp, q, by omega⟩
            · exact absurd h3 (in_nil n)
          · rw [if_neg q] at h3; exact absurd h3 (in_nil n)
      · rintro ⟨a, h3, h4, h5⟩
        rw [List.mem_append, List.mem_singleton] at h3
        rcases h3 with h3 | rfl
        · exact .inl ⟨a, h3, h4, h5⟩
        · right
          rw [if_pos h4, in_cons, mk_f hxt, mk_t hxt]
          left; omega

/-! ### No more than both -/
theorem manyC_one (a : Id) : manyC (one a) = 1 := by
  simp [one, manyC, many, mk_f a.ht, mk_t a.ht]
/-! ### The stamps of a clock -/
theorem spn_cons (x : Tm) (c : List Tm) (r : Nat) : spn (x :: c) r = if x.1 = r then x.2 else spn c r := rfl
end Go.Proofs.YtdackenaknieaaaGreat.Clocks

/- What clocks' calls answer, as plain functions; what follows. Conditions: none. -/
namespace Go.Proofs.YtdackenaknieaaaGreat.Clocks
open Go.Proofs.YtdackenaknieaaaGreat.Spans

def chkC (c : List Tm) : Int := if mayC c = true then 0 else 8
def hasC (c : List Tm) (a : Id) : Bool := mayC c && inB (spn c a.r) a.t
def countC (c : List Tm) : Nat := if mayC c = true then manyC c else 0
def allMay (l : List Id) : Bool := l.all fun a => decide (mayI a)
theorem allMay_iff (l : List Id) : allMay l = true ↔ ∀ a ∈ l, mayI a := by simp [allMay]
def ofC (l : List Id) : List Tm × Int := if 1024 < l.length then ([], 4) else if allMay l = true then (among l, 0) else ([], 8)
/-- How many spans in all. -/
def tot : List Tm → Nat
  | [] => 0
  | x :: c => x.2.length + tot c
theorem hasC_may {c : List Tm} (h : mayC c = true) (a : Id) : hasC c a = inB (spn c a.r) a.t := by unfold hasC; rw [h]; rfl
theorem hasC_one {a : Id} (ha : mayI a) (i : Id) : hasC (one a) i = decide (i = a) := by
  rw [hasC_may ((mayC_iff _).2 (one_ok ha)), spn_one]
  have h1 := a.ht
  rw [Bool.eq_iff_iff, inB_iff, decide_eq_true_iff]
  by_cases q : a.r = i.r
  · rw [if_pos q, in_cons, mk_f h1, mk_t h1]
    constructor
    · rintro (h | h)
      · exact Id.ext' (by omega) q.symm
      · exact absurd h (in_nil _)
    · rintro rfl
      exact .inl ⟨Nat.le_refl _, Nat.le_refl _⟩
  · rw [if_neg q]
    constructor
    · intro h; exact absurd h (in_nil _)
    · rintro rfl; exact absurd rfl q
/-! ### Joining -/
theorem sp_fine {c : List Tm} (h : Cok c) (r : Nat) : Fine (spn c r) := ((mayB_iff _).1 (spn_may h r)).1
theorem many_parts {x y : List Sp} (hx : Fine x) (hy : Fine y) : many (both x y) = many (left x y) + many y := by
  have h1 := left_ok hx hy.all
  have h3 := both_ok hx hy.all
  refine many_join h1.1 hy h3.1 (fun n => ?_) (fun n h => ((h1.2 n).1 h.1).2 h.2)
  rw [h3.2 n, h1.2 n]
  constructor
  · rintro (h | h)
    · by_cases q : In y n
      · exact .inr q
      · exact .inl ⟨h, q⟩
    · exact .inr h
  · rintro (h | h)
    · exact .inl h.1
    · exact .inr h
theorem manyC_parts {a b : List Tm} (ha : Cok a) (hb : Cok b) : manyC (bothC a b) = manyC (leftC a b) + manyC b := by
  have h := manyC_add (g := fun r => both (spn a r) (spn b r)) (p := fun r => left (spn a r) (spn b r)) (q := spn b) (fun r => many_parts (sp_fine ha r) (sp_fine hb r))
  rw [clk_spn hb] at h
  exact h
theorem manyC_le : ∀ {c : List Tm} {lo : Nat}, Up lo c → manyC c ≤ 1073741825 * (8 - lo)
  | [], _, _ => Nat.zero_le _
  | x :: c, lo, h => by
    have h1 := manyC_le h.2.2.2.2
    have hok := ((mayB_iff _).1 h.2.2.2.1).1
    have h2 : many x.2 ≤ 1073741825 := by
      rw [many_cnt hok]
      have : ∀ (p : Nat → Bool) n, cnt p n ≤ n := by
        intro p n
        induction n with
        | zero => exact Nat.le_refl _
        | succ n ih => unfold cnt; split <;> omega
      exact this _ _
    have h3 := h.1
    have h4 := h.2.1
    unfold manyC
    have : 1073741825 * (8 - (x.1 + 1)) + 1073741825 ≤ 1073741825 * (8 - lo) := by omega
    omega
end Go.Proofs.YtdackenaknieaaaGreat.Clocks

/- Bags in plain words: which may be, one more in its place, two together, without stamps. Conditions: none. -/
namespace Go.Proofs.YtdackenaknieaaaGreat.Bags
open Ops Stamp

def idO (o : Opn) : Id := ⟨o.t, o.r, o.ht, o.hr⟩
theorem idO_eq {a b : Opn} : idO a = idO b ↔ a.t = b.t ∧ a.r = b.r := by rw [Id.eq_iff]; rfl
/-- Is one's stamp less? -/
def lessO (a b : Opn) : Prop := a.t < b.t ∨ a.t = b.t ∧ a.r < b.r
instance (a b : Opn) : Decidable (lessO a b) := inferInstanceAs (Decidable (_ ∨ _))
theorem lessO_trans {a b c : Opn} (h : lessO a b) (k : lessO b c) : lessO a c := by unfold lessO at *; omega
theorem lessO_asymm {a b : Opn} (h : lessO a b) : ¬ lessO b a := by unfold lessO at *; omega
theorem lessO_ne {a b : Opn} (h : lessO a b) : idO a ≠ idO b := by rw [Ne, idO_eq]; unfold lessO at h; omega
theorem lessO_three (a b : Opn) : lessO a b ∨ idO a = idO b ∨ lessO b a := by rw [idO_eq]; unfold lessO; omega
theorem pw_adj : ∀ {l : List Opn}, (∀ k (h : k + 1 < l.length), lessO (l[k]'(by omega)) (l[k + 1]'h)) → l.Pairwise lessO
  | [], _ => .nil
  | [a], _ => List.pairwise_singleton _ _
  | a :: b :: l, h => by
    have ih := pw_adj (l := b :: l) (fun k hk => h (k + 1) (by simpa using hk))
    refine List.Pairwise.cons (fun x hx => ?_) ih
    have h0 : lessO a b := by simpa using h 0 (by simp)
    rcases List.mem_cons.1 hx with rfl | hx
    · exact h0
    · exact lessO_trans h0 ((List.pairwise_cons.1 ih).1 x hx)
/-- A bag that may be. -/
def Bag (l : List Opn) : Prop := l.length ≤ 1024 ∧ (∀ o ∈ l, mayO o = true) ∧ l.Pairwise lessO
instance (l : List Opn) : Decidable (Bag l) := inferInstanceAs (Decidable (_ ∧ _))
def bagB (l : List Opn) : Bool := decide (Bag l)
theorem bagB_iff (l : List Opn) : bagB l = true ↔ Bag l := by simp [bagB]
theorem bagB_no {l : List Opn} (h : ¬ Bag l) : bagB l = false := by simp [bagB, h]
def chkL (l : List Opn) : Int := if bagB l = true then 0 else 8
/-- Each member by its stamp is one. -/
theorem pw_one : ∀ {l : List Opn}, l.Pairwise lessO → ∀ {a b : Opn}, a ∈ l → b ∈ l → idO a = idO b → a = b
  | [], _, _, _, h, _, _ => by simp at h
  | x :: l, hp, a, b, ha, hb, e => by
    have hp' := List.pairwise_cons.1 hp
    rcases List.mem_cons.1 ha with rfl | ha2
    · rcases List.mem_cons.1 hb with rfl | hb2
      · rfl
      · exact absurd e (lessO_ne (hp'.1 _ hb2))
    · rcases List.mem_cons.1 hb with rfl | hb2
      · exact absurd e.symm (lessO_ne (hp'.1 _ ha2))
      · exact pw_one hp'.2 ha2 hb2 e
/-! ### One by its stamp -/
def findO : List Opn → Id → Option Opn
  | [], _ => none
  | x :: l, a => if idO x = a then some x else findO l a
theorem findO_some : ∀ {l : List Opn} {a : Id} {o : Opn}, findO l a = some o → o ∈ l ∧ idO o = a
  | [], _, _, h => by simp [findO] at h
  | x :: l, a, o, h => by
    unfold findO at h
    by_cases e : idO x = a
    · rw [if_pos e] at h
      cases h
      exact ⟨by simp, e⟩
    · rw [if_neg e] at h
      obtain ⟨h1, h2⟩ := findO_some h
      exact ⟨by simp [h1], h2⟩
theorem findO_none : ∀ {l : List Opn} {a : Id}, findO l a = none ↔ ∀ o ∈ l, idO o ≠ a
  | [], _ => by simp [findO]
  | x :: l, a => by
    unfold findO
    by_cases e : idO x = a
    · rw [if_pos e]; simp [e]
    · rw [if_neg e, findO_none]; simp [e]
theorem findO_mem {l : List Opn} (hp : l.Pairwise lessO) {o : Opn} (h : o ∈ l) : findO l (idO o) = some o := by
  cases hf : findO l (idO o) with
  | none => exact absurd rfl (findO_none.1 hf o h)
  | some x => rw [pw_one hp (findO_some hf).1 h (findO_some hf).2]
def hasO (l : List Opn) (a : Id) : Bool := (findO l a).isSome
theorem hasO_iff {l : List Opn} {a : Id} : hasO l a = true ↔ ∃ o ∈ l, idO o = a := by
  unfold hasO
  cases h : findO l a with
  | none => simp; exact fun o ho => findO_none.1 h o ho
  | some x => simp; exact ⟨x, findO_some h⟩
theorem hasO_no {l : List Opn} {a : Id} : hasO l a = false ↔ ∀ o ∈ l, idO o ≠ a := by
  rw [← findO_none]; unfold hasO; cases findO l a <;> simp

/-! ### One more -/
def withO (l : List Opn) (o : Opn) : List Opn := if hasO l (idO o) = true then l else l.filter (fun x => decide (lessO x o)) ++ o :: l.filter (fun x => decide (lessO o x))
theorem mem_withO {l : List Opn} {o x : Opn} : x ∈ withO l o ↔ x ∈ l ∨ x = o ∧ hasO l (idO o) = false := by
  unfold withO
  by_cases h : hasO l (idO o) = true
  · rw [if_pos h]; simp [h]
  · rw [if_neg h]
    have h' : hasO l (idO o) = false := by simpa using h
    simp only [List.mem_append, List.mem_cons, List.mem_filter, decide_eq_true_eq, h', and_true]
    constructor
    · rintro (h1 | rfl | h1)
      · exact .inl h1.1
      · exact .inr rfl
      · exact .inl h1.1
    · rintro (h1 | rfl)
      · rcases lessO_three x o with h2 | h2 | h2
        · exact .inl ⟨h1, h2⟩
        · exact absurd h2 (hasO_no.1 h' x h1)
        · exact .inr (.inr ⟨h1, h2⟩)
      · exact .inr (.inl rfl)
theorem pw_withO {l : List Opn} {o : Opn} (hp : l.Pairwise lessO) : (withO l o).Pairwise lessO := by
  unfold withO
  by_cases h : hasO l (idO o) = true
  · rw [if_pos h]; exact hp
  · rw [if_neg h, List.pairwise_append]
    refine ⟨hp.filter _, List.Pairwise.cons (fun x hx => by simpa using (List.mem_filter.1 hx).2) (hp.filter _), fun a ha b hb => ?_⟩
    have ha2 : lessO a o := by simpa using (List.mem_filter.1 ha).2
    rcases List.mem_cons.1 hb with rfl | hb
    · exact ha2
    · exact lessO_trans ha2 (by simpa using (List.mem_filter.1 hb).2)
theorem filter_parts {l : List Opn} {o : Opn} (h : ∀ x ∈ l, idO x ≠ idO o) : (l.filter (fun x => decide (lessO x o))).length + (l.filter (fun x => decide (lessO o x))).length = l.length := by
  induction l with
  | nil => rfl
  | cons x l ih =>
    have ih' := ih (fun y hy => h y (by simp [hy]))
    have hx := h x (by simp)
    rcases lessO_three x o with h1 | h1 | h1
    · have h2 := lessO_asymm h1
      simp only [List.filter_cons, h1, h2, decide_true, decide_false, if_true, Bool.false_eq_true, if_false, List.length_cons]
      omega
    · exact absurd h1 hx
    · have h2 := lessO_asymm h1
      simp only [List.filter_cons, h1, h2, decide_true, decide_false, if_true, Bool.false_eq_true, if_false, List.length_cons]
      omega
theorem withO_len (l : List Opn) (o : Opn) : (withO l o).length = if hasO l (idO o) = true then l.length else l.length + 1 := by
  unfold withO
  by_cases h : hasO l (idO o) = true
  · rw [if_pos h, if_pos h]
  · rw [if_neg h, if_neg h]
    have := filter_parts (hasO_no.1 (by simpa using h))
    rw [List.length_append, List.length_cons]
    omega
theorem bag_withO {l : List Opn} {o : Opn} (hb : Bag l) (ho : mayO o = true) (hl : (withO l o).length ≤ 1024) : Bag (withO l o) :=
  ⟨hl, fun x hx => by rcases mem_withO.1 hx with h | ⟨rfl, _⟩; exact hb.2.1 x h; exact ho, pw_withO hb.2.2⟩
/-- What Add answers. -/
def addE (l : List Opn) (o : Opn) : Int := if ¬ (bagB l = true ∧ mayO o = true) then 8 else if 1024 < (withO l o).length then 9 else 0
def addL (l : List Opn) (o : Opn) : List Opn := if addE l o = 0 then withO l o else []
theorem addE_cases (l : List Opn) (o : Opn) : (addE l o = 8 ∧ ¬ (Bag l ∧ mayO o = true)) ∨ (addE l o = 9 ∧ Bag l ∧ mayO o = true ∧ 1024 < (withO l o).length) ∨ (addE l o = 0 ∧ Bag l ∧ mayO o = true ∧ (withO l o).length ≤ 1024) := by
  unfold addE
  by_cases h : Bag l ∧ mayO o = true
  · rw [if_neg (by rw [bagB_iff]; exact fun hn => hn h)]
    by_cases h2 : 1024 < (withO l o).length
    · rw [if_pos h2]; exact .inr (.inl ⟨rfl, h.1, h.2, h2⟩)
    · rw [if_neg h2]; exact .inr (.inr ⟨rfl, h.1, h.2, by omega⟩)
  · rw [if_pos (by rw [bagB_iff]; exact h)]; exact .inl ⟨rfl, h⟩
theorem addL_bag {l : List Opn} {o : Opn} (h : addE l o = 0) : addL l o = withO l o ∧ Bag (addL l o) := by
  have e : addL l o = withO l o := by unfold addL; rw [if_pos h]
  rcases addE_cases l o with ⟨h1, _⟩ | ⟨h1, _⟩ | ⟨_, h2, h3, h4⟩
  · rw [h] at h1; cases h1
  · rw [h] at h1; cases h1
  · rw [e]; exact ⟨rfl, bag_withO h2 h3 h4⟩

/-! ### Two together -/
/-! ### Without stamps, and the stamps -/
def stampsO (l : List Opn) : List Id := l.map idO
def idsC (l : List Opn) : List Clocks.Tm := if bagB l = true then Clocks.among (stampsO l) else []
end Go.Proofs.YtdackenaknieaaaGreat.Bags

/- octavoref11.May, Check, Of, Has, Find: what each answers. Conditions: the slice's cells are operations. -/
namespace Go.Proofs.YtdackenaknieaaaGreat.Bags
open Go.RowKit Go.WideShapes Stamp Go.Proofs.YtdackenaknieaaaGreat.Place Ops Codes
attribute [local go_sem ↓] Go.wp_at_zero Go.wp_at_succ
attribute [local go_sem] yielded_undef

end Go.Proofs.YtdackenaknieaaaGreat.Bags

/- octavoref11.Of, Has, Find: what each answers. Conditions: the slice's cells are operations. -/
namespace Go.Proofs.YtdackenaknieaaaGreat.Bags
open Go.RowKit Go.WideShapes Stamp Go.Proofs.YtdackenaknieaaaGreat.Place Ops Codes
attribute [local go_sem ↓] Go.wp_at_zero Go.wp_at_succ
attribute [local go_sem] yielded_undef

end Go.Proofs.YtdackenaknieaaaGreat.Bags

/- Rows of the call's own whose elements may hold slices that were there ahead of it; append of one. Conditions: none. -/
namespace Go.Proofs.YtdackenaknieaaaGreat
open Go.RowKit Go.WideShapes

/-- A row of the call's own (since the world w0), what its elements hold lies in w0. -/
def Shr {α : Type} (E : Enc α) (te : TypeId) (w0 w : World) (v : Value) (l : List α) : Prop := ∃ cs, w.ownsRow w0.heap.size te E.sz v l.length cs ∧ E.rows w0 cs l
theorem Shr.nil {α : Type} (E : Enc α) (te : TypeId) (w0 w : World) : Shr E te w0 w (.slice none 0 0) [] := ⟨[], World.ownsRow_nil _ _ _ _, rfl⟩
theorem Shr.keeps {α : Type} {E : Enc α} {te : TypeId} {w0 w w' : World} {v : Value} {l : List α} (h : Shr E te w0 w v l) (hb : Below w.heap.size w w') : Shr E te w0 w' v l := by
  obtain ⟨cs, h1, h2⟩ := h
  exact ⟨cs, own_stays h1 hb, h2⟩
theorem Shr.seq {α : Type} {E : Enc α} {te : TypeId} {w0 w : World} {v : Value} {l : List α} (h : Shr E te w0 w v l) (hb : Below w0.heap.size w0 w) : Seq E w v l := by
  obtain ⟨cs, h1, h2⟩ := h
  exact ⟨cs, Sees.own h1, Enc.rows_keep hb h2⟩
theorem Shr.shape {α : Type} {E : Enc α} {te : TypeId} {w0 w : World} {v : Value} {l : List α} (h : Shr E te w0 w v l) : ∃ ao cap, v = .slice ao l.length cap := by
  obtain ⟨cs, h1, _⟩ := h; exact Sees.shape (Sees.own h1)

theorem wpList_append_enc {α : Type} {E : Enc α} {ts te : TypeId} (ht : Tryz.prog.underlying ts = some (.slice te)) {z : Value} {bytes : Nat}
    (hi : (Tryz.prog.info? te).map (fun i => (i.zero, i.size, i.bytes)) = some (some z, E.sz, bytes)) (hzs : z.cells.size = E.sz)
    {w0 wp : World} {ops : Array Oper} {rest : List Oper} {o : Oper} {a : Act} {Q : Exit → Act → World → Prop} (hgd : o.guard = none) (s x : Operand)
    (ho : o.op = .call { callee := .builtin .append, args := #[s, x], argTypes := #[ts, ts] }) {v : Value} {L : List α} (hs : a.eval s = v) (hv : Shr E te w0 wp v L)
    {G : Nat} (hx : a.eval x = .slice (some ⟨G, 0, none⟩) 1 1) (hG : wp.heap.size = G) {c : Array Value} {y : α} (hin : E.inn w0 c.toList y) {m : Nat} (hm : m = L.length) (h47 : (m + 1) * bytes ≤ 140737488355328) (hl : m ≤ 1000000000000) (hbase : w0.heap.size ≤ wp.heap.size)
    (h : ∀ v' w', Shr E te w0 w' v' (L ++ [y]) → (∃ ao cap, v' = .slice ao (m + 1) cap) → Below w0.heap.size wp w' → wpList Tryz.prog ops Q rest (a.put o.dst v') w') :
    wpList Tryz.prog ops Q (o :: rest) a (wp.alloc (.cells c te)) := by
  subst hG
  subst hm
  obtain ⟨cs, h1, h2⟩ := hv
  have hlen : c.toList.length = 1 * E.sz := by rw [E.len hin]; omega
  have hse := sees_new wp c.toList E.sz 1 hlen (by omega) te (0, 0)
  rw [Array.toArray_toList] at hse
  have hb := (Below.refl wp.heap.size wp).alloc (Nat.le_refl _) (.cells c te)
  refine wpList_append_sees hgd s x ts te ho ht hi hzs E.pos w0.heap.size v L.length cs hs (own_stays h1 hb) _ 1 c.toList hx hse (E.one hin) h47 (by omega) (Nat.le_trans hbase hb.size) ?_
  intro v' w' o6 _ b6
  refine h v' w' ⟨cs ++ c.toList, by rw [List.length_append]; exact o6, Enc.rows_snoc h2 hin⟩ (Sees.shape (Sees.own o6)) (((Below.refl _ _).alloc hbase _).trans b6)
end Go.Proofs.YtdackenaknieaaaGreat

/- octavoref11.With: what it answers. Conditions: the slice's cells are operations, not too many. -/
namespace Go.Proofs.YtdackenaknieaaaGreat.Bags
open Go.RowKit Go.WideShapes Stamp Go.Proofs.YtdackenaknieaaaGreat.Place Ops Codes
attribute [local go_sem ↓] Go.wp_at_zero Go.wp_at_succ
attribute [local go_sem] yielded_undef

theorem withO_yes {l : List Opn} {o : Opn} (h : hasO l (idO o) = true) : withO l o = l := by unfold withO; rw [if_pos h]
end Go.Proofs.YtdackenaknieaaaGreat.Bags

/- octavoref11.Both, Add, Join: what each answers. Conditions: the slices' cells are operations; Both's: not too many. -/
namespace Go.Proofs.YtdackenaknieaaaGreat.Bags
open Go.RowKit Go.WideShapes Stamp Go.Proofs.YtdackenaknieaaaGreat.Place Ops Codes
attribute [local go_sem ↓] Go.wp_at_zero Go.wp_at_succ
attribute [local go_sem] yielded_undef


end Go.Proofs.YtdackenaknieaaaGreat.Bags

/- Slices of spans: what a slice value holds. Conditions: none. -/
namespace Go.Proofs.YtdackenaknieaaaGreat
open Go.RowKit Go.WideShapes Spans

/-- Spans as cells. -/
def sps : List Sp → List Value
  | [] => []
  | a :: l => .int .u32 (a.f : Int) :: .int .u32 (a.t : Int) :: sps l
theorem sps_len : ∀ l : List Sp, (sps l).length = l.length * 2
  | [] => rfl
  | a :: l => by simp [sps, sps_len l]; omega
theorem sps_append : ∀ l m : List Sp, sps (l ++ m) = sps l ++ sps m
  | [], m => rfl
  | a :: l, m => by simp [sps, sps_append l m]
theorem sps_get : ∀ (l : List Sp) (j : Nat), j < l.length → (sps l)[j * 2]? = some (.int .u32 ((l.getD j zsp).f : Int)) ∧ (sps l)[j * 2 + 1]? = some (.int .u32 ((l.getD j zsp).t : Int))
  | [], j, h => by simp at h
  | a :: l, 0, _ => by simp [sps]
  | a :: l, j + 1, h => by
    have := sps_get l j (by simpa using h)
    rw [show (j + 1) * 2 = j * 2 + 1 + 1 by omega]
    simpa [sps] using this
theorem sps_oneCell : ∀ l : List Sp, ∀ u ∈ sps l, u.oneCell' = true
  | [], u, h => by simp [sps] at h
  | a :: l, u, h => by
    simp only [sps, List.mem_cons] at h
    rcases h with rfl | rfl | h
    · rfl
    · rfl
    · exact sps_oneCell l u h
/-- A slice of spans. -/
def Sps (w : World) (v : Value) (l : List Sp) : Prop := Sees w v 2 l.length (sps l)
theorem Sps.keeps {w w' : World} {v : Value} {l : List Sp} (h : Sps w v l) (hb : Below w.heap.size w w') : Sps w' v l := Sees.keeps h hb
theorem Sps.nil (w : World) : Sps w (.slice none 0 0) [] := Sees.nil w 2
theorem Sps.shape {w : World} {v : Value} {l : List Sp} (h : Sps w v l) : ∃ ao cap, v = .slice ao l.length cap := Sees.shape h
theorem Sps.at {w : World} {ao : Option Addr} {m cap : Nat} {l : List Sp} (h : Sps w (.slice ao m cap) l) (k : Nat) (hk : k < l.length) :
    ∃ b off, ao = some ⟨b, off, none⟩ ∧ b < w.heap.size ∧ w.cell? ⟨b, off + k * 2, none⟩ = some (.int .u32 ((l.getD k zsp).f : Int)) ∧ w.cell? ⟨b, off + k * 2 + 1, none⟩ = some (.int .u32 ((l.getD k zsp).t : Int)) := by
  obtain ⟨b, off, h1, h2, h3⟩ := Sees.at h (k * 2) (by rw [sps_len]; omega)
  have e := sps_get l k hk
  exact ⟨b, off, h1, h2, (h3 (k * 2) (by rw [sps_len]; omega)).trans e.1, (h3 (k * 2 + 1) (by rw [sps_len]; omega)).trans e.2⟩
theorem Sps.own {w : World} {base : Nat} {e : TypeId} {v : Value} {n : Nat} {l : List Sp} (h : w.ownsRow base e 2 v n (sps l)) : Sps w v l := by
  have h1 := h.1
  rw [sps_len] at h1
  obtain rfl : l.length = n := by omega
  exact Sees.own h
theorem span_info : (Tryz.prog.info? 102).map (fun i => (i.zero, i.size, i.bytes)) = some (some (.agg #[.int .u32 0, .int .u32 0]), 2, 8) := by kernel_rfl
end Go.Proofs.YtdackenaknieaaaGreat

/- Slices of a replica and its spans: what a slice value holds, a slice of spans in each element. Conditions: none. -/
namespace Go.Proofs.YtdackenaknieaaaGreat
open Go.RowKit Go.WideShapes Spans Clocks

/-- The cells hold the clock: a replica, and what reads as its spans. -/
def Hold (w : World) : List Value → List Tm → Prop
  | [], [] => True
  | a :: b :: cs, x :: c => a = .int .u8 (x.1 : Int) ∧ x.1 < 256 ∧ Sps w b x.2 ∧ Hold w cs c
  | _, _ => False
theorem Hold.len : ∀ {w : World} {cs : List Value} {c : List Tm}, Hold w cs c → cs.length = c.length * 2
  | _, [], [], _ => rfl
  | w, a :: b :: cs, x :: c, h => by have := Hold.len h.2.2.2; simp; omega
theorem Hold.keeps : ∀ {w w' : World} {cs : List Value} {c : List Tm}, Hold w cs c → Below w.heap.size w w' → Hold w' cs c
  | _, _, [], [], _, _ => trivial
  | _, _, _ :: _ :: _, _ :: _, h, hb => ⟨h.1, h.2.1, h.2.2.1.keeps hb, Hold.keeps h.2.2.2 hb⟩
theorem Hold.append : ∀ {w : World} {cs ds : List Value} {c d : List Tm}, Hold w cs c → Hold w ds d → Hold w (cs ++ ds) (c ++ d)
  | _, [], _, [], _, _, h => h
  | _, _ :: _ :: _, _, _ :: _, _, h, h2 => ⟨h.1, h.2.1, h.2.2.1, Hold.append h.2.2.2 h2⟩
theorem Hold.one {w : World} {u : Value} {x : Tm} (hr : x.1 < 256) (hu : Sps w u x.2) : Hold w [.int .u8 (x.1 : Int), u] [x] := ⟨rfl, hr, hu, trivial⟩
theorem Hold.get : ∀ {w : World} {cs : List Value} {c : List Tm} (k : Nat), Hold w cs c → k < c.length →
    cs[k * 2]? = some (.int .u8 ((c.getD k (0, [])).1 : Int)) ∧ (c.getD k (0, [])).1 < 256 ∧ ∃ u, cs[k * 2 + 1]? = some u ∧ Sps w u (c.getD k (0, [])).2
  | _, _, [], _, _, hk => by simp at hk
  | _, [], _ :: _, _, h, _ => by simp [Hold] at h
  | _, [_], _ :: _, _, h, _ => by simp [Hold] at h
  | w, a :: b :: cs, x :: c, 0, h, _ => by
    obtain ⟨rfl, h1, h2, _⟩ := h
    exact ⟨by simp, by simpa using h1, b, by simp, by simpa using h2⟩
  | w, a :: b :: cs, x :: c, k + 1, h, hk => by
    have := Hold.get k h.2.2.2 (by simpa using hk)
    rw [show (k + 1) * 2 = k * 2 + 1 + 1 by omega]
    simpa using this
/-- A slice of replicas' spans. -/
def Tms (w : World) (v : Value) (c : List Tm) : Prop := ∃ cs, Sees w v 2 c.length cs ∧ Hold w cs c
theorem Tms.keeps {w w' : World} {v : Value} {c : List Tm} (h : Tms w v c) (hb : Below w.heap.size w w') : Tms w' v c := by
  obtain ⟨cs, h1, h2⟩ := h
  exact ⟨cs, h1.keeps hb, h2.keeps hb⟩
theorem Tms.nil (w : World) : Tms w (.slice none 0 0) [] := ⟨[], Sees.nil w 2, trivial⟩
theorem Tms.shape {w : World} {v : Value} {c : List Tm} (h : Tms w v c) : ∃ ao cap, v = .slice ao c.length cap := by
  obtain ⟨cs, h1, _⟩ := h
  exact Sees.shape h1
theorem Tms.max {w : World} {v : Value} {c : List Tm} (h : Tms w v c) : c.length ≤ 9223372036854775807 := by
  obtain ⟨cs, h1, _⟩ := h
  exact Sees.max h1
theorem Tms.at {w : World} {ao : Option Addr} {m cap : Nat} {c : List Tm} (h : Tms w (.slice ao m cap) c) (k : Nat) (hk : k < c.length) :
    ∃ b off u, ao = some ⟨b, off, none⟩ ∧ b < w.heap.size ∧ w.cell? ⟨b, off + k * 2, none⟩ = some (.int .u8 ((c.getD k (0, [])).1 : Int)) ∧ w.cell? ⟨b, off + k * 2 + 1, none⟩ = some u ∧
      (c.getD k (0, [])).1 < 256 ∧ Sps w u (c.getD k (0, [])).2 := by
  obtain ⟨cs, h1, h2⟩ := h
  have hl := h2.len
  obtain ⟨b, off, e1, e2, e3⟩ := Sees.at h1 (k * 2) (by omega)
  obtain ⟨g1, g2, u, g3, g4⟩ := h2.get k hk
  exact ⟨b, off, u, e1, e2, (e3 (k * 2) (by omega)).trans g1, (e3 (k * 2 + 1) (by omega)).trans g3, g2, g4⟩

/-- The same, and each element's spans are of the call's own. -/
def HoldO (w : World) (base : Nat) : List Value → List Tm → Prop
  | [], [] => True
  | a :: b :: cs, x :: c => a = .int .u8 (x.1 : Int) ∧ x.1 < 256 ∧ w.ownsRow base 102 2 b x.2.length (sps x.2) ∧ HoldO w base cs c
  | _, _ => False
theorem HoldO.hold : ∀ {w : World} {base : Nat} {cs : List Value} {c : List Tm}, HoldO w base cs c → Hold w cs c
  | _, _, [], [], _ => trivial
  | _, _, _ :: _ :: _, _ :: _, h => ⟨h.1, h.2.1, Sps.own h.2.2.1, HoldO.hold h.2.2.2⟩
theorem HoldO.keeps : ∀ {w w' : World} {base : Nat} {cs : List Value} {c : List Tm}, HoldO w base cs c → Below w.heap.size w w' → HoldO w' base cs c
  | _, _, _, [], [], _, _ => trivial
  | _, _, _, _ :: _ :: _, _ :: _, h, hb => ⟨h.1, h.2.1, own_stays h.2.2.1 hb, HoldO.keeps h.2.2.2 hb⟩
theorem HoldO.append : ∀ {w : World} {base : Nat} {cs ds : List Value} {c d : List Tm}, HoldO w base cs c → HoldO w base ds d → HoldO w base (cs ++ ds) (c ++ d)
  | _, _, [], _, [], _, _, h => h
  | _, _, _ :: _ :: _, _, _ :: _, _, h, h2 => ⟨h.1, h.2.1, h.2.2.1, HoldO.append h.2.2.2 h2⟩
/-- A clock of the call's own, its spans too. -/
def OwnC (w : World) (base : Nat) (v : Value) (c : List Tm) : Prop := ∃ cs, w.ownsRow base 72 2 v c.length cs ∧ HoldO w base cs c
theorem OwnC.tms {w : World} {base : Nat} {v : Value} {c : List Tm} (h : OwnC w base v c) : Tms w v c := by
  obtain ⟨cs, h1, h2⟩ := h
  exact ⟨cs, Sees.own h1, h2.hold⟩
theorem OwnC.keeps {w w' : World} {base : Nat} {v : Value} {c : List Tm} (h : OwnC w base v c) (hb : Below w.heap.size w w') : OwnC w' base v c := by
  obtain ⟨cs, h1, h2⟩ := h
  exact ⟨cs, own_stays h1 hb, h2.keeps hb⟩
theorem times_info : (Tryz.prog.info? 72).map (fun i => (i.zero, i.size, i.bytes)) = some (some (.agg #[.int .u8 0, .slice none 0 0]), 2, 32) := by kernel_rfl
end Go.Proofs.YtdackenaknieaaaGreat

/- octavoref07: Twin, Same, In, Many, May, Check, Has, Count: what each answers. Conditions: the slices' cells are spans. -/
namespace Go.Proofs.YtdackenaknieaaaGreat.Spans
open Go.RowKit
attribute [local go_sem ↓] Go.wp_at_zero Go.wp_at_succ

theorem sps_ne : ∀ {a b : List Sp}, a.length = b.length → a ≠ b → ∃ k, k < a.length ∧ a.getD k zsp ≠ b.getD k zsp
  | [], [], _, h => absurd rfl h
  | x :: a, y :: b, hl, h => by
    by_cases hxy : x = y
    · subst hxy
      obtain ⟨k, h1, h2⟩ := sps_ne (a := a) (b := b) (by simpa using hl) (fun e => h (by rw [e]))
      exact ⟨k + 1, by simpa using h1, by simpa using h2⟩
    · exact ⟨0, by simp, by simpa using hxy⟩
  | [], _ :: _, hl, _ => by simp at hl
  | _ :: _, [], hl, _ => by simp at hl

set_option maxHeartbeats 1000000 in
theorem same_yes_drawn {a b : Value} {l : List Sp} {w : World} (ha : Sps w a l) (hb : Sps w b l) :
    Calls Tryz.prog 46 #[a, b] w fun e w' => e = .returned (.bool true) ∧ ∃ m, w' = w.drewN m := by
  obtain ⟨ao, ca, rfl⟩ := ha.shape
  obtain ⟨bo, cb, rfl⟩ := hb.shape
  obtain ⟨n, hn⟩ : ∃ n, n = l.length := ⟨_, rfl⟩
  have hm : n ≤ 9223372036854775807 := by rw [hn]; exact Sees.max ha
  have HA := Lib.hid ha
  have HB := Lib.hid hb
  have HN := Lib.hid hn
  rw [← hn]
  clear ha hb hn
  have t1 : ((n : Int) != (n : Int)) = false := by simp
  go_enter Tryz.func46, Tryz.ntmps46
  go_wp2
  go_loopw [5] (fun i wr => ∃ k : Nat, k ≤ n ∧ i = .int .i64 (k : Int) ∧ ∃ q, wr = w.drewN q) (fun i _ => n - (intOf i).toNat)
  case atStart => exact ⟨0, by omega, rfl, 0, rfl⟩
  case round =>
    obtain ⟨k, hk, rfl, q, rfl⟩ := hrel
    by_cases hkn : k < n
    · have q1 : decide (k < n) = true := by simpa using hkn
      obtain ⟨b1, o1, rfl, hb1, ha0, ha1⟩ := HA.out.at k (by rw [← HN.out]; exact hkn)
      obtain ⟨b2, o2, rfl, hb2, hb0, hb1'⟩ := HB.out.at k (by rw [← HN.out]; exact hkn)
      obtain ⟨x, hx⟩ : ∃ x, x = l.getD k zsp := ⟨_, rfl⟩
      rw [← hx] at ha0 ha1 hb0 hb1'
      obtain ⟨xt, xr, _, _⟩ := x
      simp only at ha0 ha1 hb0 hb1'
      have q2 : (0 : Int) ≤ (k : Int) := by omega
      have q3 : (k : Int) < (n : Int) := by omega
      clear hx
      go_wp2
      go_quiet (fail)
      go_wp2
      go_roundw
      case rel => exact ⟨k + 1, by omega, by go_num, _, rfl⟩
      case measure => simp [intOf]; omega
    · have q1 : decide (k < n) = false := by simpa using hkn
      go_wp2
      go_ret
      exact ⟨rfl, _, rfl⟩

set_option maxHeartbeats 1000000 in
theorem same_no_drawn {a b : Value} {l m : List Sp} {w : World} (ha : Sps w a l) (hb : Sps w b m) (hlm : l ≠ m) :
    Calls Tryz.prog 46 #[a, b] w fun e w' => e = .returned (.bool false) ∧ ∃ m, w' = w.drewN m := by
  obtain ⟨ao, ca, rfl⟩ := ha.shape
  obtain ⟨bo, cb, rfl⟩ := hb.shape
  obtain ⟨n, hn⟩ : ∃ n, n = l.length := ⟨_, rfl⟩
  obtain ⟨n2, hn2⟩ : ∃ n, n = m.length := ⟨_, rfl⟩
  have hm : n ≤ 9223372036854775807 := by rw [hn]; exact Sees.max ha
  have HA := Lib.hid ha
  have HB := Lib.hid hb
  have HN := Lib.hid hn
  have HN2 := Lib.hid hn2
  have HL := Lib.hid hlm
  rw [← hn, ← hn2]
  clear ha hb hn hn2 hlm
  by_cases hlen : n = n2
  · subst hlen
    have t1 : ((n : Int) != (n : Int)) = false := by simp
    go_enter Tryz.func46, Tryz.ntmps46
    go_wp2
    go_loopw [5] (fun i wr => ∃ k : Nat, k ≤ n ∧ i = .int .i64 (k : Int) ∧ Hid (∀ j, j < k → l.getD j zsp = m.getD j zsp) ∧ ∃ q, wr = w.drewN q) (fun i _ => n - (intOf i).toNat)
    case atStart => exact ⟨0, by omega, rfl, Lib.hid (by omega), 0, rfl⟩
    case round =>
      obtain ⟨k, hk, rfl, hal, q, rfl⟩ := hrel
      by_cases hkn : k < n
      · have q1 : decide (k < n) = true := by simpa using hkn
        obtain ⟨b1, o1, rfl, hb1, ha0, ha1⟩ := HA.out.at k (by rw [← HN.out]; exact hkn)
        obtain ⟨b2, o2, rfl, hb2, hb0, hb1'⟩ := HB.out.at k (by rw [← HN2.out]; exact hkn)
        obtain ⟨x, hx⟩ : ∃ x, x = l.getD k zsp := ⟨_, rfl⟩
        obtain ⟨y, hy⟩ : ∃ y, y = m.getD k zsp := ⟨_, rfl⟩
        rw [← hx] at ha0 ha1
        rw [← hy] at hb0 hb1'
        have q2 : (0 : Int) ≤ (k : Int) := by omega
        have q3 : (k : Int) < (n : Int) := by omega
        by_cases hxy : x = y
        · have HX := Lib.hid (show l.getD k zsp = m.getD k zsp by rw [← hx, ← hy, hxy])
          subst hxy
          obtain ⟨xt, xr, _, _⟩ := x
          simp only at ha0 ha1 hb0 hb1'
          clear hx hy
          go_wp2
          go_quiet (fail)
          go_wp2
          go_roundw
          case rel =>
            refine ⟨k + 1, by omega, by go_num, Lib.hid (fun j hj => ?_), _, rfl⟩
            by_cases e : j = k
            · rw [e]; exact HX.out
            · exact hal.out j (by omega)
          case measure => simp [intOf]; omega
        · have hparts : ¬ x.f = y.f ∨ (x.f = y.f ∧ ¬ x.t = y.t) := by
            by_cases h1 : x.f = y.f
            · exact .inr ⟨h1, fun h2 => hxy (Sp.ext' h1 h2)⟩
            · exact .inl h1
          obtain ⟨xt, xr, _, _⟩ := x
          obtain ⟨yt, yr, _, _⟩ := y
          simp only at ha0 ha1 hb0 hb1' hparts
          clear hx hy hxy
          rcases hparts with h1 | ⟨rfl, h2⟩
          · go_wp2
            go_quiet (fail)
            go_wp2
            go_ret
            exact ⟨rfl, _, by rw [World.drewN_drewN]⟩
          · have h4 : ((xr : Int) == (yr : Int)) = false := by simp; omega
            have h5 : decide (xr = yr) = false := decide_eq_false h2
            go_wp2
            go_quiet (fail)
            go_wp2
            go_ret
            exact ⟨rfl, _, by rw [World.drewN_drewN]⟩
      · exfalso
        obtain ⟨j, h1, h2⟩ := sps_ne (by rw [← HN.out, ← HN2.out]) HL.out
        exact h2 (hal.out j (by have := HN.out; omega))
  · have t1 : ((n : Int) != (n2 : Int)) = true := by simp; omega
    have t2 : ¬ n = n2 := hlen
    go_enter Tryz.func46, Tryz.ntmps46
    go_wp2
    go_ret
    exact ⟨rfl, 0, rfl⟩
theorem same_yes {a b : Value} {l : List Sp} {w : World} (ha : Sps w a l) (hb : Sps w b l) :
    Calls Tryz.prog 46 #[a, b] w fun e w' => e = .returned (.bool true) ∧ Below w.heap.size w w' :=
  (same_yes_drawn ha hb).mono fun _ _ ⟨he, m, hm⟩ => ⟨he, by rw [hm]; exact below_draw (Below.refl _ _) m⟩
theorem same_no {a b : Value} {l m : List Sp} {w : World} (ha : Sps w a l) (hb : Sps w b m) (hlm : l ≠ m) :
    Calls Tryz.prog 46 #[a, b] w fun e w' => e = .returned (.bool false) ∧ Below w.heap.size w w' :=
  (same_no_drawn ha hb hlm).mono fun _ _ ⟨he, m, hm⟩ => ⟨he, by rw [hm]; exact below_draw (Below.refl _ _) m⟩
theorem refSame_any {a b : Value} {l m : List Sp} {w : World} (ha : Sps w a l) (hb : Sps w b m) :
    Calls Tryz.prog 46 #[a, b] w fun e w' => e = .returned (.bool (decide (l = m))) ∧ Below w.heap.size w w' := by
  by_cases h : l = m
  · subst h
    rw [decide_eq_true rfl]
    exact same_yes ha hb
  · rw [decide_eq_false h]
    exact same_no ha hb h

end Go.Proofs.YtdackenaknieaaaGreat.Spans

/- octavoref07: Many, May, Check, Has, Count, told: what each answers. Conditions: the slices' cells are spans. -/
namespace Go.Proofs.YtdackenaknieaaaGreat.Spans
open Go.RowKit
attribute [local go_sem ↓] Go.wp_at_zero Go.wp_at_succ

def chk (l : List Sp) : Int := if mayB l = true then 0 else 8
def has (l : List Sp) (t : Nat) : Bool := mayB l && inB l t
def count (l : List Sp) : Nat := if mayB l = true then many l else 0
end Go.Proofs.YtdackenaknieaaaGreat.Spans

/- octavoref08: May, Check, Spans, In, Has, Many, Count, Top: what each answers. Conditions: the slices' cells are replicas' spans. -/
namespace Go.Proofs.YtdackenaknieaaaGreat.Clocks
open Go.RowKit Go.Proofs.YtdackenaknieaaaGreat.Spans
attribute [local go_sem ↓] Go.wp_at_zero Go.wp_at_succ

theorem Tms.drawn {w : World} {v : Value} {c : List Tm} (h : Tms w v c) (n : Nat) : Tms (w.drewN n) v c := h.keeps (below_draw (Below.refl _ _) n)

end Go.Proofs.YtdackenaknieaaaGreat.Clocks

/- octavoref08: Check, Spans, In, Has, Many, Count, Top: what each answers. Conditions: the slices' cells are replicas' spans. -/
namespace Go.Proofs.YtdackenaknieaaaGreat.Clocks
open Go.RowKit Go.Proofs.YtdackenaknieaaaGreat.Spans
attribute [local go_sem ↓] Go.wp_at_zero Go.wp_at_succ

end Go.Proofs.YtdackenaknieaaaGreat.Clocks

/- octavoref07.Without: what it answers. Conditions: the slice's cells are spans that may be. -/
namespace Go.Proofs.YtdackenaknieaaaGreat.Spans
open Go.RowKit
attribute [local go_sem ↓] Go.wp_at_zero Go.wp_at_succ

theorem two_blk {X : World} {g : Nat} {c0 c1 : Value} {e : TypeId} {fr : Nat × Nat} (h : X.heap[g]? = some (.cells #[c0, c1] e fr)) : X.cell? ⟨g, 0, none⟩ = some c0 ∧ X.cell? ⟨g, 1, none⟩ = some c1 :=
  ⟨cell_of_row _ g 0 #[c0, c1] e _ h, cell_of_row _ g 1 #[c0, c1] e _ h⟩
theorem sees_sp {X : World} {g : Nat} {a : Sp} {F T : Int} {e : TypeId} (h : X.heap[g]? = some (.cells #[.int .u32 F, .int .u32 T] e)) (hF : F = (a.f : Int)) (hT : T = (a.t : Int)) : Sees X (.slice (some ⟨g, 0, none⟩) 1 1) 2 1 (sps [a]) := by
  subst hF hT
  refine ⟨rfl, _, _, rfl, Nat.le_refl _, by decide, by simp, .inr ⟨g, 0, rfl, (Array.getElem?_eq_some_iff.1 h).1, fun j u hj => ?_⟩⟩
  rw [cell_of_row X g (0 + j) _ e _ h, Nat.zero_add]
  simpa [sps] using hj
theorem own_base {w : World} {b b' : Nat} {e : TypeId} {v : Value} {sz n : Nat} {cs : List Value} (h : w.ownsRow b e sz v n cs) (hb : b' ≤ b) : w.ownsRow b' e sz v n cs :=
  ⟨h.1, h.2.imp_right fun ⟨g, c, cur, h1, h2, h3⟩ => ⟨g, c, cur, h1, Nat.le_trans hb h2, h3⟩⟩

theorem kb_new {X : World} {g : Nat} {o : Obj} (h : X.heap.size = g) : (X.alloc o).heap[g]? = some o := by
  subst h; exact heap_alloc_new X o
end Go.Proofs.YtdackenaknieaaaGreat.Spans

/- octavoref07.With: what it answers. Conditions: the slice's cells are spans that may be. -/
namespace Go.Proofs.YtdackenaknieaaaGreat.Spans
open Go.RowKit
attribute [local go_sem ↓] Go.wp_at_zero Go.wp_at_succ

/-- A row of the call's own above a box of two cells; nothing that was there has turned. -/
def Keep (H : Nat) (w : World) (f t : Nat) (o : Value) (l : List Sp) (wr : World) : Prop :=
  wr.ownsRow (H + 1) 102 2 o l.length (sps l) ∧ Below H w wr ∧ wr.heap[H]? = some (.cells #[.int .u32 (f : Int), .int .u32 (t : Int)] 102)
theorem Keep.lt {H f t : Nat} {w wr : World} {o : Value} {l : List Sp} (h : Keep H w f t o l wr) : H < wr.heap.size := (Array.getElem?_eq_some_iff.1 h.2.2).1
theorem Keep.draw {H f t : Nat} {w wr : World} {o : Value} {l : List Sp} (h : Keep H w f t o l wr) (q : Nat) : Keep H w f t o l (wr.drewN q) := ⟨h.1, below_draw h.2.1 q, h.2.2⟩
theorem Keep.next {H f t : Nat} {w wo X w1 : World} {v v1 : Value} {l : List Sp} {a : Sp} (hk : Keep H w f t v l wo) (hX : Below wo.heap.size wo X)
    (o1 : w1.ownsRow (H + 1) 102 2 v1 (l.length + 1) (sps l ++ sps [a])) (b1 : Below (H + 1) X w1) : Keep H w f t v1 (l ++ [a]) w1 := by
  have hlt := hk.lt
  refine ⟨?_, (hk.2.1.trans (hX.mono (by omega))).trans (b1.mono (Nat.le_succ _)), ?_⟩
  · rw [sps_append, List.length_append]; exact o1
  · exact (b1.block H (Nat.lt_succ_self _)).trans ((hX.block H hlt).trans hk.2.2)
theorem own_set {w : World} {B H o n sz : Nat} {e : TypeId} {v d : Value} {cs : List Value} (h : w.ownsRow B e sz v n cs) (hH : H < B) : (w.setCell ⟨H, o, none⟩ d).ownsRow B e sz v n cs := by
  refine ⟨h.1, ?_⟩
  rcases h.2 with h0 | ⟨g, cap, cur, rfl, h1, hg, h2⟩
  · exact .inl h0
  · refine .inr ⟨g, cap, cur, rfl, h1, ?_, h2⟩
    rw [heap_setCell_other _ _ _ _ (show g ≠ H by omega)]
    exact hg
theorem Keep.drew {H f t : Nat} {w wr : World} {o : Value} {l : List Sp} (h : Keep H w f t o l wr) : Keep H w f t o l wr.drew := ⟨h.1, h.2.1.drew, h.2.2⟩
/-- The box stored anew. -/
theorem Keep.put {H f t : Nat} {w wr : World} {o : Value} {l : List Sp} (h : Keep H w f t o l wr) (f' t' : Nat) : Keep H w f' t' o l ((wr.setCell ⟨H, 0, none⟩ (.int .u32 (f' : Int))).setCell ⟨H, 1, none⟩ (.int .u32 (t' : Int))) := by
  refine ⟨own_set (own_set h.1 (Nat.lt_succ_self _)) (Nat.lt_succ_self _), (h.2.1.setCell (p := ⟨H, 0, none⟩) (Nat.le_refl _) _).setCell (p := ⟨H, 1, none⟩) (Nat.le_refl _) _, ?_⟩
  have h0 := heap_setCell_same wr H 0 _ _ (.int .u32 (f' : Int)) h.2.2
  have h1 := heap_setCell_same _ H 1 _ _ (.int .u32 (t' : Int)) h0
  exact h1

end Go.Proofs.YtdackenaknieaaaGreat.Spans
