/- Spans, as Bools, and taken one by one. Conditions: none. -/
import Derived.Test.YtocjkegkgnbboaaPk06
import Derived.Test.YtocjkegkgnbboaaPk01

namespace Go.Proofs.Ytocjkegkgnbboaa.Spans

def fineB : List Sp → Bool
  | [] => true
  | [x] => decide (Ok x)
  | x :: y :: l => decide (Ok x) && (decide (x.t + 2 ≤ y.f) && fineB (y :: l))
theorem fineB_iff : ∀ l : List Sp, fineB l = true ↔ Fine l
  | [] => by simp [fineB, Fine]
  | [x] => by simp [fineB, Fine]
  | x :: y :: l => by simp [fineB, Fine, fineB_iff (y :: l)]
/-- May spans be? -/
def mayB (l : List Sp) : Bool := fineB l && decide (l.length ≤ 1024)
theorem mayB_iff (l : List Sp) : mayB l = true ↔ Fine l ∧ l.length ≤ 1024 := by simp [mayB, fineB_iff]
theorem mayB_no {l : List Sp} (h : ¬ Fine l) : mayB l = false := by
  cases hb : mayB l
  · rfl
  · exact absurd ((mayB_iff l).1 hb).1 h
theorem fine_ok : ∀ {l : List Sp} {k : Nat}, Fine l → k < l.length → Ok (l.getD k zsp)
  | [], k, _, h => by simp at h
  | x :: l, 0, h, _ => by simpa using h.head
  | x :: l, k + 1, h, hk => by simpa using fine_ok (k := k) h.tail (by simpa using hk)
theorem fine_next : ∀ {l : List Sp} {k : Nat}, Fine l → k + 1 < l.length → (l.getD k zsp).t + 2 ≤ (l.getD (k + 1) zsp).f
  | [], k, _, h => by simp at h
  | [x], k, _, h => by simp at h
  | x :: y :: l, 0, h, _ => by simpa using h.2.1
  | x :: y :: l, k + 1, h, hk => by
    have := fine_next (l := y :: l) (k := k) h.2.2 (by simpa using hk)
    simpa using this
theorem take_snoc (l : List Sp) (k : Nat) (h : k < l.length) : l.take (k + 1) = l.take k ++ [l.getD k zsp] := by
  rw [List.take_succ_eq_append_getElem h]
  simp [List.getD, List.getElem?_eq_getElem h]
theorem fine_front : ∀ {p q : List Sp}, Fine (p ++ q) → Fine p
  | [], _, _ => trivial
  | [_], _, h => h.head
  | _ :: y :: p, _, h => ⟨h.1, h.2.1, fine_front (p := y :: p) h.2.2⟩
theorem fine_most : ∀ {l : List Sp}, Fine l → ∀ a ∈ l, a.t ≤ (l.getD (l.length - 1) zsp).t
  | [], _, a, ha => by simp at ha
  | [x], _, a, ha => by simp only [List.mem_singleton] at ha; subst ha; simp
  | x :: y :: l, h, a, ha => by
    have ih := fine_most h.2.2
    have e : (x :: y :: l).getD ((x :: y :: l).length - 1) zsp = (y :: l).getD ((y :: l).length - 1) zsp := by simp
    rw [e]
    rw [List.mem_cons] at ha
    rcases ha with rfl | ha
    · have h1 := ih y (by simp)
      have h2 := h.2.1
      have h3 := h.2.2.head
      unfold Ok at h3
      omega
    · exact ih a ha
theorem fine_take_succ {l : List Sp} {k : Nat} (h : k < l.length) (hc : Fine (l.take k)) (h1 : Ok (l.getD k zsp)) (h2 : k = 0 ∨ (l.getD (k - 1) zsp).t + 2 ≤ (l.getD k zsp).f) : Fine (l.take (k + 1)) := by
  rw [take_snoc l k h]
  refine fine_append hc h1 (fun a ha b hb => ?_)
  simp only [List.mem_singleton] at hb
  subst hb
  rcases h2 with rfl | h2
  · simp at ha
  · have h3 := fine_most hc a ha
    have hk : 0 < k := by
      cases k with
      | zero => simp at ha
      | succ k => omega
    rw [List.length_take, Nat.min_eq_left (by omega)] at h3
    have e : (l.take k).getD (k - 1) zsp = l.getD (k - 1) zsp := by
      simp [List.getD, show k - 1 < k by omega]
    rw [e] at h3
    omega
theorem many_snoc (l : List Sp) (x : Sp) : many (l ++ [x]) = many l + (x.t - x.f + 1) := by
  induction l with
  | nil => simp [many]
  | cons y l ih => simp only [List.cons_append, many, ih]; omega
theorem inB_snoc (l : List Sp) (x : Sp) (n : Nat) : inB (l ++ [x]) n = (inB l n || decide (x.f ≤ n ∧ n ≤ x.t)) := by
  induction l with
  | nil => simp [inB]
  | cons y l ih => simp only [List.cons_append, inB, ih, Bool.or_assoc]
theorem gat_snoc : ∀ (l : List Sp) (x y : Sp), gat (l ++ [y]) x = if (gat l x).f ≤ y.t + 1 ∧ y.f ≤ (gat l x).t + 1 then mrg y (gat l x) else gat l x
  | [], _, _ => rfl
  | z :: l, x, y => by
    rw [List.cons_append]
    show (if x.f ≤ z.t + 1 ∧ z.f ≤ x.t + 1 then gat (l ++ [y]) (mrg z x) else gat (l ++ [y]) x) = _
    by_cases h : x.f ≤ z.t + 1 ∧ z.f ≤ x.t + 1
    · rw [if_pos h, gat_snoc l (mrg z x) y]
      have e : gat (z :: l) x = gat l (mrg z x) := by
        show (if x.f ≤ z.t + 1 ∧ z.f ≤ x.t + 1 then gat l (mrg z x) else gat l x) = _
        rw [if_pos h]
      rw [e]
    · rw [if_neg h, gat_snoc l x y]
      have e : gat (z :: l) x = gat l x := by
        show (if x.f ≤ z.t + 1 ∧ z.f ≤ x.t + 1 then gat l (mrg z x) else gat l x) = _
        rw [if_neg h]
      rw [e]
theorem gat_ok : ∀ {l : List Sp} {x : Sp}, (∀ y ∈ l, Ok y) → Ok x → Ok (gat l x)
  | [], _, _, hx => hx
  | y :: l, x, h, hx => by
    unfold gat
    split
    · exact gat_ok (fun z hz => h z (by simp [hz])) (mrg_ok hx (h y (by simp)))
    · exact gat_ok (fun z hz => h z (by simp [hz])) hx
theorem both_snoc : ∀ (b a : List Sp) (x : Sp), both a (b ++ [x]) = ins (both a b) x
  | [], _, _ => rfl
  | y :: b, a, x => both_snoc b (ins a y) x
theorem both_len : ∀ (b a : List Sp), (both a b).length ≤ a.length + b.length
  | [], _ => by simp [both]
  | x :: b, a => by have h1 := both_len b (ins a x); have h2 := ins_len a x; simp only [both, List.length_cons]; omega
theorem del_len1 : ∀ {l : List Sp} {x : Sp}, Fine l → Ok x → (del l x).length ≤ l.length + 1
  | [], _, _, _ => by simp [del]
  | y :: l, x, h, hx => by
    unfold del
    rw [List.length_append, List.length_cons]
    have h1 := del_len1 h.tail hx
    have h2 := rem_len y x
    by_cases g : x.t < y.t
    · -- what is behind is untouched
      have e : del l x = l := by
        have : ∀ {m : List Sp}, (∀ z ∈ m, x.t < z.f) → del m x = m := by
          intro m
          induction m with
          | nil => intro _; rfl
          | cons z m ih =>
            intro hm
            have hz := hm z (by simp)
            have e1 : rem z x = [z] := by unfold rem; rw [if_pos (.inr hz)]
            show rem z x ++ del m x = z :: m
            rw [e1, ih (fun u hu => hm u (by simp [hu]))]
            rfl
        exact this (fun z hz => by have := h.far z hz; omega)
      rw [e]
      omega
    · have h3 : (rem y x).length ≤ 1 := by
        unfold rem
        split
        · simp
        · split <;> simp
      omega
theorem left_len : ∀ {b a : List Sp}, Fine a → (∀ x ∈ b, Ok x) → (left a b).length ≤ a.length + b.length
  | [], _, _, _ => by simp [left]
  | x :: b, a, h, hb => by
    have hx := hb x (by simp)
    have h1 := left_len (b := b) (del_fine h hx) (fun y hy => hb y (by simp [hy]))
    have h2 := del_len1 h hx
    simp only [left, List.length_cons]
    omega
end Go.Proofs.Ytocjkegkgnbboaa.Spans

/- Clocks as lists of a replica and its spans, in Lean alone: one way of writing, joins, what is left, how many, up to when. -/
namespace Go.Proofs.Ytocjkegkgnbboaa.Clocks
open Go.Proofs.Ytocjkegkgnbboaa.Spans

/-- A replica and its spans. -/
abbrev Tm := Nat × List Sp

/-- Replicas from lo on, ascending, each with spans that may be. -/
def Up : Nat → List Tm → Prop
  | _, [] => True
  | lo, x :: c => lo ≤ x.1 ∧ x.1 < 8 ∧ x.2 ≠ [] ∧ mayB x.2 = true ∧ Up (x.1 + 1) c
/-- May the clock be? -/
def Cok (c : List Tm) : Prop := Up 0 c
/-- A replica's spans. -/
def spn : List Tm → Nat → List Sp
  | [], _ => []
  | x :: c, r => if x.1 = r then x.2 else spn c r
theorem up_mono {c : List Tm} {lo lo' : Nat} (h : Up lo c) (hl : lo' ≤ lo) : Up lo' c := by
  cases c with
  | nil => trivial
  | cons x c => exact ⟨Nat.le_trans hl h.1, h.2⟩
theorem spn_low : ∀ {c : List Tm} {lo r : Nat}, Up lo c → r < lo → spn c r = []
  | [], _, _, _, _ => rfl
  | x :: c, lo, r, h, hr => by
    unfold spn
    rw [if_neg (by have := h.1; omega)]
    exact spn_low h.2.2.2.2 (by have := h.1; omega)
theorem spn_high : ∀ {c : List Tm} {lo r : Nat}, Up lo c → 8 ≤ r → spn c r = []
  | [], _, _, _, _ => rfl
  | x :: c, lo, r, h, hr => by
    unfold spn
    rw [if_neg (by have := h.2.1; omega)]
    exact spn_high h.2.2.2.2 hr
theorem spn_may : ∀ {c : List Tm} {lo : Nat}, Up lo c → ∀ r, mayB (spn c r) = true
  | [], _, _, _ => rfl
  | x :: c, lo, h, r => by
    unfold spn
    split
    · exact h.2.2.2.1
    · exact spn_may h.2.2.2.2 r
/-- A clock is written in one way alone. -/
theorem up_ext : ∀ {c d : List Tm} {lo : Nat}, Up lo c → Up lo d → (∀ r, spn c r = spn d r) → c = d
  | [], [], _, _, _, _ => rfl
  | [], y :: d, _, _, hd, h => by
    have := h y.1
    unfold spn at this
    rw [if_pos rfl] at this
    exact absurd this.symm hd.2.2.1
  | x :: c, [], _, hc, _, h => by
    have := h x.1
    unfold spn at this
    rw [if_pos rfl] at this
    exact absurd this hc.2.2.1
  | x :: c, y :: d, lo, hc, hd, h => by
    have hx : spn (x :: c) x.1 = x.2 := by unfold spn; rw [if_pos rfl]
    have hy : spn (y :: d) y.1 = y.2 := by unfold spn; rw [if_pos rfl]
    have e1 : x.1 = y.1 := by
      rcases Nat.lt_trichotomy x.1 y.1 with q | q | q
      · have : spn (y :: d) x.1 = [] := spn_low (lo := y.1) ⟨Nat.le_refl _, hd.2⟩ q
        rw [← h, hx] at this
        exact absurd this hc.2.2.1
      · exact q
      · have : spn (x :: c) y.1 = [] := spn_low (lo := x.1) ⟨Nat.le_refl _, hc.2⟩ q
        rw [h, hy] at this
        exact absurd this hd.2.2.1
    have e2 : x.2 = y.2 := by rw [← hx, ← hy, h, e1]
    have e3 : c = d := by
      refine up_ext (lo := x.1 + 1) hc.2.2.2.2 (by rw [e1]; exact hd.2.2.2.2) fun r => ?_
      by_cases q : x.1 = r
      · rw [spn_low hc.2.2.2.2 (by omega), spn_low hd.2.2.2.2 (by omega)]
      · have := h r
        unfold spn at this
        rwa [if_neg q, if_neg (by omega)] at this
    rw [e3, Prod.ext e1 e2]

/-- The clock of k replicas' spans, from lo on. -/
def clkFrom (g : Nat → List Sp) : Nat → Nat → List Tm
  | _, 0 => []
  | lo, k + 1 => if g lo = [] then clkFrom g (lo + 1) k else (lo, g lo) :: clkFrom g (lo + 1) k
def clk (g : Nat → List Sp) : List Tm := clkFrom g 0 8
theorem clkFrom_up {g : Nat → List Sp} (hg : ∀ r, mayB (g r) = true) : ∀ (k lo : Nat), lo + k ≤ 8 → Up lo (clkFrom g lo k)
  | 0, _, _ => trivial
  | k + 1, lo, h => by
    unfold clkFrom
    split
    · exact up_mono (clkFrom_up hg k (lo + 1) (by omega)) (Nat.le_succ _)
    · rename_i q
      exact ⟨Nat.le_refl _, by show lo < 8; omega, q, hg lo, clkFrom_up hg k (lo + 1) (by omega)⟩
theorem spn_clkFrom (g : Nat → List Sp) : ∀ (k lo r : Nat), spn (clkFrom g lo k) r = if lo ≤ r ∧ r < lo + k then g r else []
  | 0, lo, r => by rw [if_neg (by omega)]; rfl
  | k + 1, lo, r => by
    have ih := spn_clkFrom g k (lo + 1) r
    unfold clkFrom
    by_cases q : g lo = []
    · rw [if_pos q, ih]
      by_cases e : r = lo
      · subst e
        rw [if_neg (by omega), if_pos (by omega), q]
      · by_cases e2 : lo + 1 ≤ r ∧ r < lo + 1 + k
        · rw [if_pos e2, if_pos (by omega)]
        · rw [if_neg e2, if_neg (by omega)]
    · rw [if_neg q]
      unfold spn
      by_cases e : lo = r
      · subst e
        rw [if_pos rfl, if_pos (by omega)]
      · rw [if_neg e, ih]
        by_cases e2 : lo + 1 ≤ r ∧ r < lo + 1 + k
        · rw [if_pos e2, if_pos (by omega)]
        · rw [if_neg e2, if_neg (by omega)]
theorem clk_ok {g : Nat → List Sp} (hg : ∀ r, mayB (g r) = true) : Cok (clk g) := clkFrom_up hg 8 0 (by omega)
theorem spn_clk (g : Nat → List Sp) (r : Nat) : spn (clk g) r = if r < 8 then g r else [] := by
  unfold clk
  rw [spn_clkFrom]
  by_cases h : r < 8
  · rw [if_pos (by omega), if_pos h]
  · rw [if_neg (by omega), if_neg h]
theorem clk_spn {c : List Tm} (h : Cok c) : clk (spn c) = c := by
  refine up_ext (clk_ok (spn_may h)) h fun r => ?_
  rw [spn_clk]
  split
  · rfl
  · exact (spn_high h (by omega)).symm
/-- How many stamps. -/
def manyC : List Tm → Nat
  | [] => 0
  | x :: c => many x.2 + manyC c
def sumFrom (g : Nat → List Sp) : Nat → Nat → Nat
  | _, 0 => 0
  | lo, k + 1 => many (g lo) + sumFrom g (lo + 1) k
theorem manyC_clkFrom (g : Nat → List Sp) : ∀ (k lo : Nat), manyC (clkFrom g lo k) = sumFrom g lo k
  | 0, _ => rfl
  | k + 1, lo => by
    unfold clkFrom sumFrom
    by_cases q : g lo = []
    · rw [if_pos q, manyC_clkFrom g k, q]; show _ = 0 + _; omega
    · rw [if_neg q]; show many (g lo) + manyC _ = _; rw [manyC_clkFrom g k]
theorem sumFrom_add {g p q : Nat → List Sp} (h : ∀ r, many (g r) = many (p r) + many (q r)) : ∀ (k lo : Nat), sumFrom g lo k = sumFrom p lo k + sumFrom q lo k
  | 0, _ => rfl
  | k + 1, lo => by
    unfold sumFrom
    rw [h, sumFrom_add h k]; omega
theorem manyC_add {g p q : Nat → List Sp} (h : ∀ r, many (g r) = many (p r) + many (q r)) : manyC (clk g) = manyC (clk p) + manyC (clk q) := by
  unfold clk
  rw [manyC_clkFrom, manyC_clkFrom, manyC_clkFrom]
  exact sumFrom_add h 8 0

/-- The greatest time of spans, and of a clock. -/
def top : List Sp → Nat
  | [] => 0
  | x :: l => max x.t (top l)
end Go.Proofs.Ytocjkegkgnbboaa.Clocks

/- Clocks taken one by one, whether they may be, as a Bool; the clock of stamps, and the stamps of a clock. Conditions: none. -/
namespace Go.Proofs.Ytocjkegkgnbboaa.Clocks
open Go.Proofs.Ytocjkegkgnbboaa.Spans

def ztm : Tm := (0, [])
def upB : Nat → List Tm → Bool
  | _, [] => true
  | lo, x :: c => decide (lo ≤ x.1 ∧ x.1 < 8 ∧ x.2 ≠ []) && (mayB x.2 && upB (x.1 + 1) c)
theorem upB_iff : ∀ (c : List Tm) (lo : Nat), upB lo c = true ↔ Up lo c
  | [], _ => by simp [upB, Up]
  | x :: c, lo => by
    unfold upB Up
    rw [Bool.and_eq_true, Bool.and_eq_true, decide_eq_true_iff, upB_iff c (x.1 + 1)]
    constructor
    · rintro ⟨⟨h1, h2, h3⟩, h4, h5⟩; exact ⟨h1, h2, h3, h4, h5⟩
    · rintro ⟨h1, h2, h3, h4, h5⟩; exact ⟨⟨h1, h2, h3⟩, h4, h5⟩
/-- May the clock be? -/
def mayC (c : List Tm) : Bool := upB 0 c
theorem mayC_iff (c : List Tm) : mayC c = true ↔ Cok c := upB_iff c 0
theorem mayC_no {c : List Tm} (h : ¬ Cok c) : mayC c = false := by
  cases hb : mayC c
  · rfl
  · exact absurd ((mayC_iff c).1 hb) h
theorem up_all : ∀ {c : List Tm} {lo : Nat}, Up lo c → ∀ x ∈ c, lo ≤ x.1 ∧ x.1 < 8 ∧ x.2 ≠ [] ∧ mayB x.2 = true
  | [], _, _, x, hx => by simp at hx
  | y :: c, lo, h, x, hx => by
    rw [List.mem_cons] at hx
    rcases hx with rfl | hx
    · exact ⟨h.1, h.2.1, h.2.2.1, h.2.2.2.1⟩
    · have := up_all h.2.2.2.2 x hx
      have h1 := h.1
      exact ⟨by omega, this.2⟩
theorem up_front : ∀ {c d : List Tm} {lo : Nat}, Up lo (c ++ d) → Up lo c
  | [], _, _, _ => trivial
  | _ :: _, _, _, h => ⟨h.1, h.2.1, h.2.2.1, h.2.2.2.1, up_front h.2.2.2.2⟩
theorem up_take {c : List Tm} {lo : Nat} (h : Up lo c) (k : Nat) : Up lo (c.take k) := by
  have := List.take_append_drop k c
  rw [← this] at h
  exact up_front h
theorem up_snoc : ∀ {c : List Tm} {x : Tm} {lo : Nat}, Up lo c → (∀ y ∈ c, y.1 < x.1) → lo ≤ x.1 → x.1 < 8 → x.2 ≠ [] → mayB x.2 = true → Up lo (c ++ [x])
  | [], x, lo, _, _, h1, h2, h3, h4 => ⟨h1, h2, h3, h4, trivial⟩
  | y :: c, x, lo, h, hl, h1, h2, h3, h4 => by
    have := hl y (by simp)
    exact ⟨h.1, h.2.1, h.2.2.1, h.2.2.2.1, up_snoc h.2.2.2.2 (fun z hz => hl z (by simp [hz])) (by omega) h2 h3 h4⟩
theorem up_next : ∀ {c : List Tm} {lo k : Nat}, Up lo c → k + 1 < c.length → (c.getD k ztm).1 < (c.getD (k + 1) ztm).1
  | [], _, k, _, h => by simp at h
  | [x], _, k, _, h => by simp at h
  | x :: y :: c, _, 0, h, _ => by
    have h1 : x.1 + 1 ≤ y.1 := h.2.2.2.2.1
    show x.1 < y.1
    omega
  | x :: y :: c, _, k + 1, h, hk => by
    have := up_next (c := y :: c) (k := k) h.2.2.2.2 (by simpa using hk)
    simpa using this
theorem up_most : ∀ {c : List Tm} {lo : Nat}, Up lo c → ∀ a ∈ c, a.1 ≤ (c.getD (c.length - 1) ztm).1
  | [], _, _, a, ha => by simp at ha
  | [x], _, _, a, ha => by simp only [List.mem_singleton] at ha; subst ha; simp
  | x :: y :: c, lo, h, a, ha => by
    have ih := up_most h.2.2.2.2
    have e : (x :: y :: c).getD ((x :: y :: c).length - 1) ztm = (y :: c).getD ((y :: c).length - 1) ztm := by simp
    rw [e]
    rw [List.mem_cons] at ha
    rcases ha with rfl | ha
    · have h1 := ih y (by simp)
      have h2 := h.2.2.2.2.1
      omega
    · exact ih a ha
theorem tm_take_snoc (c : List Tm) (k : Nat) (h : k < c.length) : c.take (k + 1) = c.take k ++ [c.getD k ztm] := by
  rw [List.take_succ_eq_append_getElem h]
  simp [List.getD, List.getElem?_eq_getElem h]
theorem tm_mem {c : List Tm} {k : Nat} (h : k < c.length) : c.getD k ztm ∈ c := by
  rw [List.getD, List.getElem?_eq_getElem h]
  exact List.getElem_mem _
theorem up_take_succ {c : List Tm} {k : Nat} (h : k < c.length) (hc : Up 0 (c.take k)) (h1 : (c.getD k ztm).1 < 8) (h2 : (c.getD k ztm).2 ≠ []) (h3 : mayB (c.getD k ztm).2 = true)
    (h4 : k = 0 ∨ (c.getD (k - 1) ztm).1 < (c.getD k ztm).1) : Up 0 (c.take (k + 1)) := by
  rw [tm_take_snoc c k h]
  refine up_snoc hc (fun a ha => ?_) (Nat.zero_le _) h1 h2 h3
  rcases h4 with rfl | h4
  · simp at ha
  · have h5 := up_most hc a ha
    have hk : 0 < k := by
      cases k with
      | zero => simp at ha
      | succ k => omega
    rw [List.length_take, Nat.min_eq_left (by omega)] at h5
    have e : (c.take k).getD (k - 1) ztm = c.getD (k - 1) ztm := by
      simp [List.getD, show k - 1 < k by omega]
    rw [e] at h5
    omega
theorem spn_hit : ∀ {c : List Tm} {k r : Nat}, (∀ j, j < k → (c.getD j ztm).1 ≠ r) → k < c.length → (c.getD k ztm).1 = r → spn c r = (c.getD k ztm).2
  | [], k, _, _, h, _ => by simp at h
  | x :: c, 0, r, _, _, h => by
    unfold spn
    rw [if_pos (by simpa using h)]
    simp
  | x :: c, k + 1, r, hn, hk, h => by
    unfold spn
    have h0 := hn 0 (by omega)
    rw [if_neg (by simpa using h0)]
    have := spn_hit (c := c) (k := k) (r := r) (fun j hj => by have := hn (j + 1) (by omega); simpa using this) (by simpa using hk) (by simpa using h)
    simpa using this
theorem spn_miss : ∀ {c : List Tm} {r : Nat}, (∀ j, j < c.length → (c.getD j ztm).1 ≠ r) → spn c r = []
  | [], _, _ => rfl
  | x :: c, r, h => by
    unfold spn
    have h0 := h 0 (by simp)
    rw [if_neg (by simpa using h0)]
    exact spn_miss fun j hj => by have := h (j + 1) (by simpa using hj); simpa using this
theorem manyC_snoc (c : List Tm) (x : Tm) : manyC (c ++ [x]) = manyC c + many x.2 := by
  induction c with
  | nil => simp [manyC]
  | cons y c ih => simp only [List.cons_append, manyC, ih]; omega
theorem clkFrom_snoc (g : Nat → List Sp) : ∀ (k lo : Nat), clkFrom g lo (k + 1) = clkFrom g lo k ++ (if g (lo + k) = [] then [] else [(lo + k, g (lo + k))])
  | 0, lo => by
    simp only [clkFrom, Nat.add_zero, List.nil_append]
  | k + 1, lo => by
    have ih := clkFrom_snoc g k (lo + 1)
    rw [show lo + (k + 1) = lo + 1 + k by omega]
    show (if g lo = [] then clkFrom g (lo + 1) (k + 1) else (lo, g lo) :: clkFrom g (lo + 1) (k + 1)) = (if g lo = [] then clkFrom g (lo + 1) k else (lo, g lo) :: clkFrom g (lo + 1) k) ++ _
    rw [ih]
    by_cases q : g lo = []
    · rw [if_pos q, if_pos q]
    · rw [if_neg q, if_neg q, List.cons_append]
theorem clkFrom_len (g : Nat → List Sp) : ∀ (k lo : Nat), (clkFrom g lo k).length ≤ k
  | 0, _ => Nat.le_refl _
  | k + 1, lo => by
    have := clkFrom_len g k (lo + 1)
    unfold clkFrom
    split
    · omega
    · simp; omega

/-- The clock of a stamp. -/
def one (a : Id) : List Tm := [(a.r, [mk a.t a.t])]
/-- Two together, one without another one. -/
def bothC (a b : List Tm) : List Tm := clk fun r => both (spn a r) (spn b r)
def leftC (a b : List Tm) : List Tm := clk fun r => left (spn a r) (spn b r)
/-- No replica has too many spans. -/
def Few (a b : List Tm) : Prop := ∀ r, (spn a r).length + (spn b r).length ≤ 1024
theorem few_may {a b : List Tm} (ha : Cok a) (hb : Cok b) (h : Few a b) (r : Nat) : mayB (both (spn a r) (spn b r)) = true := by
  have h1 := (mayB_iff _).1 (spn_may ha r)
  have h2 := (mayB_iff _).1 (spn_may hb r)
  exact (mayB_iff _).2 ⟨(both_ok h1.1 h2.1.all).1, Nat.le_trans (both_len _ _) (h r)⟩
theorem few_may_left {a b : List Tm} (ha : Cok a) (hb : Cok b) (h : Few a b) (r : Nat) : mayB (left (spn a r) (spn b r)) = true := by
  have h1 := (mayB_iff _).1 (spn_may ha r)
  have h2 := (mayB_iff _).1 (spn_may hb r)
  exact (mayB_iff _).2 ⟨(left_ok h1.1 h2.1.all).1, Nat.le_trans (left_len h1.1 h2.1.all) (h r)⟩
theorem bothC_ok {a b : List Tm} (ha : Cok a) (hb : Cok b) (h : Few a b) : Cok (bothC a b) := clk_ok (few_may ha hb h)
theorem leftC_ok {a b : List Tm} (ha : Cok a) (hb : Cok b) (h : Few a b) : Cok (leftC a b) := clk_ok (few_may_left ha hb h)
theorem spn_bothC {a b : List Tm} (ha : Cok a) (hb : Cok b) (r : Nat) : spn (bothC a b) r = both (spn a r) (spn b r) := by
  unfold bothC
  rw [spn_clk]
  split
  · rfl
  · rw [spn_high ha (by omega), spn_high hb (by omega)]; rfl
theorem spn_leftC {a b : List Tm} (ha : Cok a) (hb : Cok b) (r : Nat) : spn (leftC a b) r = left (spn a r) (spn b r) := by
  unfold leftC
  rw [spn_clk]
  split
  · rfl
  · rw [spn_high ha (by omega), spn_high hb (by omega)]; rfl
/-- May a stamp be? -/
def mayI (a : Id) : Prop := 1 ≤ a.t ∧ a.t ≤ 1073741824 ∧ a.r < 8
instance (a : Id) : Decidable (mayI a) := inferInstanceAs (Decidable (_ ∧ _))
theorem one_sp {a : Id} (h : mayI a) : Ok (mk a.t a.t) := by
  have := a.ht
  unfold mayI at h
  unfold Ok
  rw [mk_f this, mk_t this]
  omega
theorem one_ok {a : Id} (h : mayI a) : Cok (one a) :=
  ⟨Nat.zero_le _, h.2.2, by simp, (mayB_iff _).2 ⟨one_sp h, by simp⟩, trivial⟩
theorem spn_one (a : Id) (r : Nat) : spn (one a) r = if a.r = r then [mk a.t a.t] else [] := by
  unfold one spn
  rfl
theorem spn_one_len (a : Id) (r : Nat) : (spn (one a) r).length ≤ 1 := by
  rw [spn_one]; split <;> simp

/-- The clock of some stamps. -/
def among : List Id → List Tm
  | l => l.foldl (fun c a => bothC c (one a)) []
theorem among_snoc (l : List Id) (a : Id) : among (l ++ [a]) = bothC (among l) (one a) := by unfold among; rw [List.foldl_append]; rfl
theorem list_snoc_ind {α : Type} {P : List α → Prop} (h0 : P []) (h1 : ∀ l a, P l → P (l ++ [a])) (l : List α) : P l := by
  have go : ∀ (n : Nat) (l : List α), l.length = n → P l := by
    intro n
    induction n with
    | zero => intro l h; rw [List.length_eq_zero_iff.1 h]; exact h0
    | succ n ih =>
      intro l h
      rcases List.eq_nil_or_concat l with rfl | ⟨m, x, rfl⟩
      · simp at h
      · rw [List.concat_eq_append] at h ⊢
        exact h1 m x (ih m (by simpa using h))
  exact go l.length l rfl
theorem among_ok (l : List Id) : (∀ a ∈ l, mayI a) → l.length ≤ 1024 → Cok (among l) ∧ (∀ r, (spn (among l) r).length ≤ l.length) ∧
    ∀ r n, In (spn (among l) r) n ↔ ∃ a ∈ l, a.r = r ∧ a.t = n := by
  refine list_snoc_ind (P := fun l => (∀ a ∈ l, mayI a) → l.length ≤ 1024 → Cok (among l) ∧ (∀ r, (spn (among l) r).length ≤ l.length) ∧ ∀ r n, In (spn (among l) r) n ↔ ∃ a ∈ l, a.r = r ∧ a.t = n) ?_ ?_ l
  · intro _ _
    refine ⟨trivial, fun r => Nat.zero_le _, fun r n => ?_⟩
    show In [] n ↔ _
    constructor
    · exact fun h => absurd h (in_nil n)
    · rintro ⟨a, ha, _⟩; simp at ha
  · intro l x ih hm hl
    rw [List.length_append, List.length_singleton] at hl
    obtain ⟨i1, i2, i3⟩ := ih (fun a ha => hm a (by simp [ha])) (by omega)
    have hx := hm x (by simp)
    have ho := one_ok hx
    have hfew : Few (among l) (one x) := fun r => by have := i2 r; have := spn_one_len x r; omega
    rw [among_snoc]
    refine ⟨bothC_ok i1 ho hfew, fun r => ?_, fun r n => ?_⟩
    · rw [spn_bothC i1 ho]
      have h1 := both_len (spn (one x) r) (spn (among l) r)
      have h2 := spn_one_len x r
      have h3 := i2 r
      rw [List.length_append, List.length_singleton]
      omega
    · have h1 := (mayB_iff _).1 (spn_may i1 r)
      have h2 := (mayB_iff _).1 (spn_may ho r)
      rw [spn_bothC i1 ho, (both_ok h1.1 h2.1.all).2 n, i3, spn_one]
      have hxt := x.ht
      constructor
      · rintro (⟨a, h3, h4⟩ | h3)
        · exact ⟨a, by simp [h3], h4⟩
        · by_cases q : x.r = r
          · rw [if_pos q, in_cons, mk_f hxt, mk_t hxt] at h3
            rcases h3 with h3 | h3
            · exact ⟨x, by simp, q, by omega⟩
            · exact absurd h3 (in_nil n)
          · rw [if_neg q] at h3; exact absurd h3 (in_nil n)
      · rintro ⟨a, h3, h4, h5⟩
        rw [List.mem_append, List.mem_singleton] at h3
        rcases h3 with h3 | rfl
        · exact .inl ⟨a, h3, h4, h5⟩
        · right
          rw [if_pos h4, in_cons, mk_f hxt, mk_t hxt]
          left; omega

/-! ### No more than both -/
theorem manyC_one (a : Id) : manyC (one a) = 1 := by
  simp [one, manyC, many, mk_f a.ht, mk_t a.ht]
/-! ### The stamps of a clock -/
theorem spn_cons (x : Tm) (c : List Tm) (r : Nat) : spn (x :: c) r = if x.1 = r then x.2 else spn c r := rfl
/-- Two clocks with the same stamps are the same. -/
theorem cok_ext {c d : List Tm} (hc : Cok c) (hd : Cok d) (h : ∀ r n, In (spn c r) n ↔ In (spn d r) n) : c = d :=
  up_ext hc hd fun r => uniq ((mayB_iff _).1 (spn_may hc r)).1 ((mayB_iff _).1 (spn_may hd r)).1 (h r)
end Go.Proofs.Ytocjkegkgnbboaa.Clocks

/- What clocks' calls answer, as plain functions; what follows. Conditions: none. -/
namespace Go.Proofs.Ytocjkegkgnbboaa.Clocks
open Go.Proofs.Ytocjkegkgnbboaa.Spans

def chkC (c : List Tm) : Int := if mayC c = true then 0 else 8
def hasC (c : List Tm) (a : Id) : Bool := mayC c && inB (spn c a.r) a.t
def countC (c : List Tm) : Nat := if mayC c = true then manyC c else 0
def allMay (l : List Id) : Bool := l.all fun a => decide (mayI a)
theorem allMay_iff (l : List Id) : allMay l = true ↔ ∀ a ∈ l, mayI a := by simp [allMay]
def ofC (l : List Id) : List Tm × Int := if 1024 < l.length then ([], 4) else if allMay l = true then (among l, 0) else ([], 8)
/-- How many spans in all. -/
def tot : List Tm → Nat
  | [] => 0
  | x :: c => x.2.length + tot c
theorem tot_snoc (c : List Tm) (x : Tm) : tot (c ++ [x]) = tot c + x.2.length := by
  induction c with
  | nil => simp [tot]
  | cons y c ih => simp only [List.cons_append, tot, ih]; omega
theorem hasC_may {c : List Tm} (h : mayC c = true) (a : Id) : hasC c a = inB (spn c a.r) a.t := by unfold hasC; rw [h]; rfl
/-! ### Joining -/
theorem sp_fine {c : List Tm} (h : Cok c) (r : Nat) : Fine (spn c r) := ((mayB_iff _).1 (spn_may h r)).1
theorem many_parts {x y : List Sp} (hx : Fine x) (hy : Fine y) : many (both x y) = many (left x y) + many y := by
  have h1 := left_ok hx hy.all
  have h3 := both_ok hx hy.all
  refine many_join h1.1 hy h3.1 (fun n => ?_) (fun n h => ((h1.2 n).1 h.1).2 h.2)
  rw [h3.2 n, h1.2 n]
  constructor
  · rintro (h | h)
    · by_cases q : In y n
      · exact .inr q
      · exact .inl ⟨h, q⟩
    · exact .inr h
  · rintro (h | h)
    · exact .inl h.1
    · exact .inr h
theorem manyC_parts {a b : List Tm} (ha : Cok a) (hb : Cok b) : manyC (bothC a b) = manyC (leftC a b) + manyC b := by
  have h := manyC_add (g := fun r => both (spn a r) (spn b r)) (p := fun r => left (spn a r) (spn b r)) (q := spn b) (fun r => many_parts (sp_fine ha r) (sp_fine hb r))
  rw [clk_spn hb] at h
  exact h
theorem manyC_le : ∀ {c : List Tm} {lo : Nat}, Up lo c → manyC c ≤ 1073741825 * (8 - lo)
  | [], _, _ => Nat.zero_le _
  | x :: c, lo, h => by
    have h1 := manyC_le h.2.2.2.2
    have hok := ((mayB_iff _).1 h.2.2.2.1).1
    have h2 : many x.2 ≤ 1073741825 := by
      rw [many_cnt hok]
      have : ∀ (p : Nat → Bool) n, cnt p n ≤ n := by
        intro p n
        induction n with
        | zero => exact Nat.le_refl _
        | succ n ih => unfold cnt; split <;> omega
      exact this _ _
    have h3 := h.1
    have h4 := h.2.1
    unfold manyC
    have : 1073741825 * (8 - (x.1 + 1)) + 1073741825 ≤ 1073741825 * (8 - lo) := by omega
    omega
end Go.Proofs.Ytocjkegkgnbboaa.Clocks

/- Bags in plain words: which may be, one more in its place, two together, without stamps. Conditions: none. -/
namespace Go.Proofs.Ytocjkegkgnbboaa.Bags
open Ops Stamp

def idO (o : Opn) : Id := ⟨o.t, o.r, o.ht, o.hr⟩
theorem idO_eq {a b : Opn} : idO a = idO b ↔ a.t = b.t ∧ a.r = b.r := by rw [Id.eq_iff]; rfl
/-- Is one's stamp less? -/
def lessO (a b : Opn) : Prop := a.t < b.t ∨ a.t = b.t ∧ a.r < b.r
instance (a b : Opn) : Decidable (lessO a b) := inferInstanceAs (Decidable (_ ∨ _))
theorem lessO_trans {a b c : Opn} (h : lessO a b) (k : lessO b c) : lessO a c := by unfold lessO at *; omega
theorem lessO_irrefl (a : Opn) : ¬ lessO a a := by unfold lessO; omega
theorem lessO_asymm {a b : Opn} (h : lessO a b) : ¬ lessO b a := by unfold lessO at *; omega
theorem lessO_ne {a b : Opn} (h : lessO a b) : idO a ≠ idO b := by rw [Ne, idO_eq]; unfold lessO at h; omega
theorem lessO_three (a b : Opn) : lessO a b ∨ idO a = idO b ∨ lessO b a := by rw [idO_eq]; unfold lessO; omega
theorem lessO_id' {a b c : Opn} (h : idO b = idO c) : lessO b a ↔ lessO c a := by rw [idO_eq] at h; unfold lessO; omega

theorem pw_adj : ∀ {l : List Opn}, (∀ k (h : k + 1 < l.length), lessO (l[k]'(by omega)) (l[k + 1]'h)) → l.Pairwise lessO
  | [], _ => .nil
  | [a], _ => List.pairwise_singleton _ _
  | a :: b :: l, h => by
    have ih := pw_adj (l := b :: l) (fun k hk => h (k + 1) (by simpa using hk))
    refine List.Pairwise.cons (fun x hx => ?_) ih
    have h0 : lessO a b := by simpa using h 0 (by simp)
    rcases List.mem_cons.1 hx with rfl | hx
    · exact h0
    · exact lessO_trans h0 ((List.pairwise_cons.1 ih).1 x hx)
/-- A bag that may be. -/
def Bag (l : List Opn) : Prop := l.length ≤ 1024 ∧ (∀ o ∈ l, mayO o = true) ∧ l.Pairwise lessO
instance (l : List Opn) : Decidable (Bag l) := inferInstanceAs (Decidable (_ ∧ _))
def bagB (l : List Opn) : Bool := decide (Bag l)
theorem bagB_iff (l : List Opn) : bagB l = true ↔ Bag l := by simp [bagB]
theorem bagB_no {l : List Opn} (h : ¬ Bag l) : bagB l = false := by simp [bagB, h]
def chkL (l : List Opn) : Int := if bagB l = true then 0 else 8
theorem bag_nil : Bag [] := ⟨by simp, by simp, .nil⟩
/-- Each member by its stamp is one. -/
theorem pw_one : ∀ {l : List Opn}, l.Pairwise lessO → ∀ {a b : Opn}, a ∈ l → b ∈ l → idO a = idO b → a = b
  | [], _, _, _, h, _, _ => by simp at h
  | x :: l, hp, a, b, ha, hb, e => by
    have hp' := List.pairwise_cons.1 hp
    rcases List.mem_cons.1 ha with rfl | ha2
    · rcases List.mem_cons.1 hb with rfl | hb2
      · rfl
      · exact absurd e (lessO_ne (hp'.1 _ hb2))
    · rcases List.mem_cons.1 hb with rfl | hb2
      · exact absurd e.symm (lessO_ne (hp'.1 _ ha2))
      · exact pw_one hp'.2 ha2 hb2 e
/-- A bag is known by what it has. -/
theorem pw_ext : ∀ {l m : List Opn}, l.Pairwise lessO → m.Pairwise lessO → (∀ x, x ∈ l ↔ x ∈ m) → l = m
  | [], [], _, _, _ => rfl
  | [], y :: m, _, _, h => by have := (h y).2 (by simp); simp at this
  | x :: l, [], _, _, h => by have := (h x).1 (by simp); simp at this
  | x :: l, y :: m, hl, hm, h => by
    have hl' := List.pairwise_cons.1 hl
    have hm' := List.pairwise_cons.1 hm
    have e : x = y := by
      rcases List.mem_cons.1 ((h x).1 (by simp)) with e | hx
      · exact e
      · rcases List.mem_cons.1 ((h y).2 (by simp)) with e | hy
        · exact e.symm
        · exact absurd (hm'.1 x hx) (lessO_asymm (hl'.1 y hy))
    subst e
    rw [pw_ext hl'.2 hm'.2 (fun z => by
      constructor
      · intro hz
        rcases List.mem_cons.1 ((h z).1 (by simp [hz])) with rfl | hz'
        · exact absurd (hl'.1 z hz) (lessO_irrefl z)
        · exact hz'
      · intro hz
        rcases List.mem_cons.1 ((h z).2 (by simp [hz])) with rfl | hz'
        · exact absurd (hm'.1 z hz) (lessO_irrefl z)
        · exact hz')]

/-! ### One by its stamp -/
def findO : List Opn → Id → Option Opn
  | [], _ => none
  | x :: l, a => if idO x = a then some x else findO l a
theorem findO_some : ∀ {l : List Opn} {a : Id} {o : Opn}, findO l a = some o → o ∈ l ∧ idO o = a
  | [], _, _, h => by simp [findO] at h
  | x :: l, a, o, h => by
    unfold findO at h
    by_cases e : idO x = a
    · rw [if_pos e] at h
      cases h
      exact ⟨by simp, e⟩
    · rw [if_neg e] at h
      obtain ⟨h1, h2⟩ := findO_some h
      exact ⟨by simp [h1], h2⟩
theorem findO_none : ∀ {l : List Opn} {a : Id}, findO l a = none ↔ ∀ o ∈ l, idO o ≠ a
  | [], _ => by simp [findO]
  | x :: l, a => by
    unfold findO
    by_cases e : idO x = a
    · rw [if_pos e]; simp [e]
    · rw [if_neg e, findO_none]; simp [e]
theorem findO_mem {l : List Opn} (hp : l.Pairwise lessO) {o : Opn} (h : o ∈ l) : findO l (idO o) = some o := by
  cases hf : findO l (idO o) with
  | none => exact absurd rfl (findO_none.1 hf o h)
  | some x => rw [pw_one hp (findO_some hf).1 h (findO_some hf).2]
theorem findO_at : ∀ {l : List Opn} {a : Id} (k : Nat) (hk : k < l.length), (∀ j (h : j < l.length), j < k → idO (l[j]'h) ≠ a) → idO (l[k]'hk) = a → findO l a = some (l[k]'hk)
  | x :: l, a, 0, _, _, e => by
    unfold findO
    rw [if_pos (show idO x = a from e)]
    rfl
  | x :: l, a, k + 1, hk, hn, e => by
    unfold findO
    rw [if_neg (show ¬ idO x = a from hn 0 (by simp) (by omega))]
    have := findO_at (l := l) (a := a) k (by simpa using hk) (fun j h hj => hn (j + 1) (by simpa using h) (by omega)) e
    exact this
def hasO (l : List Opn) (a : Id) : Bool := (findO l a).isSome
theorem hasO_iff {l : List Opn} {a : Id} : hasO l a = true ↔ ∃ o ∈ l, idO o = a := by
  unfold hasO
  cases h : findO l a with
  | none => simp; exact fun o ho => findO_none.1 h o ho
  | some x => simp; exact ⟨x, findO_some h⟩
theorem hasO_no {l : List Opn} {a : Id} : hasO l a = false ↔ ∀ o ∈ l, idO o ≠ a := by
  rw [← findO_none]; unfold hasO; cases findO l a <;> simp

/-! ### One more -/
def withO (l : List Opn) (o : Opn) : List Opn := if hasO l (idO o) = true then l else l.filter (fun x => decide (lessO x o)) ++ o :: l.filter (fun x => decide (lessO o x))
theorem mem_withO {l : List Opn} {o x : Opn} : x ∈ withO l o ↔ x ∈ l ∨ x = o ∧ hasO l (idO o) = false := by
  unfold withO
  by_cases h : hasO l (idO o) = true
  · rw [if_pos h]; simp [h]
  · rw [if_neg h]
    have h' : hasO l (idO o) = false := by simpa using h
    simp only [List.mem_append, List.mem_cons, List.mem_filter, decide_eq_true_eq, h', and_true]
    constructor
    · rintro (h1 | rfl | h1)
      · exact .inl h1.1
      · exact .inr rfl
      · exact .inl h1.1
    · rintro (h1 | rfl)
      · rcases lessO_three x o with h2 | h2 | h2
        · exact .inl ⟨h1, h2⟩
        · exact absurd h2 (hasO_no.1 h' x h1)
        · exact .inr (.inr ⟨h1, h2⟩)
      · exact .inr (.inl rfl)
theorem pw_withO {l : List Opn} {o : Opn} (hp : l.Pairwise lessO) : (withO l o).Pairwise lessO := by
  unfold withO
  by_cases h : hasO l (idO o) = true
  · rw [if_pos h]; exact hp
  · rw [if_neg h, List.pairwise_append]
    refine ⟨hp.filter _, List.Pairwise.cons (fun x hx => by simpa using (List.mem_filter.1 hx).2) (hp.filter _), fun a ha b hb => ?_⟩
    have ha2 : lessO a o := by simpa using (List.mem_filter.1 ha).2
    rcases List.mem_cons.1 hb with rfl | hb
    · exact ha2
    · exact lessO_trans ha2 (by simpa using (List.mem_filter.1 hb).2)
theorem filter_parts {l : List Opn} {o : Opn} (h : ∀ x ∈ l, idO x ≠ idO o) : (l.filter (fun x => decide (lessO x o))).length + (l.filter (fun x => decide (lessO o x))).length = l.length := by
  induction l with
  | nil => rfl
  | cons x l ih =>
    have ih' := ih (fun y hy => h y (by simp [hy]))
    have hx := h x (by simp)
    rcases lessO_three x o with h1 | h1 | h1
    · have h2 := lessO_asymm h1
      simp only [List.filter_cons, h1, h2, decide_true, decide_false, if_true, Bool.false_eq_true, if_false, List.length_cons]
      omega
    · exact absurd h1 hx
    · have h2 := lessO_asymm h1
      simp only [List.filter_cons, h1, h2, decide_true, decide_false, if_true, Bool.false_eq_true, if_false, List.length_cons]
      omega
theorem withO_len (l : List Opn) (o : Opn) : (withO l o).length = if hasO l (idO o) = true then l.length else l.length + 1 := by
  unfold withO
  by_cases h : hasO l (idO o) = true
  · rw [if_pos h, if_pos h]
  · rw [if_neg h, if_neg h]
    have := filter_parts (hasO_no.1 (by simpa using h))
    rw [List.length_append, List.length_cons]
    omega
theorem withO_le (l : List Opn) (o : Opn) : l.length ≤ (withO l o).length ∧ (withO l o).length ≤ l.length + 1 := by rw [withO_len]; split <;> omega
theorem bag_withO {l : List Opn} {o : Opn} (hb : Bag l) (ho : mayO o = true) (hl : (withO l o).length ≤ 1024) : Bag (withO l o) :=
  ⟨hl, fun x hx => by rcases mem_withO.1 hx with h | ⟨rfl, _⟩; exact hb.2.1 x h; exact ho, pw_withO hb.2.2⟩
/-- What Add answers. -/
def addE (l : List Opn) (o : Opn) : Int := if ¬ (bagB l = true ∧ mayO o = true) then 8 else if 1024 < (withO l o).length then 9 else 0
def addL (l : List Opn) (o : Opn) : List Opn := if addE l o = 0 then withO l o else []
theorem addE_cases (l : List Opn) (o : Opn) : (addE l o = 8 ∧ ¬ (Bag l ∧ mayO o = true)) ∨ (addE l o = 9 ∧ Bag l ∧ mayO o = true ∧ 1024 < (withO l o).length) ∨ (addE l o = 0 ∧ Bag l ∧ mayO o = true ∧ (withO l o).length ≤ 1024) := by
  unfold addE
  by_cases h : Bag l ∧ mayO o = true
  · rw [if_neg (by rw [bagB_iff]; exact fun hn => hn h)]
    by_cases h2 : 1024 < (withO l o).length
    · rw [if_pos h2]; exact .inr (.inl ⟨rfl, h.1, h.2, h2⟩)
    · rw [if_neg h2]; exact .inr (.inr ⟨rfl, h.1, h.2, by omega⟩)
  · rw [if_pos (by rw [bagB_iff]; exact h)]; exact .inl ⟨rfl, h⟩
theorem addL_bag {l : List Opn} {o : Opn} (h : addE l o = 0) : addL l o = withO l o ∧ Bag (addL l o) := by
  have e : addL l o = withO l o := by unfold addL; rw [if_pos h]
  rcases addE_cases l o with ⟨h1, _⟩ | ⟨h1, _⟩ | ⟨_, h2, h3, h4⟩
  · rw [h] at h1; cases h1
  · rw [h] at h1; cases h1
  · rw [e]; exact ⟨rfl, bag_withO h2 h3 h4⟩

/-! ### Two together -/
def bothO (a b : List Opn) : List Opn := b.foldl withO a
theorem bothO_snoc (a b : List Opn) (x : Opn) : bothO a (b ++ [x]) = withO (bothO a b) x := by unfold bothO; rw [List.foldl_append]; rfl
theorem pw_bothO : ∀ {b a : List Opn}, a.Pairwise lessO → (bothO a b).Pairwise lessO
  | [], _, h => h
  | _ :: b, _, h => pw_bothO (b := b) (pw_withO h)
theorem bothO_le : ∀ (b a : List Opn), a.length ≤ (bothO a b).length ∧ (bothO a b).length ≤ a.length + b.length
  | [], a => by simp [bothO]
  | x :: b, a => by
    have h1 := withO_le a x
    have h2 := bothO_le b (withO a x)
    have e : bothO a (x :: b) = bothO (withO a x) b := rfl
    rw [e, List.length_cons]
    omega
theorem mem_bothO : ∀ {b a : List Opn}, a.Pairwise lessO → b.Pairwise lessO → ∀ {x : Opn}, x ∈ bothO a b ↔ x ∈ a ∨ x ∈ b ∧ hasO a (idO x) = false
  | [], a, _, _, x => by simp [bothO]
  | y :: b, a, ha, hb, x => by
    have hb' := List.pairwise_cons.1 hb
    have e : bothO a (y :: b) = bothO (withO a y) b := rfl
    rw [e, mem_bothO (pw_withO ha) hb'.2, mem_withO]
    constructor
    · rintro ((h | ⟨rfl, h⟩) | ⟨h1, h2⟩)
      · exact .inl h
      · exact .inr ⟨by simp, h⟩
      · refine .inr ⟨by simp [h1], ?_⟩
        rw [hasO_no] at h2 ⊢
        exact fun o ho => h2 o (mem_withO.2 (.inl ho))
    · rintro (h | ⟨h1, h2⟩)
      · exact .inl (.inl h)
      · rcases List.mem_cons.1 h1 with rfl | h3
        · exact .inl (.inr ⟨rfl, h2⟩)
        · refine .inr ⟨h3, ?_⟩
          have h4 := hb'.1 x h3
          rw [hasO_no] at h2 ⊢
          intro o ho
          rcases mem_withO.1 ho with ho2 | ⟨e2, _⟩
          · exact h2 o ho2
          · rw [e2]; exact lessO_ne h4
def joinE (a b : List Opn) : Int := if ¬ (bagB a = true ∧ bagB b = true) then 8 else if 1024 < (bothO a b).length then 9 else 0
def joinO (a b : List Opn) : List Opn := if joinE a b = 0 then bothO a b else []
theorem joinE_cases (a b : List Opn) : (joinE a b = 8 ∧ ¬ (Bag a ∧ Bag b)) ∨ (joinE a b = 9 ∧ Bag a ∧ Bag b ∧ 1024 < (bothO a b).length) ∨ (joinE a b = 0 ∧ Bag a ∧ Bag b ∧ (bothO a b).length ≤ 1024) := by
  unfold joinE
  by_cases h : Bag a ∧ Bag b
  · rw [if_neg (by rw [bagB_iff, bagB_iff]; exact fun hn => hn h)]
    by_cases h2 : 1024 < (bothO a b).length
    · rw [if_pos h2]; exact .inr (.inl ⟨rfl, h.1, h.2, h2⟩)
    · rw [if_neg h2]; exact .inr (.inr ⟨rfl, h.1, h.2, by omega⟩)
  · rw [if_pos (by rw [bagB_iff, bagB_iff]; exact h)]; exact .inl ⟨rfl, h⟩
theorem bag_bothO {a b : List Opn} (ha : Bag a) (hb : Bag b) (hl : (bothO a b).length ≤ 1024) : Bag (bothO a b) :=
  ⟨hl, fun x hx => by rcases (mem_bothO ha.2.2 hb.2.2).1 hx with h | ⟨h, _⟩; exact ha.2.1 x h; exact hb.2.1 x h, pw_bothO ha.2.2⟩

/-! ### Without stamps, and the stamps -/
def inC (c : List Clocks.Tm) (a : Id) : Bool := Spans.inB (Clocks.spn c a.r) a.t
def leftO (l : List Opn) (c : List Clocks.Tm) : List Opn := l.filter (fun o => !inC c (idO o))
theorem bag_leftO {l : List Opn} (c : List Clocks.Tm) (h : Bag l) : Bag (leftO l c) :=
  ⟨Nat.le_trans (List.length_filter_le _ _) h.1, fun o ho => h.2.1 o (List.mem_filter.1 ho).1, h.2.2.filter _⟩
def lessE (l : List Opn) (c : List Clocks.Tm) : Int := if bagB l = true ∧ Clocks.mayC c = true then 0 else 8
def lessL (l : List Opn) (c : List Clocks.Tm) : List Opn := if bagB l = true ∧ Clocks.mayC c = true then leftO l c else []
def stampsO (l : List Opn) : List Id := l.map idO
def idsC (l : List Opn) : List Clocks.Tm := if bagB l = true then Clocks.among (stampsO l) else []
theorem mayO_id {o : Opn} (h : mayO o = true) : Clocks.mayI (idO o) := may_iff.1 (mayO_parts h).1
end Go.Proofs.Ytocjkegkgnbboaa.Bags
