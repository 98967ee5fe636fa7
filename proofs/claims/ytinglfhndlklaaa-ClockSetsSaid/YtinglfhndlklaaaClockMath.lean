/- Clocks as lists of a replica and its spans, in Lean alone: one way of writing, joins, what is left, how many, up to when. -/
import Derived.Test.YtinglfhndlklaaaSpanMath2
namespace Go.Proofs.Ytinglfhndlklaaa.Clocks
open Go.Proofs.Ytinglfhndlklaaa.Spans

/-- A replica and its spans. -/
abbrev Tm := Nat × List Sp

/-- Replicas from lo on, ascending, each with spans that may be. -/
def Up : Nat → List Tm → Prop
  | _, [] => True
  | lo, x :: c => lo ≤ x.1 ∧ x.1 < 8 ∧ x.2 ≠ [] ∧ mayB x.2 = true ∧ Up (x.1 + 1) c
/-- May the clock be? -/
def Cok (c : List Tm) : Prop := Up 0 c
/-- A replica's spans. -/
def spn : List Tm → Nat → List Sp
  | [], _ => []
  | x :: c, r => if x.1 = r then x.2 else spn c r
theorem may_nil : mayB [] = true := rfl

theorem up_mono {c : List Tm} {lo lo' : Nat} (h : Up lo c) (hl : lo' ≤ lo) : Up lo' c := by
  cases c with
  | nil => trivial
  | cons x c => exact ⟨Nat.le_trans hl h.1, h.2⟩
theorem spn_low : ∀ {c : List Tm} {lo r : Nat}, Up lo c → r < lo → spn c r = []
  | [], _, _, _, _ => rfl
  | x :: c, lo, r, h, hr => by
    unfold spn
    rw [if_neg (by have := h.1; omega)]
    exact spn_low h.2.2.2.2 (by have := h.1; omega)
theorem spn_high : ∀ {c : List Tm} {lo r : Nat}, Up lo c → 8 ≤ r → spn c r = []
  | [], _, _, _, _ => rfl
  | x :: c, lo, r, h, hr => by
    unfold spn
    rw [if_neg (by have := h.2.1; omega)]
    exact spn_high h.2.2.2.2 hr
theorem spn_may : ∀ {c : List Tm} {lo : Nat}, Up lo c → ∀ r, mayB (spn c r) = true
  | [], _, _, _ => rfl
  | x :: c, lo, h, r => by
    unfold spn
    split
    · exact h.2.2.2.1
    · exact spn_may h.2.2.2.2 r
/-- A clock is written in one way alone. -/
theorem up_ext : ∀ {c d : List Tm} {lo : Nat}, Up lo c → Up lo d → (∀ r, spn c r = spn d r) → c = d
  | [], [], _, _, _, _ => rfl
  | [], y :: d, _, _, hd, h => by
    have := h y.1
    unfold spn at this
    rw [if_pos rfl] at this
    exact absurd this.symm hd.2.2.1
  | x :: c, [], _, hc, _, h => by
    have := h x.1
    unfold spn at this
    rw [if_pos rfl] at this
    exact absurd this hc.2.2.1
  | x :: c, y :: d, lo, hc, hd, h => by
    have hx : spn (x :: c) x.1 = x.2 := by unfold spn; rw [if_pos rfl]
    have hy : spn (y :: d) y.1 = y.2 := by unfold spn; rw [if_pos rfl]
    have e1 : x.1 = y.1 := by
      rcases Nat.lt_trichotomy x.1 y.1 with q | q | q
      · have : spn (y :: d) x.1 = [] := spn_low (lo := y.1) ⟨Nat.le_refl _, hd.2⟩ q
        rw [← h, hx] at this
        exact absurd this hc.2.2.1
      · exact q
      · have : spn (x :: c) y.1 = [] := spn_low (lo := x.1) ⟨Nat.le_refl _, hc.2⟩ q
        rw [h, hy] at this
        exact absurd this hd.2.2.1
    have e2 : x.2 = y.2 := by rw [← hx, ← hy, h, e1]
    have e3 : c = d := by
      refine up_ext (lo := x.1 + 1) hc.2.2.2.2 (by rw [e1]; exact hd.2.2.2.2) fun r => ?_
      by_cases q : x.1 = r
      · rw [spn_low hc.2.2.2.2 (by omega), spn_low hd.2.2.2.2 (by omega)]
      · have := h r
        unfold spn at this
        rwa [if_neg q, if_neg (by omega)] at this
    rw [e3, Prod.ext e1 e2]

/-- The clock of k replicas' spans, from lo on. -/
def clkFrom (g : Nat → List Sp) : Nat → Nat → List Tm
  | _, 0 => []
  | lo, k + 1 => if g lo = [] then clkFrom g (lo + 1) k else (lo, g lo) :: clkFrom g (lo + 1) k
def clk (g : Nat → List Sp) : List Tm := clkFrom g 0 8
theorem clkFrom_up {g : Nat → List Sp} (hg : ∀ r, mayB (g r) = true) : ∀ (k lo : Nat), lo + k ≤ 8 → Up lo (clkFrom g lo k)
  | 0, _, _ => trivial
  | k + 1, lo, h => by
    unfold clkFrom
    split
    · exact up_mono (clkFrom_up hg k (lo + 1) (by omega)) (Nat.le_succ _)
    · rename_i q
      exact ⟨Nat.le_refl _, by show lo < 8; omega, q, hg lo, clkFrom_up hg k (lo + 1) (by omega)⟩
theorem spn_clkFrom (g : Nat → List Sp) : ∀ (k lo r : Nat), spn (clkFrom g lo k) r = if lo ≤ r ∧ r < lo + k then g r else []
  | 0, lo, r => by rw [if_neg (by omega)]; rfl
  | k + 1, lo, r => by
    have ih := spn_clkFrom g k (lo + 1) r
    unfold clkFrom
    by_cases q : g lo = []
    · rw [if_pos q, ih]
      by_cases e : r = lo
      · subst e
        rw [if_neg (by omega), if_pos (by omega), q]
      · by_cases e2 : lo + 1 ≤ r ∧ r < lo + 1 + k
        · rw [if_pos e2, if_pos (by omega)]
        · rw [if_neg e2, if_neg (by omega)]
    · rw [if_neg q]
      unfold spn
      by_cases e : lo = r
      · subst e
        rw [if_pos rfl, if_pos (by omega)]
      · rw [if_neg e, ih]
        by_cases e2 : lo + 1 ≤ r ∧ r < lo + 1 + k
        · rw [if_pos e2, if_pos (by omega)]
        · rw [if_neg e2, if_neg (by omega)]
theorem clk_ok {g : Nat → List Sp} (hg : ∀ r, mayB (g r) = true) : Cok (clk g) := clkFrom_up hg 8 0 (by omega)
theorem spn_clk (g : Nat → List Sp) (r : Nat) : spn (clk g) r = if r < 8 then g r else [] := by
  unfold clk
  rw [spn_clkFrom]
  by_cases h : r < 8
  · rw [if_pos (by omega), if_pos h]
  · rw [if_neg (by omega), if_neg h]
theorem clk_spn {c : List Tm} (h : Cok c) : clk (spn c) = c := by
  refine up_ext (clk_ok (spn_may h)) h fun r => ?_
  rw [spn_clk]
  split
  · rfl
  · exact (spn_high h (by omega)).symm
theorem clk_congr {g k : Nat → List Sp} (h : ∀ r, r < 8 → g r = k r) : clk g = clk k := by
  have go : ∀ (n lo : Nat), lo + n ≤ 8 → clkFrom g lo n = clkFrom k lo n := by
    intro n
    induction n with
    | zero => intro lo _; rfl
    | succ n ih =>
      intro lo hl
      unfold clkFrom
      rw [h lo (by omega), ih (lo + 1) (by omega)]
  exact go 8 0 (by omega)

/-- How many stamps. -/
def manyC : List Tm → Nat
  | [] => 0
  | x :: c => many x.2 + manyC c
def sumFrom (g : Nat → List Sp) : Nat → Nat → Nat
  | _, 0 => 0
  | lo, k + 1 => many (g lo) + sumFrom g (lo + 1) k
theorem manyC_clkFrom (g : Nat → List Sp) : ∀ (k lo : Nat), manyC (clkFrom g lo k) = sumFrom g lo k
  | 0, _ => rfl
  | k + 1, lo => by
    unfold clkFrom sumFrom
    by_cases q : g lo = []
    · rw [if_pos q, manyC_clkFrom g k, q]; show _ = 0 + _; omega
    · rw [if_neg q]; show many (g lo) + manyC _ = _; rw [manyC_clkFrom g k]
theorem sumFrom_add {g p q : Nat → List Sp} (h : ∀ r, many (g r) = many (p r) + many (q r)) : ∀ (k lo : Nat), sumFrom g lo k = sumFrom p lo k + sumFrom q lo k
  | 0, _ => rfl
  | k + 1, lo => by
    unfold sumFrom
    rw [h, sumFrom_add h k]; omega
theorem manyC_add {g p q : Nat → List Sp} (h : ∀ r, many (g r) = many (p r) + many (q r)) : manyC (clk g) = manyC (clk p) + manyC (clk q) := by
  unfold clk
  rw [manyC_clkFrom, manyC_clkFrom, manyC_clkFrom]
  exact sumFrom_add h 8 0

/-- The greatest time of spans, and of a clock. -/
def top : List Sp → Nat
  | [] => 0
  | x :: l => max x.t (top l)
def topC : List Tm → Nat
  | [] => 0
  | x :: c => max (top x.2) (topC c)
theorem top_in : ∀ {l : List Sp}, (∀ x ∈ l, Ok x) → (∀ n, In l n → n ≤ top l) ∧ (l = [] ∨ In l (top l))
  | [], _ => ⟨fun n h => absurd h (in_nil n), .inl rfl⟩
  | x :: l, h => by
    obtain ⟨h1, h2⟩ := top_in (l := l) fun y hy => h y (List.mem_cons_of_mem _ hy)
    have hx := h x (by simp)
    refine ⟨fun n hn => ?_, .inr ?_⟩
    · rw [in_cons] at hn
      unfold top
      rcases hn with hn | hn
      · omega
      · have := h1 n hn; omega
    · rw [in_cons]
      unfold top
      by_cases q : top l ≤ x.t
      · left; have := hx.2.1; omega
      · right
        rw [show max x.t (top l) = top l by omega]
        rcases h2 with rfl | h2
        · exact absurd (show top [] ≤ x.t from Nat.zero_le _) q
        · exact h2
/-- Spans that hold what two others hold have the greater one's top. -/
theorem top_join {l m j : List Sp} (h1 : ∀ x ∈ l, Ok x) (h2 : ∀ x ∈ m, Ok x) (h3 : ∀ x ∈ j, Ok x) (hj : ∀ n, In j n ↔ In l n ∨ In m n) : top j = max (top l) (top m) := by
  obtain ⟨l1, l2⟩ := top_in h1
  obtain ⟨m1, m2⟩ := top_in h2
  obtain ⟨j1, j2⟩ := top_in h3
  have a : top j ≤ max (top l) (top m) := by
    rcases j2 with rfl | q
    · exact Nat.zero_le _
    · rcases (hj _).1 q with q | q
      · have := l1 _ q; omega
      · have := m1 _ q; omega
  have b : top l ≤ top j := by
    rcases l2 with rfl | q
    · exact Nat.zero_le _
    · exact j1 _ ((hj _).2 (.inl q))
  have c : top m ≤ top j := by
    rcases m2 with rfl | q
    · exact Nat.zero_le _
    · exact j1 _ ((hj _).2 (.inr q))
  omega
def topFrom (g : Nat → List Sp) : Nat → Nat → Nat
  | _, 0 => 0
  | lo, k + 1 => max (top (g lo)) (topFrom g (lo + 1) k)
theorem topC_clkFrom (g : Nat → List Sp) : ∀ (k lo : Nat), topC (clkFrom g lo k) = topFrom g lo k
  | 0, _ => rfl
  | k + 1, lo => by
    unfold clkFrom topFrom
    by_cases q : g lo = []
    · rw [if_pos q, topC_clkFrom g k, q]; show _ = max 0 _; omega
    · rw [if_neg q]; show max (top (g lo)) (topC _) = _; rw [topC_clkFrom g k]
theorem topC_max {g p q : Nat → List Sp} (h : ∀ r, top (g r) = max (top (p r)) (top (q r))) : topC (clk g) = max (topC (clk p)) (topC (clk q)) := by
  unfold clk
  rw [topC_clkFrom, topC_clkFrom, topC_clkFrom]
  have go : ∀ (k lo : Nat), topFrom g lo k = max (topFrom p lo k) (topFrom q lo k) := by
    intro k
    induction k with
    | zero => intro lo; rfl
    | succ k ih => intro lo; unfold topFrom; rw [h, ih]; omega
  exact go 8 0
end Go.Proofs.Ytinglfhndlklaaa.Clocks
