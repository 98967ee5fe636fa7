/- What clocks' calls answer, as plain functions; what follows. Conditions: none. -/
import Derived.Test.YtinglfhndlklaaaClockMath2
namespace Go.Proofs.Ytinglfhndlklaaa.Clocks
open Go.Proofs.Ytinglfhndlklaaa.Spans

def chkC (c : List Tm) : Int := if mayC c = true then 0 else 8
def hasC (c : List Tm) (a : Id) : Bool := mayC c && inB (spn c a.r) a.t
def countC (c : List Tm) : Nat := if mayC c = true then manyC c else 0
def topCC (c : List Tm) : Nat := if mayC c = true then topC c else 0
def joinsC (a b : List Tm) : List Tm × Int := if mayC a = true ∧ mayC b = true then (bothC a b, 0) else ([], 8)
def leftsC (a b : List Tm) : List Tm × Int := if mayC a = true ∧ mayC b = true then (leftC a b, 0) else ([], 8)
def addsC (c : List Tm) (a : Id) : List Tm × Int := if mayC c = true ∧ mayI a then (bothC c (one a), 0) else ([], 8)
def allMay (l : List Id) : Bool := l.all fun a => decide (mayI a)
theorem allMay_iff (l : List Id) : allMay l = true ↔ ∀ a ∈ l, mayI a := by simp [allMay]
def ofC (l : List Id) : List Tm × Int := if 1024 < l.length then ([], 4) else if allMay l = true then (among l, 0) else ([], 8)
def idsCC (c : List Tm) : List Id × Int := if mayC c = true then (if 1024 < manyC c then ([], 4) else (allI c, 0)) else ([], 8)

/-- How many spans in all. -/
def tot : List Tm → Nat
  | [] => 0
  | x :: c => x.2.length + tot c
theorem tot_snoc (c : List Tm) (x : Tm) : tot (c ++ [x]) = tot c + x.2.length := by
  induction c with
  | nil => simp [tot]
  | cons y c ih => simp only [List.cons_append, tot, ih]; omega
theorem tot_take (c : List Tm) : ∀ k, tot (c.take k) ≤ tot c := by
  induction c with
  | nil => intro k; simp [tot]
  | cons x c ih =>
    intro k
    cases k with
    | zero => simp [tot]
    | succ k => have := ih k; simp only [List.take_succ_cons, tot]; omega
theorem spn_tot : ∀ (c : List Tm) (r : Nat), (spn c r).length ≤ tot c
  | [], _ => Nat.le_refl _
  | x :: c, r => by
    have := spn_tot c r
    unfold spn tot
    split <;> omega
theorem few_of {a b : List Tm} (h : tot a + tot b ≤ 1024) : Few a b := fun r => by
  have := spn_tot a r; have := spn_tot b r; omega
theorem one_tot (a : Id) : tot (one a) = 1 := rfl
theorem hasC_may {c : List Tm} (h : mayC c = true) (a : Id) : hasC c a = inB (spn c a.r) a.t := by unfold hasC; rw [h]; rfl
theorem hasC_both {a b : List Tm} (ha : mayC a = true) (hb : mayC b = true) (h : Few a b) (i : Id) : hasC (bothC a b) i = (hasC a i || hasC b i) := by
  have ca := (mayC_iff a).1 ha
  have cb := (mayC_iff b).1 hb
  rw [hasC_may ((mayC_iff _).2 (bothC_ok ca cb h)), hasC_may ha, hasC_may hb, spn_bothC ca cb, Bool.eq_iff_iff, Bool.or_eq_true, inB_iff, inB_iff, inB_iff]
  exact (both_ok ((mayB_iff _).1 (spn_may ca _)).1 ((mayB_iff _).1 (spn_may cb _)).1.all).2 _
theorem hasC_left {a b : List Tm} (ha : mayC a = true) (hb : mayC b = true) (h : Few a b) (i : Id) : hasC (leftC a b) i = (hasC a i && !hasC b i) := by
  have ca := (mayC_iff a).1 ha
  have cb := (mayC_iff b).1 hb
  rw [hasC_may ((mayC_iff _).2 (leftC_ok ca cb h)), hasC_may ha, hasC_may hb, spn_leftC ca cb, Bool.eq_iff_iff, Bool.and_eq_true, Bool.not_eq_true', inB_iff, inB_iff]
  have := (left_ok ((mayB_iff _).1 (spn_may ca i.r)).1 ((mayB_iff _).1 (spn_may cb i.r)).1.all).2 i.t
  rw [this, ← inB_iff (spn b i.r) i.t]
  simp
theorem hasC_one {a : Id} (ha : mayI a) (i : Id) : hasC (one a) i = decide (i = a) := by
  rw [hasC_may ((mayC_iff _).2 (one_ok ha)), spn_one]
  have h1 := a.ht
  rw [Bool.eq_iff_iff, inB_iff, decide_eq_true_iff]
  by_cases q : a.r = i.r
  · rw [if_pos q, in_cons, mk_f h1, mk_t h1]
    constructor
    · rintro (h | h)
      · exact Id.ext' (by omega) q.symm
      · exact absurd h (in_nil _)
    · rintro rfl
      exact .inl ⟨Nat.le_refl _, Nat.le_refl _⟩
  · rw [if_neg q]
    constructor
    · intro h; exact absurd h (in_nil _)
    · rintro rfl; exact absurd rfl q
theorem hasC_add {c : List Tm} {a : Id} (hc : mayC c = true) (ha : mayI a) (h : Few c (one a)) (i : Id) : hasC (bothC c (one a)) i = (hasC c i || decide (i = a)) := by
  rw [hasC_both hc ((mayC_iff _).2 (one_ok ha)) h, hasC_one ha]
/-! ### Joining -/
theorem both_comm {x y : List Sp} (hx : Fine x) (hy : Fine y) : both x y = both y x := by
  have h1 := both_ok hx hy.all
  have h2 := both_ok hy hx.all
  refine uniq h1.1 h2.1 (fun n => ?_)
  rw [h1.2 n, h2.2 n, Or.comm]
theorem both_twice {x y : List Sp} (hx : Fine x) (hy : Fine y) : both (both x y) y = both x y := by
  have h1 := both_ok hx hy.all
  have h2 := both_ok h1.1 hy.all
  refine uniq h2.1 h1.1 (fun n => ?_)
  rw [h2.2 n, h1.2 n]
  constructor
  · rintro (h | h)
    · exact h
    · exact .inr h
  · exact .inl
theorem both_left {x y : List Sp} (hx : Fine x) (hy : Fine y) : both (left x y) y = both x y := by
  have h1 := left_ok hx hy.all
  have h2 := both_ok h1.1 hy.all
  have h3 := both_ok hx hy.all
  refine uniq h2.1 h3.1 (fun n => ?_)
  rw [h2.2 n, h1.2 n, h3.2 n]
  constructor
  · rintro (h | h)
    · exact .inl h.1
    · exact .inr h
  · rintro (h | h)
    · by_cases q : In y n
      · exact .inr q
      · exact .inl ⟨h, q⟩
    · exact .inr h
theorem sp_fine {c : List Tm} (h : Cok c) (r : Nat) : Fine (spn c r) := ((mayB_iff _).1 (spn_may h r)).1
theorem bothC_comm {a b : List Tm} (ha : Cok a) (hb : Cok b) : bothC a b = bothC b a := clk_congr fun r _ => both_comm (sp_fine ha r) (sp_fine hb r)
theorem bothC_twice {a b : List Tm} (ha : Cok a) (hb : Cok b) : bothC (bothC a b) b = bothC a b := clk_congr fun r _ => by rw [spn_bothC ha hb]; exact both_twice (sp_fine ha r) (sp_fine hb r)
theorem bothC_left {a b : List Tm} (ha : Cok a) (hb : Cok b) : bothC (leftC a b) b = bothC a b := clk_congr fun r _ => by rw [spn_leftC ha hb]; exact both_left (sp_fine ha r) (sp_fine hb r)
theorem many_parts {x y : List Sp} (hx : Fine x) (hy : Fine y) : many (both x y) = many (left x y) + many y := by
  have h1 := left_ok hx hy.all
  have h3 := both_ok hx hy.all
  refine many_join h1.1 hy h3.1 (fun n => ?_) (fun n h => ((h1.2 n).1 h.1).2 h.2)
  rw [h3.2 n, h1.2 n]
  constructor
  · rintro (h | h)
    · by_cases q : In y n
      · exact .inr q
      · exact .inl ⟨h, q⟩
    · exact .inr h
  · rintro (h | h)
    · exact .inl h.1
    · exact .inr h
theorem manyC_parts {a b : List Tm} (ha : Cok a) (hb : Cok b) : manyC (bothC a b) = manyC (leftC a b) + manyC b := by
  have h := manyC_add (g := fun r => both (spn a r) (spn b r)) (p := fun r => left (spn a r) (spn b r)) (q := spn b) (fun r => many_parts (sp_fine ha r) (sp_fine hb r))
  rw [clk_spn hb] at h
  exact h
theorem topC_both {a b : List Tm} (ha : Cok a) (hb : Cok b) : topC (bothC a b) = max (topC a) (topC b) := by
  have h := topC_max (g := fun r => both (spn a r) (spn b r)) (p := spn a) (q := spn b) (fun r => by
    have h := both_ok (sp_fine ha r) (sp_fine hb r).all
    exact top_join (sp_fine ha r).all (sp_fine hb r).all h.1.all h.2)
  rw [clk_spn ha, clk_spn hb] at h
  exact h
theorem both_tot {a b : List Tm} (ha : Cok a) (hb : Cok b) (r : Nat) : (spn (bothC a b) r).length ≤ tot a + tot b := by
  rw [spn_bothC ha hb]
  have h1 := both_len (spn b r) (spn a r)
  have h2 := spn_tot a r
  have h3 := spn_tot b r
  omega
theorem left_tot {a b : List Tm} (ha : Cok a) (hb : Cok b) (r : Nat) : (spn (leftC a b) r).length ≤ tot a + tot b := by
  rw [spn_leftC ha hb]
  have h1 := left_len (sp_fine ha r) (sp_fine hb r).all
  have h2 := spn_tot a r
  have h3 := spn_tot b r
  omega
/-- A clock's greatest time is no more than can be. -/
theorem topC_le : ∀ {c : List Tm} {lo : Nat}, Up lo c → topC c ≤ 1073741824
  | [], _, _ => Nat.zero_le _
  | x :: c, lo, h => by
    have h1 := topC_le h.2.2.2.2
    have hok := ((mayB_iff _).1 h.2.2.2.1).1
    have h2 := (top_in hok.all).2
    unfold topC
    rcases h2 with h2 | h2
    · rw [h2]; show max 0 _ ≤ _; omega
    · have := in_bound hok h2; omega
theorem manyC_le : ∀ {c : List Tm} {lo : Nat}, Up lo c → manyC c ≤ 1073741825 * (8 - lo)
  | [], _, _ => Nat.zero_le _
  | x :: c, lo, h => by
    have h1 := manyC_le h.2.2.2.2
    have hok := ((mayB_iff _).1 h.2.2.2.1).1
    have h2 : many x.2 ≤ 1073741825 := by
      rw [many_cnt hok]
      have : ∀ (p : Nat → Bool) n, cnt p n ≤ n := by
        intro p n
        induction n with
        | zero => exact Nat.le_refl _
        | succ n ih => unfold cnt; split <;> omega
      exact this _ _
    have h3 := h.1
    have h4 := h.2.1
    unfold manyC
    have : 1073741825 * (8 - (x.1 + 1)) + 1073741825 ≤ 1073741825 * (8 - lo) := by omega
    omega
end Go.Proofs.Ytinglfhndlklaaa.Clocks
