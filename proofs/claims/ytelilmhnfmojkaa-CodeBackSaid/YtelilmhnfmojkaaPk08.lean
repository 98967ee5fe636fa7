/- Operations as numbers, and numbers as bytes, in plain words; how such bytes are read, number by number; what is written is read back, and what is read is written as just these bytes. Conditions: none. -/
import Derived.Test.YtelilmhnfmojkaaChecked
import Derived.WalkKit
import Derived.WalkSpells
import Derived.WalkLawsBesides
import Derived.ScopeJumps
import Derived.Lib.Hide
import Derived.BigQuiet
import Derived.Deep.QuietTactic
import Derived.Deep.LoopGhost
import Derived.Test.YtelilmhnfmojkaaPk01
import Derived.Test.YtelilmhnfmojkaaPk07
import Derived.Test.YtelilmhnfmojkaaPk02

namespace Go.Proofs.Ytelilmhnfmojkaa.Codes
open Num Go.Proofs.Ytelilmhnfmojkaa.Place Ops Stamp

/-- The bytes of numbers. -/
def nums : List Nat → List UInt8
  | [] => []
  | n :: l => enc n ++ nums l
theorem nums_append : ∀ l m : List Nat, nums (l ++ m) = nums l ++ nums m
  | [], m => rfl
  | n :: l, m => by simp [nums, nums_append l m]
theorem nums_one (n : Nat) : nums [n] = enc n := by simp [nums]

/-- The numbers of runs, behind a time. -/
def runNums : Int → List Run → List Nat
  | _, [] => []
  | a, x :: p => ((x.t : Int) - a).toNat :: x.r :: x.m.toNat :: runNums (fin x) p
/-- The last time of runs, or the one ahead of them. -/
def finF : Int → List Run → Int
  | a, [] => a
  | _, x :: p => finF (fin x) p
theorem runNums_append : ∀ (a : Int) (p q : List Run), runNums a (p ++ q) = runNums a p ++ runNums (finF a p) q
  | _, [], q => rfl
  | a, x :: p, q => by simp [runNums, finF, runNums_append (fin x) p q]
theorem finF_append : ∀ (a : Int) (p q : List Run), finF a (p ++ q) = finF (finF a p) q
  | _, [], q => rfl
  | a, x :: p, q => by simp [finF, finF_append (fin x) p q]
theorem runNums_len : ∀ (a : Int) (p : List Run), (runNums a p).length = p.length * 3
  | _, [] => rfl
  | a, x :: p => by simp [runNums, runNums_len (fin x) p]; omega
/-- What stands behind the runs. -/
def tailNums (o : Opn) : List Nat :=
  if o.k = 1 then [o.p.toNat] else if o.k = 2 then [] else [((o.t : Int) - (lastV o.pl).1).toNat, o.r]
def opNums (o : Opn) : List Nat := o.k :: o.pl.length :: (runNums 0 o.pl ++ tailNums o)
/-- An operation's bytes. -/
def bytesO (o : Opn) : List UInt8 := nums (opNums o)

theorem drop_more {xs a t : List UInt8} {s : Nat} (h : xs.drop s = a ++ t) : xs.drop (s + a.length) = t := by
  rw [← List.drop_drop, h, List.drop_left]

/-- Numbers lie in bytes from a place on, up to another place. -/
def Eat (xs : List UInt8) (s : Nat) (l : List Nat) (s' : Nat) : Prop := s' = s + (nums l).length ∧ ∃ t, xs.drop s = nums l ++ t
theorem Eat.nil (xs : List UInt8) (s : Nat) : Eat xs s [] s := ⟨rfl, _, rfl⟩
theorem Eat.append {xs : List UInt8} {s s1 s2 : Nat} {l m : List Nat} (h : Eat xs s l s1) (h2 : Eat xs s1 m s2) : Eat xs s (l ++ m) s2 := by
  obtain ⟨rfl, t, e⟩ := h
  obtain ⟨rfl, u, e2⟩ := h2
  rw [drop_more e] at e2
  refine ⟨by rw [nums_append, List.length_append]; omega, u, ?_⟩
  rw [e, e2, nums_append, List.append_assoc]

/-- The next number, at most so great; none: an error was met. -/
def nextF (xs : List UInt8) (m : Int) : Option Nat → Nat × Option Nat
  | none => (0, none)
  | some s => if (get (xs.drop s)).2.2 = 0 ∧ ((get (xs.drop s)).1 : Int) ≤ m then ((get (xs.drop s)).1, some (s + (get (xs.drop s)).2.1)) else (0, none)
theorem next_yes {xs : List UInt8} {s n : Nat} {m : Int} {t : List UInt8} (h : xs.drop s = enc n ++ t) (h1 : n ≤ most) (h2 : (n : Int) ≤ m) : nextF xs m (some s) = (n, some (s + (enc n).length)) := by
  simp only [nextF, h, get_enc n h1 t, h2, and_self, if_true]
theorem next_some {xs : List UInt8} {m : Int} {q : Option Nat} {n s' : Nat} (h : nextF xs m q = (n, some s')) : ∃ s, q = some s ∧ Eat xs s [n] s' ∧ (n : Int) ≤ m ∧ n ≤ most := by
  cases q with
  | none => simp [nextF] at h
  | some s =>
    rcases get_cases (xs.drop s) with hg | ⟨k, t, hg, hk, ht⟩
    · simp [nextF, hg] at h
    · simp only [nextF, hg, true_and] at h
      by_cases hm : (k : Int) ≤ m
      · rw [if_pos hm] at h
        simp only [Prod.mk.injEq, Option.some.injEq] at h
        obtain ⟨rfl, rfl⟩ := h
        exact ⟨s, rfl, ⟨by rw [nums_one], t, by rw [nums_one]; exact ht⟩, hm, hk⟩
      · rw [if_neg hm] at h
        simp at h
theorem next_le (xs : List UInt8) (m : Int) (q : Option Nat) : ((nextF xs m q).1 : Int) ≤ max m 0 ∧ (nextF xs m q).1 ≤ most := by
  cases q with
  | none => simp [nextF]; omega
  | some s =>
    simp only [nextF]
    rcases get_cases (xs.drop s) with hg | ⟨k, t, hg, hk, ht⟩
    · rw [hg]; simp; omega
    · rw [hg]
      by_cases hm : (k : Int) ≤ m
      · simp only [hm, and_self, if_true]; omega
      · simp only [hm, and_false, if_false]; simp; omega
theorem next_size {xs : List UInt8} {m : Int} {q : Option Nat} {n s' : Nat} (h : nextF xs m q = (n, some s')) : s' ≤ xs.length := by
  obtain ⟨s, _, ⟨h1, t, h2⟩, _⟩ := next_some h
  have := congrArg List.length h2
  rw [List.length_drop, List.length_append] at this
  have h3 := (encF_len 5 n).1
  rw [nums_one] at this h1
  unfold enc at this h1
  omega

/-- The time that the next number tells, behind another one. -/
def timeF (xs : List UInt8) (a : Int) (q : Option Nat) : Nat × Option Nat :=
  (((a + (nextF xs (1073741824 - a) q).1) % 4294967296).toNat, (nextF xs (1073741824 - a) q).2)
theorem time_lt (xs : List UInt8) (a : Int) (q : Option Nat) : (timeF xs a q).1 < 4294967296 := by unfold timeF; simp only; omega
theorem time_some {xs : List UInt8} {a : Int} {q : Option Nat} {u s' : Nat} (ha : 0 ≤ a) (h : timeF xs a q = (u, some s')) : ∃ s, q = some s ∧ Eat xs s [((u : Int) - a).toNat] s' ∧ a ≤ (u : Int) ∧ (u : Int) ≤ 1073741824 := by
  unfold timeF at h
  simp only [Prod.mk.injEq] at h
  obtain ⟨rfl, h2⟩ := h
  obtain ⟨n, hn⟩ : ∃ n, (nextF xs (1073741824 - a) q).1 = n := ⟨_, rfl⟩
  obtain ⟨s, h3, h4, h5, _⟩ := next_some (Prod.ext hn h2)
  rw [hn]
  have e : ((a + (n : Int)) % 4294967296).toNat = (a + n).toNat := by omega
  refine ⟨s, h3, ?_, by omega, by omega⟩
  rw [e, show (((a + (n : Int)).toNat : Int) - a).toNat = n by omega]
  exact h4
theorem time_yes {xs : List UInt8} {s u : Nat} {a : Int} {t : List UInt8} (ha : 0 ≤ a) (hu : a ≤ (u : Int)) (hm : u ≤ 1073741824) (h : xs.drop s = enc ((u : Int) - a).toNat ++ t) : timeF xs a (some s) = (u, some (s + (enc ((u : Int) - a).toNat).length)) := by
  unfold timeF
  rw [next_yes h (by unfold most; omega) (by omega)]
  simp only [Prod.mk.injEq, and_true]
  omega

/-- So many runs. -/
def runsF (xs : List UInt8) : Nat → Int → Option Nat → List Run × Option Nat
  | 0, _, q => ([], q)
  | n + 1, a, q =>
    (mkRun (timeF xs a q).1 (nextF xs 255 (timeF xs a q).2).1 (nextF xs 4096 (nextF xs 255 (timeF xs a q).2).2).1 ::
      (runsF xs n (fin (mkRun (timeF xs a q).1 (nextF xs 255 (timeF xs a q).2).1 (nextF xs 4096 (nextF xs 255 (timeF xs a q).2).2).1)) (nextF xs 4096 (nextF xs 255 (timeF xs a q).2).2).2).1,
     (runsF xs n (fin (mkRun (timeF xs a q).1 (nextF xs 255 (timeF xs a q).2).1 (nextF xs 4096 (nextF xs 255 (timeF xs a q).2).2).1)) (nextF xs 4096 (nextF xs 255 (timeF xs a q).2).2).2).2)
theorem runsF_len (xs : List UInt8) : ∀ (n : Nat) (a : Int) (q : Option Nat), (runsF xs n a q).1.length = n
  | 0, _, _ => rfl
  | n + 1, a, q => by simp [runsF, runsF_len xs n]
theorem runs_sound {xs : List UInt8} : ∀ (n : Nat) (a : Int) (q : Option Nat) (l : List Run) (s' : Nat), 0 ≤ a → Chain l → runsF xs n a q = (l, some s') → ∃ s, q = some s ∧ Eat xs s (runNums a l) s'
  | 0, a, q, l, s', _, _, h => by
    simp only [runsF, Prod.mk.injEq] at h
    obtain ⟨rfl, rfl⟩ := h
    exact ⟨s', rfl, Eat.nil _ _⟩
  | n + 1, a, q, l, s', ha, hc, h => by
    simp only [runsF] at h
    obtain ⟨⟨u, q1⟩, h1⟩ : ∃ z, timeF xs a q = z := ⟨_, rfl⟩
    obtain ⟨⟨r, q2⟩, h2⟩ : ∃ z, nextF xs 255 q1 = z := ⟨_, rfl⟩
    obtain ⟨⟨m, q3⟩, h3⟩ : ∃ z, nextF xs 4096 q2 = z := ⟨_, rfl⟩
    have b2 := next_le xs 255 q1
    have b3 := next_le xs 4096 q2
    have b1 := time_lt xs a q
    rw [h1] at h b1
    simp only at h b1
    rw [h2] at h b2
    simp only at h b2
    rw [h3] at h b3
    simp only [Prod.mk.injEq] at h b3
    obtain ⟨rfl, h4⟩ := h
    obtain ⟨x, hx⟩ : ∃ x, x = mkRun u r m := ⟨_, rfl⟩
    rw [← hx] at hc h4 ⊢
    have hx1 : x.t = u := by rw [hx]; exact mkRun_t b1
    have hx2 : x.r = r := by rw [hx]; exact mkRun_r (by omega)
    have hx3 : x.m = (m : Int) := by rw [hx]; exact mkRun_m (by omega)
    have ho := hc.head
    have ho2 := ho
    unfold Place.One at ho2
    obtain ⟨s3, e3, E3⟩ := runs_sound n (fin x) q3 _ s' (by unfold fin; omega) hc.tail (Prod.ext rfl h4)
    rw [e3] at h3
    obtain ⟨s2, e2, E2, _, _⟩ := next_some h3
    rw [e2] at h2
    obtain ⟨s1, e1, E1, _, _⟩ := next_some h2
    rw [e1] at h1
    obtain ⟨s0, e0, E0, _, _⟩ := time_some ha h1
    refine ⟨s0, e0, ?_⟩
    have := ((E0.append E1).append E2).append E3
    simp only [runNums, hx1, hx2, hx3]
    simpa using this
theorem runs_complete {xs : List UInt8} : ∀ (l : List Run) (a : Int) (s : Nat) (t : List UInt8), 0 ≤ a → Chain l → (∀ x, l.head? = some x → a < (x.t : Int)) → xs.drop s = nums (runNums a l) ++ t → runsF xs l.length a (some s) = (l, some (s + (nums (runNums a l)).length))
  | [], a, s, t, _, _, _, _ => by simp [runsF, runNums, nums]
  | x :: p, a, s, t, ha, hc, hh, h => by
    have ho := hc.head
    unfold Place.One at ho
    have h0 := hh x rfl
    simp only [runNums, nums, List.append_assoc] at h
    have e1 := time_yes (u := x.t) ha (by omega) (by omega) h
    have d1 := drop_more h
    have e2 := next_yes (m := 255) d1 (by unfold most; omega) (by omega)
    have d2 := drop_more d1
    have e3 := next_yes (m := 4096) d2 (by unfold most; omega) (by omega)
    have d3 := drop_more d2
    have hx : mkRun x.t x.r ((x.m.toNat : Nat) : Int) = x := by
      refine Run.ext' (mkRun_t x.ht) (mkRun_r x.hr) ?_
      rw [mkRun_m (by omega)]; omega
    have hn : ∀ y, p.head? = some y → fin x < (y.t : Int) := by
      intro y hy
      cases p with
      | nil => simp at hy
      | cons z p =>
        simp at hy
        subst hy
        exact hc.2.1.1
    have e4 := runs_complete p (fin x) _ t (by unfold fin; omega) hc.tail hn d3
    simp only [List.length_cons, runsF, e1, e2, e3, hx, e4, Prod.mk.injEq, true_and, runNums, nums, List.length_append, Option.some.injEq]
    omega

def mkO (k t r : Nat) (l : List Run) (p : Int) : Opn := ⟨k % 256, t % 4294967296, r % 256, l, if -9223372036854775808 ≤ p ∧ p ≤ 9223372036854775807 then p else 0, Nat.mod_lt _ (by decide), Nat.mod_lt _ (by decide), Nat.mod_lt _ (by decide), by split <;> omega⟩
theorem mkO_eq (o : Opn) {k t r : Nat} {l : List Run} {p : Int} (h1 : k = o.k) (h2 : t = o.t) (h3 : r = o.r) (h4 : l = o.pl) (h5 : p = o.p) : mkO k t r l p = o := by
  obtain ⟨k', t', r', l', p', a, b, c, d⟩ := o
  simp only at h1 h2 h3 h4 h5
  subst h1 h2 h3 h4 h5
  exact Opn.ext' (Nat.mod_eq_of_lt a) (Nat.mod_eq_of_lt b) (Nat.mod_eq_of_lt c) rfl (if_pos d)
theorem mkO_fine {k t r : Nat} {l : List Run} {p : Int} (h1 : k < 256) (h2 : t < 4294967296) (h3 : r < 256) (h4 : -9223372036854775808 ≤ p ∧ p ≤ 9223372036854775807) :
    (mkO k t r l p).k = k ∧ (mkO k t r l p).t = t ∧ (mkO k t r l p).r = r ∧ (mkO k t r l p).pl = l ∧ (mkO k t r l p).p = p :=
  ⟨Nat.mod_eq_of_lt h1, Nat.mod_eq_of_lt h2, Nat.mod_eq_of_lt h3, rfl, if_pos h4⟩

/-- What stands behind the runs, and the whole of it. -/
def restF (xs : List UInt8) (k : Nat) (l : List Run) (q : Option Nat) : Opn × Option Nat :=
  if k = 1 then (mkO 1 (lastV l).1.toNat (lastV l).2.toNat l (nextF xs 1114111 q).1, (nextF xs 1114111 q).2)
  else if k = 2 then (mkO 2 (lastV l).1.toNat (lastV l).2.toNat l 0, q)
  else if k = 3 ∨ k = 4 then (mkO k (timeF xs (lastV l).1 q).1 (nextF xs 255 (timeF xs (lastV l).1 q).2).1 l 0, (nextF xs 255 (timeF xs (lastV l).1 q).2).2)
  else (mkO k 0 0 l 0, q)
/-- The operation that the next numbers tell, whether it may be or not. -/
def toldF (xs : List UInt8) (q : Option Nat) : Opn × Option Nat :=
  restF xs (nextF xs 255 q).1 (runsF xs (nextF xs 64 (nextF xs 255 q).2).1 0 (nextF xs 64 (nextF xs 255 q).2).2).1 (runsF xs (nextF xs 64 (nextF xs 255 q).2).1 0 (nextF xs 64 (nextF xs 255 q).2).2).2

theorem last_fin {l : List Run} (h : mayB l = true) : (lastV l).1 = finF 0 l ∧ 1 ≤ (lastV l).1 ∧ (lastV l).1 ≤ 1073741824 ∧ 0 ≤ (lastV l).2 ∧ (lastV l).2 < 8 := by
  have hm := (mayB_iff l).1 h
  obtain ⟨h1, _, hc, _⟩ := hm
  have ho := chain_one hc (k := l.length - 1) (by omega)
  have hs := split_last (l := l) (by omega)
  unfold lastV
  rw [if_pos h]
  unfold Place.One at ho
  have e : finF 0 l = fin (l.getD (l.length - 1) zrun) := by
    conv => lhs; rw [hs]
    rw [finF_append]; rfl
  rw [e]
  unfold fin
  simp only
  omega

theorem kind_cases {o : Opn} (h : mayO o = true) : may o.t o.r = true ∧ mayB o.pl = true ∧
    ((o.k = 1 ∧ (lastV o.pl).1 = (o.t : Int) ∧ (lastV o.pl).2 = (o.r : Int) ∧ 0 ≤ o.p ∧ o.p ≤ 1114111) ∨ (o.k = 2 ∧ (lastV o.pl).1 = (o.t : Int) ∧ (lastV o.pl).2 = (o.r : Int) ∧ o.p = 0) ∨
      ((o.k = 3 ∨ o.k = 4) ∧ (lastV o.pl).1 < (o.t : Int) ∧ o.p = 0)) := by
  obtain ⟨h1, h2, h3⟩ := mayO_parts h
  refine ⟨h1, h2, ?_⟩
  unfold kindB kindF at h3
  by_cases k1 : o.k = 1
  · rw [if_pos k1, Bool.and_eq_true, decide_eq_true_eq, Prod.mk.injEq] at h3
    have h4 : Pt.IsPt o.p := of_decide_eq_true h3.2
    exact .inl ⟨k1, h3.1.1, h3.1.2, h4.1, h4.2.1⟩
  · rw [if_neg k1] at h3
    by_cases k2 : o.k = 2
    · rw [if_pos k2, Bool.and_eq_true, decide_eq_true_eq, decide_eq_true_eq, Prod.mk.injEq] at h3
      exact .inr (.inl ⟨k2, h3.1.1, h3.1.2, h3.2⟩)
    · rw [if_neg k2] at h3
      by_cases k3 : o.k = 3 ∨ o.k = 4
      · rw [if_pos k3, Bool.and_eq_true, decide_eq_true_eq, decide_eq_true_eq] at h3
        exact .inr (.inr ⟨k3, h3⟩)
      · rw [if_neg k3] at h3
        cases h3

theorem told_sound {xs : List UInt8} {q : Option Nat} {o : Opn} {s' : Nat} (h : toldF xs q = (o, some s')) (hm : mayO o = true) : ∃ s, q = some s ∧ Eat xs s (opNums o) s' := by
  unfold toldF at h
  obtain ⟨⟨k, q1⟩, h1⟩ : ∃ z, nextF xs 255 q = z := ⟨_, rfl⟩
  have b1 := next_le xs 255 q
  rw [h1] at h b1
  simp only at h b1
  obtain ⟨⟨n, q2⟩, h2⟩ : ∃ z, nextF xs 64 q1 = z := ⟨_, rfl⟩
  rw [h2] at h
  simp only at h
  obtain ⟨⟨l, q3⟩, h3⟩ : ∃ z, runsF xs n 0 q2 = z := ⟨_, rfl⟩
  have hlen := runsF_len xs n 0 q2
  rw [h3] at h hlen
  simp only at h hlen
  obtain ⟨hp, ht⟩ : o.pl = l ∧ (mayB l = true → ∃ s3, q3 = some s3 ∧ Eat xs s3 (tailNums o) s' ∧ o.k = k) := by
    unfold restF at h
    by_cases k1 : k = 1
    · rw [if_pos k1] at h
      simp only [Prod.mk.injEq] at h
      obtain ⟨rfl, h4⟩ := h
      refine ⟨rfl, fun hb => ?_⟩
      obtain ⟨v, hv⟩ : ∃ v, (nextF xs 1114111 q3).1 = v := ⟨_, rfl⟩
      obtain ⟨s3, e3, E3, b3, _⟩ := next_some (Prod.ext hv h4)
      have hl := last_fin hb
      have hf := mkO_fine (k := 1) (t := (lastV l).1.toNat) (r := (lastV l).2.toNat) (l := l) (p := (v : Int)) (by omega) (by omega) (by omega) (by omega)
      refine ⟨s3, e3, ?_, by rw [k1]; rfl⟩
      rw [hv]
      unfold tailNums
      rw [if_pos hf.1, hf.2.2.2.2]
      exact E3
    · rw [if_neg k1] at h
      by_cases k2 : k = 2
      · rw [if_pos k2] at h
        simp only [Prod.mk.injEq] at h
        obtain ⟨rfl, h4⟩ := h
        refine ⟨rfl, fun hb => ⟨s', h4, ?_, by rw [k2]; rfl⟩⟩
        exact Eat.nil _ _
      · rw [if_neg k2] at h
        by_cases k3 : k = 3 ∨ k = 4
        · rw [if_pos k3] at h
          simp only [Prod.mk.injEq] at h
          obtain ⟨rfl, h4⟩ := h
          refine ⟨rfl, fun hb => ?_⟩
          obtain ⟨⟨u, q4⟩, h5⟩ : ∃ z, timeF xs (lastV l).1 q3 = z := ⟨_, rfl⟩
          have bt := time_lt xs (lastV l).1 q3
          rw [h5] at h4 bt ⊢
          simp only at h4 bt ⊢
          obtain ⟨v, hv⟩ : ∃ v, (nextF xs 255 q4).1 = v := ⟨_, rfl⟩
          obtain ⟨s4, e4, E4, b4, _⟩ := next_some (Prod.ext hv h4)
          have hl := last_fin hb
          rw [e4] at h5
          obtain ⟨s3, e3, E3, b3, b5⟩ := time_some (by omega) h5
          have hf := mkO_fine (k := k) (t := u) (r := v) (l := l) (p := 0) (by omega) bt (by omega) (by omega)
          refine ⟨s3, e3, ?_, by rw [hv]; exact hf.1⟩
          rw [hv]
          unfold tailNums
          rw [if_neg (by omega), if_neg (by omega), hf.2.1, hf.2.2.1, hf.2.2.2.1]
          exact E3.append E4
        · rw [if_neg k3] at h
          simp only [Prod.mk.injEq] at h
          obtain ⟨rfl, h4⟩ := h
          exfalso
          have hk := (kind_cases hm).2.2
          rw [show (mkO k 0 0 l 0).k = k from Nat.mod_eq_of_lt (by omega)] at hk
          omega
  obtain ⟨_, hb, _⟩ := kind_cases hm
  rw [hp] at hb
  obtain ⟨s3, e3, E3, hk⟩ := ht hb
  rw [e3] at h3
  obtain ⟨s2, e2, E2⟩ := runs_sound n 0 q2 l s3 (by omega) ((mayB_iff l).1 hb).2.2.1 h3
  rw [e2] at h2
  obtain ⟨s1, e1, E1, _, _⟩ := next_some h2
  rw [e1] at h1
  obtain ⟨s0, e0, E0, _, _⟩ := next_some h1
  refine ⟨s0, e0, ?_⟩
  have := ((E0.append E1).append E2).append E3
  unfold opNums
  rw [hk, hp, hlen]
  simpa using this
theorem told_complete {xs : List UInt8} {o : Opn} {s : Nat} {t : List UInt8} (hm : mayO o = true) (h : xs.drop s = bytesO o ++ t) : toldF xs (some s) = (o, some (s + (bytesO o).length)) := by
  obtain ⟨h1, h2, h3⟩ := kind_cases hm
  have hl := last_fin h2
  have hM := (mayB_iff o.pl).1 h2
  obtain ⟨m1, m2, m3, _⟩ := hM
  have hr := may_iff.1 h1
  unfold bytesO opNums at h
  simp only [nums, nums_append, List.append_assoc] at h
  have e1 := next_yes (m := 255) h (by have := o.hk; unfold most; omega) (by have := o.hk; omega)
  have d1 := drop_more h
  have e2 := next_yes (m := 64) d1 (by unfold most; omega) (by omega)
  have d2 := drop_more d1
  have e3 := runs_complete o.pl 0 _ _ (by omega) m3 (by
    intro x hx
    have : Place.One x := by
      cases hp : o.pl with
      | nil => rw [hp] at hx; simp at hx
      | cons y p => rw [hp] at hx m3; simp at hx; subst hx; exact m3.head
    unfold Place.One at this; omega) d2
  have d3 := drop_more d2
  have hlen : (bytesO o).length = (enc o.k).length + ((enc o.pl.length).length + ((nums (runNums 0 o.pl)).length + (nums (tailNums o)).length)) := by
    unfold bytesO opNums
    simp only [nums, nums_append, List.length_append]
  rw [hlen]
  unfold toldF
  simp only [e1, e2, e3]
  unfold restF
  unfold tailNums at d3 ⊢
  rcases h3 with ⟨k1, g1, g2, g3, g4⟩ | ⟨k2, g1, g2, g3⟩ | ⟨k3, g1, g2⟩
  · rw [if_pos k1] at d3 ⊢
    rw [if_pos k1]
    rw [nums_one] at d3 ⊢
    have e4 := next_yes (m := 1114111) d3 (by unfold most; omega) (by omega)
    simp only [e4, Prod.mk.injEq, Option.some.injEq]
    refine ⟨mkO_eq o k1.symm (by omega) (by omega) rfl (by omega), by omega⟩
  · have k1 : ¬ o.k = 1 := by omega
    rw [if_neg k1, if_pos k2] at d3 ⊢
    rw [if_neg k1, if_pos k2]
    simp only [Prod.mk.injEq, Option.some.injEq]
    refine ⟨mkO_eq o k2.symm (by omega) (by omega) rfl g3.symm, by simp [nums]; omega⟩
  · have k1 : ¬ o.k = 1 := by omega
    have k2 : ¬ o.k = 2 := by omega
    rw [if_neg k1, if_neg k2] at d3 ⊢
    rw [if_neg k1, if_neg k2, if_pos k3]
    simp only [nums, List.append_assoc] at d3 ⊢
    have e4 := time_yes (u := o.t) (a := (lastV o.pl).1) (by omega) (by omega) hr.2.1 d3
    have d4 := drop_more d3
    have e5 := next_yes (m := 255) d4 (by unfold most; omega) (by omega)
    simp only [e4, e5, Prod.mk.injEq, Option.some.injEq]
    refine ⟨mkO_eq o rfl rfl rfl rfl g2.symm, by simp only [List.length_append, List.length_nil]; omega⟩

/-- The next operation, one that may be. -/
def operF (xs : List UInt8) (q : Option Nat) : Opn × Option Nat := ((toldF xs q).1, if mayO (toldF xs q).1 = true then (toldF xs q).2 else none)
/-- There lies an operation that may be. -/
def IsAt (xs : List UInt8) (s : Nat) (o : Opn) : Prop := mayO o = true ∧ ∃ t, xs.drop s = bytesO o ++ t
theorem oper_yes {xs : List UInt8} {s : Nat} {o : Opn} (h : IsAt xs s o) : operF xs (some s) = (o, some (s + (bytesO o).length)) := by
  obtain ⟨h1, t, h2⟩ := h
  unfold operF
  rw [told_complete h1 h2]
  simp only [h1, if_true]
theorem oper_some {xs : List UInt8} {q : Option Nat} {o : Opn} {s' : Nat} (h : operF xs q = (o, some s')) : ∃ s, q = some s ∧ IsAt xs s o ∧ s' = s + (bytesO o).length := by
  unfold operF at h
  simp only [Prod.mk.injEq] at h
  obtain ⟨rfl, h⟩ := h
  by_cases hm : mayO (toldF xs q).1 = true
  · rw [if_pos hm] at h
    obtain ⟨s, e, E1, t, E2⟩ := told_sound (Prod.ext rfl h) hm
    exact ⟨s, e, ⟨hm, t, E2⟩, E1⟩
  · rw [if_neg hm] at h
    cases h
theorem isAt_one {xs : List UInt8} {s : Nat} {o o' : Opn} (h : IsAt xs s o) (h' : IsAt xs s o') : o = o' := by
  have e := oper_yes h
  rw [oper_yes h'] at e
  exact (congrArg Prod.fst e).symm
theorem isAt_size {xs : List UInt8} {s : Nat} {o : Opn} (h : IsAt xs s o) : s + (bytesO o).length ≤ xs.length := by
  obtain ⟨_, t, h⟩ := h
  have h2 := congrArg List.length h
  rw [List.length_drop, List.length_append] at h2
  have : 1 ≤ (bytesO o).length := by
    unfold bytesO opNums
    simp only [nums, List.length_append]
    have := (encF_len 5 o.k).1
    unfold enc
    omega
  omega
/-- The operation that bytes begin with, and how many they are. -/
def getO (xs : List UInt8) : Option (Opn × Nat) := match operF xs (some 0) with
  | (o, some s) => some (o, s)
  | (_, none) => none
theorem get_yes {xs : List UInt8} {o : Opn} (h : IsAt xs 0 o) : getO xs = some (o, (bytesO o).length) := by
  unfold getO
  rw [oper_yes h]
  simp
theorem get_some {xs : List UInt8} {o : Opn} {s : Nat} (h : getO xs = some (o, s)) : IsAt xs 0 o ∧ s = (bytesO o).length := by
  unfold getO at h
  obtain ⟨⟨o', q⟩, h1⟩ : ∃ z, operF xs (some 0) = z := ⟨_, rfl⟩
  rw [h1] at h
  cases q with
  | none => simp at h
  | some s' =>
    simp only [Option.some.injEq, Prod.mk.injEq] at h
    obtain ⟨rfl, rfl⟩ := h
    obtain ⟨s0, e, h2, h3⟩ := oper_some h1
    cases e
    exact ⟨h2, by omega⟩
theorem get_none {xs : List UInt8} (h : ∀ o, ¬ IsAt xs 0 o) : getO xs = none := by
  cases hg : getO xs with
  | none => rfl
  | some z => exact absurd (get_some (o := z.1) (s := z.2) hg).1 (h _)
theorem isAt_drop {xs : List UInt8} {s : Nat} {o : Opn} : IsAt (xs.drop s) 0 o ↔ IsAt xs s o := by unfold IsAt; rw [List.drop_zero]

/-! ### Lists -/
def bytesL : List Opn → List UInt8
  | [] => []
  | o :: l => bytesO o ++ bytesL l
theorem bytesL_append : ∀ l m : List Opn, bytesL (l ++ m) = bytesL l ++ bytesL m
  | [], m => rfl
  | o :: l, m => by simp [bytesL, bytesL_append l m]
/-- A list's bytes. -/
def listB (l : List Opn) : List UInt8 := enc l.length ++ bytesL l
/-- There lie operations that may be. -/
def AreAt (xs : List UInt8) (s : Nat) (l : List Opn) : Prop := (∀ o ∈ l, mayO o = true) ∧ ∃ t, xs.drop s = bytesL l ++ t
theorem areAt_snoc {xs : List UInt8} {s : Nat} {l : List Opn} {o : Opn} (h : AreAt xs s l) (h2 : IsAt xs (s + (bytesL l).length) o) : AreAt xs s (l ++ [o]) := by
  obtain ⟨h1, t, e⟩ := h
  obtain ⟨h3, u, e2⟩ := h2
  rw [drop_more e] at e2
  refine ⟨fun x hx => ?_, u, by rw [e, e2, bytesL_append]; simp [bytesL]⟩
  rcases List.mem_append.1 hx with hx | hx
  · exact h1 x hx
  · simp at hx; subst hx; exact h3
theorem areAt_take {xs : List UInt8} {s : Nat} {l : List Opn} (h : AreAt xs s l) {k : Nat} (hk : k < l.length) : IsAt xs (s + (bytesL (l.take k)).length) (l[k]'hk) := by
  obtain ⟨h1, t, e⟩ := h
  have hs : l = l.take k ++ (l[k]'hk :: l.drop (k + 1)) := by rw [← List.drop_eq_getElem_cons hk, List.take_append_drop]
  refine ⟨h1 _ (List.getElem_mem hk), bytesL (l.drop (k + 1)) ++ t, ?_⟩
  have e2 : xs.drop s = bytesL (l.take k) ++ (bytesO (l[k]'hk) ++ (bytesL (l.drop (k + 1)) ++ t)) := by
    rw [e]
    conv => lhs; rw [hs]
    rw [bytesL_append]
    simp [bytesL]
  exact drop_more e2
theorem areAt_one {xs : List UInt8} {s : Nat} : ∀ {l m : List Opn}, AreAt xs s l → AreAt xs s m → l.length = m.length → l = m
  | [], [], _, _, _ => rfl
  | [], _ :: _, _, _, h => by simp at h
  | _ :: _, [], _, _, h => by simp at h
  | x :: l, y :: m, h, h2, hl => by
    have e := isAt_one (areAt_take h (k := 0) (by simp)) (areAt_take h2 (k := 0) (by simp))
    simp at e
    subst e
    have step : ∀ {l : List Opn}, AreAt xs s (x :: l) → AreAt xs (s + (bytesO x).length) l := by
      rintro l ⟨h1, t, e⟩
      refine ⟨fun z hz => h1 z (List.mem_cons_of_mem _ hz), t, ?_⟩
      simp only [bytesL, List.append_assoc] at e
      exact drop_more e
    rw [areAt_one (step h) (step h2) (by simpa using hl)]
/-- Are bytes a list's, and what stands behind? -/
def IsList (xs : List UInt8) (l : List Opn) : Prop := l.length ≤ 1024 ∧ (∀ o ∈ l, mayO o = true) ∧ ∃ t, xs = listB l ++ t
theorem isList_iff {xs : List UInt8} {l : List Opn} : IsList xs l ↔ get xs = (l.length, (enc l.length).length, 0) ∧ l.length ≤ 1024 ∧ AreAt xs (enc l.length).length l := by
  constructor
  · rintro ⟨h1, h2, t, h3⟩
    unfold listB at h3
    rw [List.append_assoc] at h3
    refine ⟨by rw [h3]; exact get_enc _ (by unfold most; omega) _, h1, h2, t, ?_⟩
    rw [h3, List.drop_left]
  · rintro ⟨h1, h2, h3, t, h4⟩
    rcases get_cases xs with hg | ⟨m, u, hg, hm, hu⟩
    · rw [hg] at h1
      simp at h1
    · rw [hg] at h1
      simp only [Prod.mk.injEq, and_true] at h1
      obtain ⟨rfl, _⟩ := h1
      refine ⟨h2, h3, t, ?_⟩
      rw [hu, List.drop_left] at h4
      rw [hu, h4]
      unfold listB
      rw [List.append_assoc]
theorem isList_one {xs : List UInt8} {l m : List Opn} (h : IsList xs l) (h2 : IsList xs m) : l = m := by
  obtain ⟨h1, _, h3⟩ := isList_iff.1 h
  obtain ⟨g1, _, g3⟩ := isList_iff.1 h2
  rw [h1] at g1
  simp only [Prod.mk.injEq] at g1
  rw [g1.2.1] at h3
  exact areAt_one h3 g3 g1.1
open Classical in
/-- The list that bytes begin with, and how many they are. -/
noncomputable def readO (xs : List UInt8) : Option (List Opn × Nat) := if h : ∃ l, IsList xs l then some (h.choose, (listB h.choose).length) else none
theorem read_yes {xs : List UInt8} {l : List Opn} (h : IsList xs l) : readO xs = some (l, (listB l).length) := by
  have hx : ∃ l, IsList xs l := ⟨l, h⟩
  unfold readO
  rw [dif_pos hx, isList_one hx.choose_spec h]
theorem read_some {xs : List UInt8} {l : List Opn} {s : Nat} (h : readO xs = some (l, s)) : IsList xs l ∧ s = (listB l).length := by
  unfold readO at h
  by_cases hx : ∃ l, IsList xs l
  · rw [dif_pos hx] at h
    simp only [Option.some.injEq, Prod.mk.injEq] at h
    obtain ⟨rfl, rfl⟩ := h
    exact ⟨hx.choose_spec, rfl⟩
  · rw [dif_neg hx] at h
    cases h
theorem read_none {xs : List UInt8} (h : ∀ l, ¬ IsList xs l) : readO xs = none := by
  unfold readO
  rw [dif_neg (fun ⟨l, hl⟩ => h l hl)]
end Go.Proofs.Ytelilmhnfmojkaa.Codes

/- num.Get answers the number that bytes begin with, as Num.get says; it changes nothing. Conditions: the slice's cells are the bytes. -/
namespace Go.Proofs.Ytelilmhnfmojkaa.Num
open Go.RowKit Flo

set_option maxHeartbeats 400000 in
theorem shortest_any (k : Nat) (c : Nat) (w : World) :
    Calls Try.prog 62 #[.int .i64 (k : Int), .int .u8 (c : Int)] w fun e w' => e = .returned (.bool (decide (k = 1) || decide (c ≠ 0))) ∧ w = w' := by
  by_cases h1 : k = 1
  · subst h1
    go_enter Try.func62, Try.ntmps62
    go_wp2
    go_ret
    simp
  · have hb : ((k : Int) == 1) = false := by simp; omega
    by_cases h2 : c = 0
    · subst h2
      go_enter Try.func62, Try.ntmps62
      go_wp2
      go_ret
      simp [h1]
    · have hb2 : ((c : Int) != 0) = true := by simp; omega
      go_enter Try.func62, Try.ntmps62
      go_wp2
      go_ret
      simp [h1, h2]

set_option maxHeartbeats 400000 in
theorem get_nil (ao : Option Addr) (cap : Nat) (w : World) :
    Calls Try.prog 44 #[.slice ao 0 cap] w fun e w' => e = .returned (ans (get [])) ∧ w = w' := by
  go_enter Try.func44, Try.ntmps44
  go_wp2
  refine wp_scope_jumps 0 (fun a' w' => False) (fun a' _ => 0) rfl ?_ ?_
  · go_wp2
    go_step3
    go_wp2
    simp only [Exit.jump]
    first | go_ret3 | (rw [Exit.noGoto_ret]; go_ret3)
    exact ⟨rfl, rfl⟩
  · rintro a' w' hh
    exact hh.elim

/-- Where the reading stands, at the label. -/
def At (b off : Nat) (cap : Nat) (xs : List UInt8) (w : World) (a' : Act) (w' : World) : Prop :=
  w' = w ∧ ∃ (k n u : Nat) (u1 u6 u7 u8 u9 u10 u11 u12 u13 u14 u15 u16 u17 u18 u19 u20 u21 u22 u23 u24 u25 u26 u27 u28 u29 u30 u31 u32 u33 u34 u35 u36 u37 u38 u39 u40 u41 u42 u43 u44 u45 u46 u47 u48 : Value),
    a' = { tmps := #[.slice (some ⟨b, off, none⟩) xs.length cap, u1, .int .i64 0, .int .i64 (k : Int), .int .i64 0, .complex .f64 (fl n) (fl u), u6, u7, u8, u9, u10, u11, u12, u13, u14, u15, u16, u17, u18, u19, u20, u21, u22, u23, u24, u25, u26, u27, u28, u29, u30, u31, u32, u33, u34, u35, u36, u37, u38, u39, u40, u41, u42, u43, u44, u45, u46, u47, u48], defers := [] } ∧
    k ≤ 6 ∧ k ≤ xs.length ∧ n < 128 ^ k ∧ u = 128 ^ k ∧ dec (6 - k) (xs.drop k) n u k = get xs

set_option maxHeartbeats 400000 in
theorem get_some (b off cap : Nat) (xs : List UInt8) (hpos : 0 < xs.length) (hlen : xs.length ≤ 9223372036854775807) (w : World)
    (hc : ∀ j, j < xs.length → w.cell? ⟨b, off + j, none⟩ = some (.int .u8 ((xs.getD j 0).toNat : Int))) :
    Calls Try.prog 44 #[.slice (some ⟨b, off, none⟩) xs.length cap] w fun e w' => e = .returned (ans (get xs)) ∧ w = w' := by
  go_enter Try.func44, Try.ntmps44
  go_wp2
  refine wp_scope_jumps 0 (At b off cap xs w) (fun a' _ => 6 - (intOf (a'.tmps.getD 3 undef)).toNat) rfl ?_ ?_
  · obtain ⟨c, hcd⟩ : ∃ c : Nat, c = (xs.getD 0 0).toNat := ⟨_, rfl⟩
    have hcell : w.cell? ⟨b, off, none⟩ = some (.int .u8 (c : Int)) := by rw [hcd]; exact hc 0 hpos
    have hc256 : c < 256 := by rw [hcd]; exact UInt8.toNat_lt _
    have hdrop : xs = UInt8.ofNat c :: xs.drop 1 := by
      have h := List.drop_eq_getElem_cons hpos
      rw [List.drop_zero] at h
      rw [hcd]
      simpa [List.getD, List.getElem?_eq_getElem hpos] using h
    have hcn : (UInt8.ofNat c).toNat = c := toNat_ofNat c hc256
    have HDrop : Hid (get xs = dec (5 + 1) (UInt8.ofNat c :: xs.drop 1) 0 1 0) := by
      have : get xs = get (UInt8.ofNat c :: xs.drop 1) := by rw [← hdrop]
      exact this
    have p53 : (2 : Nat) ^ 53 = 9007199254740992 := by decide
    have t1 : ((0 : Int) == (xs.length : Int)) = false := by simp; omega
    have f1 : floatOfInt .f64 ((c : Int) % 128) = fl (c % 128) := by
      rw [← ofInt_fl, Int.natCast_emod]; rfl
    have f2 : ∀ (t : TypeId) (w : World), (binOp .mul t (.float .f64 (fl (c % 128))) (.float .f64 4607182418800017408)).run Try.prog w = .ok (.float .f64 (fl (c % 128))) w := fun t w => by
      have h := mul_fl (c % 128) 1 (by omega) (by omega) (by omega)
      rw [Nat.mul_one, fl_1] at h
      exact run_float_arith w .mul t .f64 _ _ _ h
    have f3 : ∀ (t : TypeId) (w : World), (binOp .add t (.float .f64 0) (.float .f64 (fl (c % 128)))).run Try.prog w = .ok (.float .f64 (fl (c % 128))) w := fun t w => by
      have h := add_fl 0 (c % 128) (by omega) (by omega) (by omega)
      rw [Nat.zero_add, fl_0] at h
      exact run_float_arith w .add t .f64 _ _ _ h
    have f4 : ∀ (t : TypeId) (w : World), (binOp .mul t (.float .f64 4607182418800017408) (.float .f64 4638707616191610880)).run Try.prog w = .ok (.float .f64 (fl 128)) w := fun t w => by
      have h := mul_fl 1 128 (by omega) (by omega) (by omega)
      rw [Nat.one_mul, fl_1, fl_128] at h
      rw [fl_128]
      exact run_float_arith w .mul t .f64 _ _ _ h
    have f5 : ∀ (w : World), (convert 92 3 (.float .f64 (fl (c % 128)))).run Try.prog w = .ok (.int .i64 ((c % 128 : Nat) : Int)) w := fun w =>
      run_convert_float_int w _ _ .f64 .i64 _ _ (by rw [Try.underlying92]; rfl) Try.underlying3 (intVal_fl _ (by omega))
    have Hcn := Lib.hid hcn
    have Hlen := Lib.hid hpos
    clear hcn hcd hdrop p53 hc hlen
    by_cases hbig : 128 ≤ c
    · have t3 : decide (128 ≤ (c : Int)) = true := by simp; omega
      go_wp2
      go_step3
      go_wp2
      go_step3
      have e1 : dec (6 - 1) (xs.drop 1) (c % 128) 128 1 = get xs := by
        rw [HDrop.out, dec_on _ _ _ _ _ _ (by rw [Hcn.out]; omega), Hcn.out]
        simp
      have := Hlen.out
      exact ⟨rfl, rfl, 1, c % 128, 128, _, _, _, _, _, _, _, _, _, _, _, _, _, _, _, _, _, _, _, _, _, _, _, _, _, _, _, _, _, _, _, _, _, _, _, _, _, _, _, _, _, _, _, _, rfl, by omega, by omega, by omega, by omega, e1⟩
    · have t3 : decide (128 ≤ (c : Int)) = false := by simp; omega
      have t4 : decide (1099511627776 < (c : Int) % 128) = false := by simp; omega
      have hfin : get xs = (c % 128, 1, 0) := by
        rw [HDrop.out, dec_last _ _ _ _ _ _ (by rw [Hcn.out]; omega), Hcn.out, if_neg (by unfold most; omega)]
        simp
      have HF := Lib.hid hfin
      clear hfin HDrop
      go_wp2
      go_step3
      go_wp2
      simp only [Exit.jump]
      first | go_ret3 | (rw [Exit.noGoto_ret]; go_ret3)
      rw [HF.out]
      exact ⟨by simp [ans], rfl⟩
  · rintro a' w' ⟨rfl, k, n, u, u1, u6, u7, u8, u9, u10, u11, u12, u13, u14, u15, u16, u17, u18, u19, u20, u21, u22, u23, u24, u25, u26, u27, u28, u29, u30, u31, u32, u33, u34, u35, u36, u37, u38, u39, u40, u41, u42, u43, u44, u45, u46, u47, u48, rfl, hk6, hkl, hn, hu, hdec⟩
    have HU : Hid (u = 128 ^ k) := hu
    have HD : Hid (dec (6 - k) (xs.drop k) n u k = get xs) := hdec
    clear hu hdec
    by_cases hl : k = xs.length
    · have t1 : ((k : Int) == (xs.length : Int)) = true := by simp; omega
      have hfin : get xs = (0, 0, 8) := by
        rw [← HD.out, hl, List.drop_length, dec_end]
      have HF := Lib.hid hfin
      clear hl hc hfin
      go_wp2
      simp only [Exit.jump]
      go_ret3
      rw [HF.out]
      exact ⟨rfl, rfl⟩
    have t1 : ((k : Int) == (xs.length : Int)) = false := by simp; omega
    by_cases h6 : k = 6
    · have hfin : get xs = (0, 0, 8) := by
        rw [← HD.out, h6]; rfl
      have HF := Lib.hid hfin
      have t2 : ((k : Int) == 6) = true := by simp; omega
      clear hl hc hfin h6
      go_wp2
      simp only [Exit.jump]
      go_ret3
      rw [HF.out]
      exact ⟨rfl, rfl⟩
    have t2 : ((k : Int) == 6) = false := by simp; omega
    have hlt : k < xs.length := by omega
    obtain ⟨c, hcd⟩ : ∃ c : Nat, c = (xs.getD k 0).toNat := ⟨_, rfl⟩
    have hcell : w'.cell? ⟨b, off + k, none⟩ = some (.int .u8 (c : Int)) := by rw [hcd]; exact hc k hlt
    have hc256 : c < 256 := by rw [hcd]; exact UInt8.toNat_lt _
    have hdrop : xs.drop k = UInt8.ofNat c :: xs.drop (k + 1) := by
      rw [List.drop_eq_getElem_cons hlt, hcd]
      simp [List.getD, List.getElem?_eq_getElem hlt]
    have HD2 := HD.out
    rw [hdrop, show 6 - k = (6 - (k + 1)) + 1 by omega] at HD2
    have hcn : (UInt8.ofNat c).toNat = c := toNat_ofNat c hc256
    have hu0 := HU.out
    have hun : u ≤ 128 ^ 5 := by rw [hu0]; exact Nat.pow_le_pow_right (by omega) (by omega)
    have hu1 : 1 ≤ u := by rw [hu0]; exact Nat.one_le_pow _ _ (by omega)
    have hnu : n < u := by rw [hu0]; exact hn
    have hmu : c % 128 * u ≤ 127 * u := Nat.mul_le_mul_right _ (by omega)
    have p5 : (128 : Nat) ^ 5 = 34359738368 := by decide
    have p53 : (2 : Nat) ^ 53 = 9007199254740992 := by decide
    have f1 : floatOfInt .f64 ((c : Int) % 128) = fl (c % 128) := by
      rw [← ofInt_fl, Int.natCast_emod]; rfl
    have f2 : ∀ (t : TypeId) (w : World), (binOp .mul t (.float .f64 (fl (c % 128))) (.float .f64 (fl u))).run Try.prog w = .ok (.float .f64 (fl (c % 128 * u))) w := fun t w =>
      run_float_arith w .mul t .f64 _ _ _ (mul_fl _ _ (by omega) (by omega) (by omega))
    have f3 : ∀ (t : TypeId) (w : World), (binOp .add t (.float .f64 (fl n)) (.float .f64 (fl (c % 128 * u)))).run Try.prog w = .ok (.float .f64 (fl (n + c % 128 * u))) w := fun t w =>
      run_float_arith w .add t .f64 _ _ _ (add_fl _ _ (by omega) (by omega) (by omega))
    have f4 : ∀ (t : TypeId) (w : World), (binOp .mul t (.float .f64 (fl u)) (.float .f64 4638707616191610880)).run Try.prog w = .ok (.float .f64 (fl (u * 128))) w := fun t w => by
      rw [← fl_128]
      exact run_float_arith w .mul t .f64 _ _ _ (mul_fl _ _ (by omega) (by omega) (by omega))
    have f5 : ∀ (w : World), (convert 92 3 (.float .f64 (fl (n + c % 128 * u)))).run Try.prog w = .ok (.int .i64 ((n + c % 128 * u : Nat) : Int)) w := fun w =>
      run_convert_float_int w _ _ .f64 .i64 _ _ (by rw [Try.underlying92]; rfl) Try.underlying3 (intVal_fl _ (by omega))
    clear hdrop hu0 hc p5 p53 hmu
    have HDrop := Lib.hid HD2
    clear HD2 HD
    have Hcn := Lib.hid hcn
    have Hcd := Lib.hid hcd
    clear hcn hcd
    have hk100 : k + 1 ≤ 6 := by omega
    clear hl h6 hpos hlen
    by_cases hbig : 128 ≤ c
    · have t3 : decide (128 ≤ (c : Int)) = true := by simp; omega
      go_wp2
      go_step3
      have e1 : dec (6 - (k + 1)) (xs.drop (k + 1)) (n + c % 128 * u) (u * 128) (k + 1) = get xs := by
        have h := HDrop.out
        rw [dec_on _ _ _ _ _ _ (by rw [Hcn.out]; omega), Hcn.out] at h
        exact h
      have e2 : n + c % 128 * u < 128 ^ (k + 1) ∧ u * 128 = 128 ^ (k + 1) := by
        have h : c % 128 * u ≤ 127 * u := Nat.mul_le_mul_right _ (by omega)
        rw [Nat.pow_succ, ← HU.out]
        omega
      refine ⟨rfl, ⟨rfl, k + 1, n + c % 128 * u, u * 128, _, _, _, _, _, _, _, _, _, _, _, _, _, _, _, _, _, _, _, _, _, _, _, _, _, _, _, _, _, _, _, _, _, _, _, _, _, _, _, _, _, _, _, _, rfl, by omega, by omega, e2.1, e2.2, e1⟩, ?_⟩
      simp [intOf]
      omega
    · have t3 : decide (128 ≤ (c : Int)) = false := by simp; omega
      have hlast := HDrop.out
      rw [dec_last _ _ _ _ _ _ (by rw [Hcn.out]; omega), Hcn.out] at hlast
      have hz : (UInt8.ofNat c = 0) ↔ c = 0 := by
        constructor
        · intro h; have := Hcn.out; rw [h] at this; simpa using this.symm
        · rintro rfl; rfl
      have hmod : ((c : Int) % 128 * (u : Int)) = ((c % 128 * u : Nat) : Int) := by rw [Int.natCast_mul, Int.natCast_emod]; rfl
      by_cases hov : most < n + c % 128 * u
      · have t4 : decide (1099511627776 < (n : Int) + (c : Int) % 128 * (u : Int)) = true := by
          rw [hmod]; simp only [decide_eq_true_eq]; unfold most at hov; omega
        rw [if_pos (.inl hov)] at hlast
        have HF := Lib.hid hlast
        clear hlast hz hmod hov
        go_wp2
        simp only [Exit.jump]
        go_ret3
        rw [← HF.out]
        exact ⟨rfl, rfl⟩
      · have t4 : decide (1099511627776 < (n : Int) + (c : Int) % 128 * (u : Int)) = false := by
          rw [hmod]; simp only [decide_eq_false_iff_not]; unfold most at hov; omega
        by_cases hk0 : k = 0
        · have t5 : ((k : Int) + 1 == 1) = true := by simp; omega
          rw [if_neg (by rintro (h | h); exact hov h; exact h.1 hk0)] at hlast
          have HF := Lib.hid hlast
          clear hlast hz hmod hov hk0
          go_wp2
          simp only [Exit.jump]
          go_ret3
          rw [← HF.out]
          exact ⟨by simp [ans], rfl⟩
        · have t5 : ((k : Int) + 1 == 1) = false := by simp; omega
          by_cases hc0 : c = 0
          · have t6 : ((c : Int) != 0) = false := by simp; omega
            rw [if_pos (.inr ⟨hk0, hz.2 hc0⟩)] at hlast
            have HF := Lib.hid hlast
            clear hlast hz hmod hov hk0 hc0
            go_wp2
            simp only [Exit.jump]
            go_ret3
            rw [← HF.out]
            exact ⟨rfl, rfl⟩
          · have t6 : ((c : Int) != 0) = true := by simp; omega
            rw [if_neg (by rintro (h | h); exact hov h; exact hc0 (hz.1 h.2))] at hlast
            have HF := Lib.hid hlast
            clear hlast hz hmod hov hk0 hc0
            go_wp2
            simp only [Exit.jump]
            go_ret3
            rw [← HF.out]
            exact ⟨by simp [ans], rfl⟩

end Go.Proofs.Ytelilmhnfmojkaa.Num

/- num.Put, and the document's own Put and Bytes, answer a number's bytes as Num.enc says, in memory of their own. Conditions: none; outside of 0 to 2^40 they refuse. -/
namespace Go.Proofs.Ytelilmhnfmojkaa.Num
open Go.RowKit

theorem info_u8 : (Try.prog.info? 5).map (fun i => (i.zero, i.size, i.bytes)) = some (some (.int .u8 0), 1, 1) := by kernel_rfl

/-- The rest of the bytes, as the loop stands. -/
theorem step_lt (m f : Nat) (hm : m < 128 ^ (f + 1)) (h : 128 ≤ m) : ∃ g, f = g + 1 ∧ m / 128 < 128 ^ (g + 1) := by
  cases f with
  | zero => simp at hm; omega
  | succ g => exact ⟨g, rfl, by rw [Nat.pow_succ] at hm; omega⟩

theorem put_no (n : Int) (h : n < 0 ∨ 1099511627776 < n) (w : World) :
    Calls Try.prog 41 #[.int .i64 n] w fun e w' => e = .returned (.tuple #[.slice none 0 0, .int .i64 2]) ∧ w = w' := by
  rcases h with h | h
  · have t1 : decide (n < 0) = true := by simpa using h
    go_enter Try.func41, Try.ntmps41
    go_wp2
    go_ret2
    exact ⟨rfl, rfl⟩
  · have t1 : decide (n < 0) = false := by simp; omega
    have t2 : decide (1099511627776 < n) = true := by simpa using h
    go_enter Try.func41, Try.ntmps41
    go_wp2
    go_ret2
    exact ⟨rfl, rfl⟩

set_option maxHeartbeats 400000 in
theorem put_yes (n : Nat) (h : n ≤ most) (w : World) :
    Calls Try.prog 41 #[.int .i64 (n : Int)] w fun e w' => ∃ v, e = .returned (.tuple #[v, .int .i64 0]) ∧ w'.ownsRow w.heap.size 5 1 v (enc n).length (bs (enc n)) ∧ Below w.heap.size w w' := by
  have hn : (n : Int) ≤ 1099511627776 := by unfold most at h; omega
  have t1 : decide ((n : Int) < 0) = false := by simp
  have t2 : decide (1099511627776 < (n : Int)) = false := by simp; omega
  have h0 := Nat.lt_of_le_of_lt h most_lt
  obtain ⟨i0, hi, hz0, hz1, hz2⟩ := info_parts info_u8
  obtain ⟨B, hB⟩ : ∃ B, B = w.heap.size := ⟨_, rfl⟩
  rw [← hB]
  have HB := Lib.hid hB
  clear hB h
  go_enter Try.func41, Try.ntmps41
  go_wp2
  go_loopw [0, 4] (fun m v wr => ∃ (f k : Nat) (acc : List UInt8), m = .int .i64 (k : Int) ∧ k ≤ 1099511627776 ∧ k < 128 ^ (f + 1) ∧ f ≤ 5 ∧ acc.length + f ≤ 5 ∧ acc ++ encF f k = enc n ∧ wr.ownsRow B 5 1 v acc.length (bs acc) ∧ Below B w wr) (fun m _ _ => (intOf m).toNat)
  case atStart => exact ⟨5, n, [], rfl, by omega, h0, by omega, by simp, rfl, World.ownsRow_nil _ _ _ _, Below.refl _ _⟩
  case round =>
    obtain ⟨f, k, acc, rfl, hk, hkf, hf5, hacc, henc, hown, hbel⟩ := hrel
    have HE := Lib.hid henc
    clear henc
    by_cases hbig : 128 ≤ k
    · have t3 : decide ((128 : Int) ≤ (k : Int)) = true := by simp; omega
      go_wp2_with (at_builtin; refine wpList_append_own _ rfl _ _ 22 rfl B 5 i0 (.int .u8 0) 1 1 Try.underlying22 hi hz0 hz1 hz2 rfl (by decide) _ _ _ rfl (hown.alloc _) ⟨wr.heap.size, 0, none⟩ 1 1 [.int .u8 ((k : Int) % 128 + 128)] rfl rfl ?c1 ?c2 ?c3 ?c4 ?c5 ?_)
      case c1 =>
        intro j u hj
        match j, hj with
        | 0, hj => simp at hj; subst hj; simp [Addr.add]
      case c2 => intro u hu; simp at hu; subst hu; rfl
      case c3 => unfold maxLen; omega
      case c4 => omega
      case c5 => have := hbel.size; have := HB.out; simp; omega
      intro v' w1 hown' hgrow _
      obtain ⟨g, rfl, hk2⟩ := step_lt k f hkf hbig
      have e1 : acc ++ [UInt8.ofNat (k % 128 + 128)] ++ encF g (k / 128) = enc n := by
        rw [← HE.out, encF_big g k (by omega), List.append_assoc]; rfl
      have e2 : bs (acc ++ [UInt8.ofNat (k % 128 + 128)]) = bs acc ++ [.int .u8 ((k : Int) % 128 + 128)] := by
        rw [bs_append, bs_one _ (by omega)]
        rfl
      have e3 : Below B w w1 := (hbel.alloc (by have := hbel.size; have := HB.out; omega) _).grown hgrow (by have := hbel.size; have := HB.out; simp; omega) (fun j hj => (hown.lt j hj).1)
      have E1 := Lib.hid e1
      have E2 := Lib.hid e2
      clear e1 e2 hown hgrow hbel HE
      go_wp2
      go_roundw
      case rel => exact ⟨g, k / 128, acc ++ [UInt8.ofNat (k % 128 + 128)], by go_num, by omega, hk2, by omega, by simp; omega, E1.out, by rw [E2.out]; simpa using hown', e3⟩
      case measure => simp [intOf]; omega
    · have t3 : decide ((128 : Int) ≤ (k : Int)) = false := by simp; omega
      go_wp2_with (at_builtin; refine wpList_append_own _ rfl _ _ 22 rfl B 5 i0 (.int .u8 0) 1 1 Try.underlying22 hi hz0 hz1 hz2 rfl (by decide) _ _ _ rfl (hown.alloc _) ⟨wr.heap.size, 0, none⟩ 1 1 [.int .u8 (k : Int)] rfl rfl ?d1 ?d2 ?d3 ?d4 ?d5 ?_)
      case d1 =>
        intro j u hj
        match j, hj with
        | 0, hj => simp at hj; subst hj; simp [Addr.add]
      case d2 => intro u hu; simp at hu; subst hu; rfl
      case d3 => unfold maxLen; omega
      case d4 => omega
      case d5 => have := hbel.size; have := HB.out; simp; omega
      intro v' w1 hown' hgrow _
      have e1 : enc n = acc ++ [UInt8.ofNat k] := by
        rw [← HE.out, encF_small f k (by omega)]
      have e2 : bs (acc ++ [UInt8.ofNat k]) = bs acc ++ [.int .u8 (k : Int)] := by
        rw [bs_append, bs_one _ (by omega)]
      have e3 : Below B w w1 := (hbel.alloc (by have := hbel.size; have := HB.out; omega) _).grown hgrow (by have := hbel.size; have := HB.out; simp; omega) (fun j hj => (hown.lt j hj).1)
      have E1 := Lib.hid e1
      have E2 := Lib.hid e2
      clear e1 e2 hown hgrow hbel HE
      go_wp2
      go_ret2
      exact ⟨_, rfl, by rw [E1.out, E2.out]; simpa using hown', e3⟩
end Go.Proofs.Ytelilmhnfmojkaa.Num

/- The document's own answers of layer 1: Bytes, Put and Get answer as Num.enc and Num.get say. Conditions: none. -/
namespace Go.Proofs.Ytelilmhnfmojkaa.Num
open Go.RowKit

set_option maxHeartbeats 400000 in
theorem refBytes_any (n : Nat) (h : n ≤ most) (w : World) :
    Calls Try.prog 51 #[.int .i64 (n : Int)] w fun e w' => ∃ v, e = .returned v ∧ w'.ownsRow w.heap.size 5 1 v (enc n).length (bs (enc n)) ∧ Below w.heap.size w w' := by
  have hn : (n : Int) ≤ 1099511627776 := by unfold most at h; omega
  have h0 := Nat.lt_of_le_of_lt h most_lt
  obtain ⟨i0, hi, hz0, hz1, hz2⟩ := info_parts info_u8
  obtain ⟨B, hB⟩ : ∃ B, B = w.heap.size := ⟨_, rfl⟩
  rw [← hB]
  have HB := Lib.hid hB
  clear hB h
  go_enter Try.func51, Try.ntmps51
  go_wp2
  go_loopw [0, 3] (fun m v wr => ∃ (f k : Nat) (acc : List UInt8), m = .int .i64 (k : Int) ∧ k ≤ 1099511627776 ∧ k < 128 ^ (f + 1) ∧ f ≤ 5 ∧ acc.length + f ≤ 5 ∧ acc ++ encF f k = enc n ∧ wr.ownsRow B 5 1 v acc.length (bs acc) ∧ Below B w wr) (fun m _ _ => (intOf m).toNat)
  case atStart => exact ⟨5, n, [], rfl, by omega, h0, by omega, by simp, rfl, World.ownsRow_nil _ _ _ _, Below.refl _ _⟩
  case round =>
    obtain ⟨f, k, acc, rfl, hk, hkf, hf5, hacc, henc, hown, hbel⟩ := hrel
    have HE := Lib.hid henc
    clear henc
    by_cases hbig : 128 ≤ k
    · have t3 : decide ((128 : Int) ≤ (k : Int)) = true := by simp; omega
      go_wp2_with (at_builtin; refine wpList_append_own _ rfl _ _ 22 rfl B 5 i0 (.int .u8 0) 1 1 Try.underlying22 hi hz0 hz1 hz2 rfl (by decide) _ _ _ rfl (hown.alloc _) ⟨wr.heap.size, 0, none⟩ 1 1 [.int .u8 ((k : Int) % 128 + 128)] rfl rfl ?c1 ?c2 ?c3 ?c4 ?c5 ?_)
      case c1 =>
        intro j u hj
        match j, hj with
        | 0, hj => simp at hj; subst hj; simp [Addr.add]
      case c2 => intro u hu; simp at hu; subst hu; rfl
      case c3 => unfold maxLen; omega
      case c4 => omega
      case c5 => have := hbel.size; have := HB.out; simp; omega
      intro v' w1 hown' hgrow _
      obtain ⟨g, rfl, hk2⟩ := step_lt k f hkf hbig
      have e1 : acc ++ [UInt8.ofNat (k % 128 + 128)] ++ encF g (k / 128) = enc n := by
        rw [← HE.out, encF_big g k (by omega), List.append_assoc]; rfl
      have e2 : bs (acc ++ [UInt8.ofNat (k % 128 + 128)]) = bs acc ++ [.int .u8 ((k : Int) % 128 + 128)] := by
        rw [bs_append, bs_one _ (by omega)]
        rfl
      have e3 : Below B w w1 := (hbel.alloc (by have := hbel.size; have := HB.out; omega) _).grown hgrow (by have := hbel.size; have := HB.out; simp; omega) (fun j hj => (hown.lt j hj).1)
      have E1 := Lib.hid e1
      have E2 := Lib.hid e2
      clear e1 e2 hown hgrow hbel HE
      go_wp2
      go_roundw
      case rel => exact ⟨g, k / 128, acc ++ [UInt8.ofNat (k % 128 + 128)], by go_num, by omega, hk2, by omega, by simp; omega, E1.out, by rw [E2.out]; simpa using hown', e3⟩
      case measure => simp [intOf]; omega
    · have t3 : decide ((128 : Int) ≤ (k : Int)) = false := by simp; omega
      go_wp2_with (at_builtin; refine wpList_append_own _ rfl _ _ 22 rfl B 5 i0 (.int .u8 0) 1 1 Try.underlying22 hi hz0 hz1 hz2 rfl (by decide) _ _ _ rfl (hown.alloc _) ⟨wr.heap.size, 0, none⟩ 1 1 [.int .u8 (k : Int)] rfl rfl ?d1 ?d2 ?d3 ?d4 ?d5 ?_)
      case d1 =>
        intro j u hj
        match j, hj with
        | 0, hj => simp at hj; subst hj; simp [Addr.add]
      case d2 => intro u hu; simp at hu; subst hu; rfl
      case d3 => unfold maxLen; omega
      case d4 => omega
      case d5 => have := hbel.size; have := HB.out; simp; omega
      intro v' w1 hown' hgrow _
      have e1 : enc n = acc ++ [UInt8.ofNat k] := by
        rw [← HE.out, encF_small f k (by omega)]
      have e2 : bs (acc ++ [UInt8.ofNat k]) = bs acc ++ [.int .u8 (k : Int)] := by
        rw [bs_append, bs_one _ (by omega)]
      have e3 : Below B w w1 := (hbel.alloc (by have := hbel.size; have := HB.out; omega) _).grown hgrow (by have := hbel.size; have := HB.out; simp; omega) (fun j hj => (hown.lt j hj).1)
      have E1 := Lib.hid e1
      have E2 := Lib.hid e2
      clear e1 e2 hown hgrow hbel HE
      go_wp2
      go_ret
      exact ⟨_, rfl, by rw [E1.out, E2.out]; simpa using hown', e3⟩



set_option maxHeartbeats 400000 in
theorem refGet_nil (ao : Option Addr) (cap : Nat) (w : World) :
    Calls Try.prog 39 #[.slice ao 0 cap] w fun e w' => e = .returned (ans (get [])) ∧ w = w' := by
  go_enter Try.func39, Try.ntmps39
  go_wp2
  refine wp_loop_rounds 1 ?_
  rw [rounds_succ]
  go_wp2
  go_ret3
  exact ⟨rfl, rfl⟩

set_option maxHeartbeats 400000 in
theorem refGet_some (b off cap : Nat) (xs : List UInt8) (hpos : 0 < xs.length) (hlen : xs.length ≤ 9223372036854775807) (w : World)
    (hc : ∀ j, j < xs.length → w.cell? ⟨b, off + j, none⟩ = some (.int .u8 ((xs.getD j 0).toNat : Int))) :
    Calls Try.prog 39 #[.slice (some ⟨b, off, none⟩) xs.length cap] w fun e w' => e = .returned (ans (get xs)) ∧ w = w' := by
  go_enter Try.func39, Try.ntmps39
  go_wp2
  go_loop [5, 6, 7] (fun vn vu vk => ∃ (k n u : Nat), vn = .int .i64 (n : Int) ∧ vu = .int .i64 (u : Int) ∧ vk = .int .i64 (k : Int) ∧ k ≤ 6 ∧ k ≤ xs.length ∧ n < 128 ^ k ∧ u = 128 ^ k ∧ dec (6 - k) (xs.drop k) n u k = get xs) (fun _ _ vk => 6 - (intOf vk).toNat)
  case atStart => exact ⟨0, 0, 1, rfl, rfl, rfl, by omega, by omega, by decide, rfl, rfl⟩
  case round =>
    obtain ⟨k, n, u, rfl, rfl, rfl, hk6, hkl, hn, hu, hdec⟩ := hrel
    have HU : Hid (u = 128 ^ k) := hu
    have HD : Hid (dec (6 - k) (xs.drop k) n u k = get xs) := hdec
    clear hu hdec
    by_cases hl : k = xs.length
    · have t1 : decide (k < xs.length) = false := by simp; omega
      have hfin : get xs = (0, 0, 8) := by
        rw [← HD.out, hl, List.drop_length, dec_end]
      have HF := Lib.hid hfin
      clear hl hc hfin
      go_wp2
      go_ret3
      rw [HF.out]
      exact ⟨rfl, rfl⟩
    have t1 : decide (k < xs.length) = true := by simp; omega
    by_cases h6 : k = 6
    · have hfin : get xs = (0, 0, 8) := by
        rw [← HD.out, h6]; rfl
      have HF := Lib.hid hfin
      have t2 : decide ((k : Int) < 6) = false := by simp; omega
      clear hl hc hfin h6
      go_wp2
      go_ret3
      rw [HF.out]
      exact ⟨rfl, rfl⟩
    have t2 : decide ((k : Int) < 6) = true := by simp; omega
    have hlt : k < xs.length := by omega
    obtain ⟨c, hcd⟩ : ∃ c : Nat, c = (xs.getD k 0).toNat := ⟨_, rfl⟩
    have hcell : w.cell? ⟨b, off + k, none⟩ = some (.int .u8 (c : Int)) := by rw [hcd]; exact hc k hlt
    have hc256 : c < 256 := by rw [hcd]; exact UInt8.toNat_lt _
    have hdrop : xs.drop k = UInt8.ofNat c :: xs.drop (k + 1) := by
      rw [List.drop_eq_getElem_cons hlt, hcd]
      simp [List.getD, List.getElem?_eq_getElem hlt]
    have HD2 := HD.out
    rw [hdrop, show 6 - k = (6 - (k + 1)) + 1 by omega] at HD2
    have hcn : (UInt8.ofNat c).toNat = c := toNat_ofNat c hc256
    have hu0 := HU.out
    have hun : u ≤ 34359738368 := by
      have : u ≤ 128 ^ 5 := by rw [hu0]; exact Nat.pow_le_pow_right (by omega) (by omega)
      exact this
    have hnu : n < u := by rw [hu0]; exact hn
    have hmu : c % 128 * u ≤ 127 * u := Nat.mul_le_mul_right _ (by omega)
    have hmi : ((c : Int) % 128 * (u : Int)) = ((c % 128 * u : Nat) : Int) := by rw [Int.natCast_mul, Int.natCast_emod]; rfl
    have hm0 : 0 ≤ ((c : Int) % 128 * (u : Int)) := by omega
    have hm1 : ((c : Int) % 128 * (u : Int)) ≤ 4363686772736 := by omega
    have hk100 : k + 1 ≤ 6 := by omega
    have HMI := Lib.hid hmi
    have HDrop := Lib.hid HD2
    have Hcn := Lib.hid hcn
    clear hdrop hu0 hc hmu hmi HD2 HD hcn hcd hl h6 hpos hlen
    by_cases hbig : 128 ≤ c
    · have t3 : decide ((c : Int) < 128) = false := by simp; omega
      have e1 : dec (6 - (k + 1)) (xs.drop (k + 1)) (n + c % 128 * u) (u * 128) (k + 1) = get xs := by
        have h := HDrop.out
        rw [dec_on _ _ _ _ _ _ (by rw [Hcn.out]; omega), Hcn.out] at h
        exact h
      have e2 : n + c % 128 * u < 128 ^ (k + 1) ∧ u * 128 = 128 ^ (k + 1) := by
        have h : c % 128 * u ≤ 127 * u := Nat.mul_le_mul_right _ (by omega)
        rw [Nat.pow_succ, ← HU.out]
        omega
      have E1 := Lib.hid e1
      have E2 := Lib.hid e2
      have e4 : Value.int .i64 ((n : Int) + (c : Int) % 128 * (u : Int)) = .int .i64 ((n + c % 128 * u : Nat) : Int) := by
        rw [HMI.out]; simp
      have e5 : Value.int .i64 ((u : Int) * 128) = .int .i64 ((u * 128 : Nat) : Int) := by simp
      have E4 := Lib.hid e4
      have E5 := Lib.hid e5
      clear e1 e2 e4 e5
      go_wp2
      go_round
      case rel => exact ⟨k + 1, n + c % 128 * u, u * 128, E4.out, E5.out, by go_num, by omega, by omega, E2.out.1, E2.out.2, E1.out⟩
      case measure => simp [intOf]; omega
    · have t3 : decide ((c : Int) < 128) = true := by simp; omega
      have hlast := HDrop.out
      rw [dec_last _ _ _ _ _ _ (by rw [Hcn.out]; omega), Hcn.out] at hlast
      have hz : (UInt8.ofNat c = 0) ↔ c = 0 := by
        constructor
        · intro h; have := Hcn.out; rw [h] at this; simpa using this.symm
        · rintro rfl; rfl
      by_cases hov : most < n + c % 128 * u
      · have t4 : decide (1099511627776 < (n : Int) + (c : Int) % 128 * (u : Int)) = true := by
          rw [HMI.out]; simp only [decide_eq_true_eq]; unfold most at hov; omega
        rw [if_pos (.inl hov)] at hlast
        have HF := Lib.hid hlast
        clear hlast hz hov
        go_wp2
        go_ret3
        rw [← HF.out]
        exact ⟨rfl, rfl⟩
      · have t4 : decide (1099511627776 < (n : Int) + (c : Int) % 128 * (u : Int)) = false := by
          rw [HMI.out]; simp only [decide_eq_false_iff_not]; unfold most at hov; omega
        have e4 : ans (n + c % 128 * u, k + 1, 0) = .tuple #[.int .i64 ((n : Int) + (c : Int) % 128 * (u : Int)), .int .i64 ((k : Int) + 1), .int .i64 0] := by
          rw [HMI.out]; simp [ans]
        have E4 := Lib.hid e4
        clear e4
        by_cases hk0 : k = 0
        · have t5 : decide (0 < k) = false := decide_eq_false (by omega)
          rw [if_neg (by rintro (h | h); exact hov h; exact h.1 hk0)] at hlast
          have HF := Lib.hid hlast
          clear hlast hz hov hk0
          go_wp2
          go_ret3
          rw [← HF.out, E4.out]
          exact ⟨rfl, rfl⟩
        · have t5 : decide (0 < k) = true := decide_eq_true (by omega)
          by_cases hc0 : c = 0
          · have t6 : ((c : Int) == 0) = true := by simp; omega
            rw [if_pos (.inr ⟨hk0, hz.2 hc0⟩)] at hlast
            have HF := Lib.hid hlast
            clear hlast hz hov hk0 hc0
            go_wp2
            go_ret3
            rw [← HF.out]
            exact ⟨rfl, rfl⟩
          · have t6 : ((c : Int) == 0) = false := by simp; omega
            rw [if_neg (by rintro (h | h); exact hov h; exact hc0 (hz.1 h.2))] at hlast
            have HF := Lib.hid hlast
            clear hlast hz hov hk0 hc0
            go_wp2
            go_ret3
            rw [← HF.out, E4.out]
            exact ⟨rfl, rfl⟩

end Go.Proofs.Ytelilmhnfmojkaa.Num
