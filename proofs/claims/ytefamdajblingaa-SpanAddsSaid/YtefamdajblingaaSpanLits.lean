/- octavo/span at answers that are known: each call with its answer given. Conditions: the slices' cells are spans. -/
import Derived.Test.YtefamdajblingaaSpanLaws2
namespace Go.Proofs.Ytefamdajblingaa.Spans
open Go.RowKit

theorem has_lit {l : List Sp} {t : Nat} {c : Bool} (h : has l t = c) (W : World) (v : Value) (hv : Sps W v l) :
    Calls Try.prog 15 #[v, .int .u32 (t : Int)] W fun e w' => e = .returned (.bool c) ∧ Below W.heap.size W w' := by
  rw [← h]; exact pHas_any t hv
theorem chk_lit {l : List Sp} {c : Int} (h : chk l = c) (W : World) (v : Value) (hv : Sps W v l) :
    Calls Try.prog 16 #[v] W fun e w' => e = .returned (.int .i64 c) ∧ Below W.heap.size W w' := by
  rw [← h]; exact pCheck_any hv
theorem count_lit {l : List Sp} {c : Int} (h : (count l : Int) = c) (W : World) (v : Value) (hv : Sps W v l) :
    Calls Try.prog 14 #[v] W fun e w' => e = .returned (.int .i64 c) ∧ Below W.heap.size W w' := by
  rw [← h]; exact pCount_any hv
theorem same_lit {l m : List Sp} {c : Bool} (h : decide (l = m) = c) (W : World) (v u : Value) (hv : Sps W v l) (hu : Sps W u m) :
    Calls Try.prog 25 #[v, u] W fun e w' => e = .returned (.bool c) ∧ Below W.heap.size W w' := by
  rw [← h]; exact pSame_any hv hu
theorem rsame_lit {l m : List Sp} {c : Bool} (h : decide (l = m) = c) (W : World) (v u : Value) (hv : Sps W v l) (hu : Sps W u m) :
    Calls Try.prog 12 #[v, u] W fun e w' => e = .returned (.bool c) ∧ Below W.heap.size W w' := by
  rw [← h]; exact refSame_any hv hu
theorem join_lit {a b L : List Sp} {c : Int} (h : joins a b = (L, c)) (W : World) (v u : Value) (hv : Sps W v a) (hu : Sps W u b) :
    Calls Try.prog 8 #[v, u] W (Done L c W) := by
  have := pJoin_any hv hu
  rwa [h] at this
theorem less_lit {a b L : List Sp} {c : Int} (h : lefts a b = (L, c)) (W : World) (v u : Value) (hv : Sps W v a) (hu : Sps W u b) :
    Calls Try.prog 10 #[v, u] W (Done L c W) := by
  have := pLess_any hv hu
  rwa [h] at this
theorem add_lit {l L : List Sp} {c : Int} {f t : Nat} (hf : f < 4294967296) (ht : t < 4294967296) (h : adds l f t = (L, c)) (W : World) (v : Value) (hv : Sps W v l) :
    Calls Try.prog 11 #[v, .int .u32 (f : Int), .int .u32 (t : Int)] W (Done L c W) := by
  have := pAdd_any f t hf ht hv
  rwa [h] at this

theorem radd_lit {l L : List Sp} {c : Int} {f t : Nat} (hf : f < 4294967296) (ht : t < 4294967296) (h : adds l f t = (L, c)) (W : World) (v : Value) (hv : Sps W v l) :
    Calls Try.prog 19 #[v, .int .u32 (f : Int), .int .u32 (t : Int)] W (Done L c W) := by
  have := refAdd_any f t hf ht hv
  rwa [h] at this
theorem rjoin_lit {a b L : List Sp} {c : Int} (h : joins a b = (L, c)) (W : World) (v u : Value) (hv : Sps W v a) (hu : Sps W u b) :
    Calls Try.prog 20 #[v, u] W (Done L c W) := by
  have := refJoin_any hv hu
  rwa [h] at this
theorem rless_lit {a b L : List Sp} {c : Int} (h : lefts a b = (L, c)) (W : World) (v u : Value) (hv : Sps W v a) (hu : Sps W u b) :
    Calls Try.prog 21 #[v, u] W (Done L c W) := by
  have := refLess_any hv hu
  rwa [h] at this
theorem rhas_lit {l : List Sp} {t : Nat} {c : Bool} (h : has l t = c) (W : World) (v : Value) (hv : Sps W v l) :
    Calls Try.prog 23 #[v, .int .u32 (t : Int)] W fun e w' => e = .returned (.bool c) ∧ Below W.heap.size W w' := by
  rw [← h]; exact refHas_any t hv
theorem rchk_lit {l : List Sp} {c : Int} (h : chk l = c) (W : World) (v : Value) (hv : Sps W v l) :
    Calls Try.prog 22 #[v] W fun e w' => e = .returned (.int .i64 c) ∧ Below W.heap.size W w' := by
  rw [← h]; exact refCheck_any hv
theorem rcount_lit {l : List Sp} {c : Int} (h : (count l : Int) = c) (W : World) (v : Value) (hv : Sps W v l) :
    Calls Try.prog 24 #[v] W fun e w' => e = .returned (.int .i64 c) ∧ Below W.heap.size W w' := by
  rw [← h]; exact refCount_any hv
/-- A slice of the call's own. -/
def Made (l : List Sp) (w : World) (e : Ending) (w' : World) : Prop :=
  ∃ ao cap, e = .returned (.slice ao l.length cap) ∧ w'.ownsRow w.heap.size 31 2 (.slice ao l.length cap) l.length (sps l) ∧ Below w.heap.size w w'
theorem rtwin_lit {l : List Sp} (h : l.length ≤ 1000000) (W : World) (v : Value) (hv : Sps W v l) : Calls Try.prog 17 #[v] W (Made l W) := by
  refine (twin_any hv h).mono ?_
  rintro e w ⟨v', rfl, o, b⟩
  obtain ⟨ao, cap, rfl⟩ := Sees.shape (Sees.own o)
  exact ⟨ao, cap, rfl, o, b⟩
theorem twin_lit {l : List Sp} (h : l.length ≤ 1000000) (W : World) (v : Value) (hv : Sps W v l) : Calls Try.prog 18 #[v] W (Made l W) := by
  refine (pTwin_any hv h).mono ?_
  rintro e w ⟨v', rfl, o, b⟩
  obtain ⟨ao, cap, rfl⟩ := Sees.shape (Sees.own o)
  exact ⟨ao, cap, rfl, o, b⟩
/-- A row that was made later is cut from another block. -/
theorem blk_ne {w1 w3 : World} {B1 B2 n m : Nat} {e : TypeId} {u v : Value} {cs ds : List Value} (hu : w1.ownsRow B1 e 2 u n cs) (hv : w3.ownsRow B2 e 2 v m ds) (h : w1.heap.size ≤ B2) (j : Nat) (hj : blkOf u = some j) : blkOf v ≠ some j := by
  intro hk
  have := (own_at hu hj).2
  have := (own_at hv hk).1
  omega
theorem blk_ne' {w1 w3 : World} {B1 B2 n m : Nat} {e : TypeId} {u v : Value} {cs ds : List Value} (hu : w1.ownsRow B1 e 2 u n cs) (hv : w3.ownsRow B2 e 2 v m ds) (h : w1.heap.size ≤ B2) (j : Nat) (hj : blkOf v = some j) : blkOf u ≠ some j := by
  intro hk
  have := (own_at hu hk).2
  have := (own_at hv hj).1
  omega

/-! ### What sets answer, where they may be -/

theorem told_few {l : List Sp} (h : l.length ≤ 1024) : told l = (l, 0) := by unfold told; rw [if_neg (by omega)]
theorem joins_bad {a b : List Sp} (h : ¬ (mayB a = true ∧ mayB b = true)) : joins a b = ([], 8) := by unfold joins; rw [if_neg h]
theorem lefts_bad {a b : List Sp} (h : ¬ (mayB a = true ∧ mayB b = true)) : lefts a b = ([], 8) := by unfold lefts; rw [if_neg h]
theorem joins_few {a b : List Sp} (ha : mayB a = true) (hb : mayB b = true) (h : a.length + b.length ≤ 1024) : joins a b = (both a b, 0) := by
  unfold joins; rw [if_pos ⟨ha, hb⟩]; exact told_few (Nat.le_trans (both_len b a) h)
theorem lefts_few {a b : List Sp} (ha : mayB a = true) (hb : mayB b = true) (h : a.length + b.length ≤ 1024) : lefts a b = (left a b, 0) := by
  unfold lefts; rw [if_pos ⟨ha, hb⟩]
  exact told_few (Nat.le_trans (left_len ((mayB_iff a).1 ha).1 ((mayB_iff b).1 hb).1.all) h)
theorem both_may {a b : List Sp} (ha : mayB a = true) (hb : mayB b = true) (h : a.length + b.length ≤ 1024) : mayB (both a b) = true :=
  (mayB_iff _).2 ⟨(both_ok ((mayB_iff a).1 ha).1 ((mayB_iff b).1 hb).1.all).1, Nat.le_trans (both_len b a) h⟩
theorem left_may {a b : List Sp} (ha : mayB a = true) (hb : mayB b = true) (h : a.length + b.length ≤ 1024) : mayB (left a b) = true :=
  (mayB_iff _).2 ⟨(left_ok ((mayB_iff a).1 ha).1 ((mayB_iff b).1 hb).1.all).1, Nat.le_trans (left_len ((mayB_iff a).1 ha).1 ((mayB_iff b).1 hb).1.all) h⟩
theorem has_may {l : List Sp} (h : mayB l = true) (t : Nat) : has l t = inB l t := by unfold has; rw [h]; rfl
theorem chk_may {l : List Sp} (h : mayB l = true) : chk l = 0 := by unfold chk; rw [if_pos h]
theorem chk_bad {l : List Sp} (h : mayB l = false) : chk l = 8 := by unfold chk; rw [h]; rfl
theorem count_may {l : List Sp} (h : mayB l = true) : count l = many l := by unfold count; rw [if_pos h]
theorem has_both {a b : List Sp} (ha : mayB a = true) (hb : mayB b = true) (h : a.length + b.length ≤ 1024) (t : Nat) : has (both a b) t = (has a t || has b t) := by
  rw [has_may (both_may ha hb h), has_may ha, has_may hb, Bool.eq_iff_iff, Bool.or_eq_true, inB_iff, inB_iff, inB_iff]
  exact (both_ok ((mayB_iff a).1 ha).1 ((mayB_iff b).1 hb).1.all).2 t
theorem has_left {a b : List Sp} (ha : mayB a = true) (hb : mayB b = true) (h : a.length + b.length ≤ 1024) (t : Nat) : has (left a b) t = (has a t && !has b t) := by
  rw [has_may (left_may ha hb h), has_may ha, has_may hb, Bool.eq_iff_iff, Bool.and_eq_true, Bool.not_eq_true', inB_iff, inB_iff]
  have := (left_ok ((mayB_iff a).1 ha).1 ((mayB_iff b).1 hb).1.all).2 t
  rw [this, ← inB_iff b t]
  simp
end Go.Proofs.Ytefamdajblingaa.Spans
