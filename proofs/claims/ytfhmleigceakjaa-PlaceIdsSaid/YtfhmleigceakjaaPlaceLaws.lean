/- The laws' helpers of layer 6: run, of, alive, may; places written out. Conditions: none. -/
import Derived.Test.YtfhmleigceakjaaPlaceCmp
import Derived.Test.YtfhmleigceakjaaPlacePut
namespace Go.Proofs.Ytfhmleigceakjaa.Place
open Go.RowKit Stamp
attribute [local go_sem ↓] Go.wp_at_zero Go.wp_at_succ

/-- A run written out. -/
def lr (t r m : Nat) (h : t < 4294967296 ∧ r < 256 ∧ m < 10000) : Run := ⟨t, r, m, h.1, h.2.1, by omega⟩
theorem run_any (t r m : Int) (w : World) :
    Calls Try.prog 11 #[.int .u32 t, .int .u8 r, .int .i64 m] w fun e w' => e = .returned (.agg #[.int .u32 t, .int .u8 r, .int .i64 m]) ∧ w.alloc (.cells #[.int .u32 t, .int .u8 r, .int .i64 m] 29) = w' := by
  go_enter Try.func11, Try.ntmps11
  go_wp2
  exact bodyPost_ret (v := .agg #[.int .u32 t, .int .u8 r, .int .i64 m]) (by simp [results, Try.results11, go_sem]) rfl ⟨rfl, rfl⟩
theorem of_any (ao : Option Addr) (n cap : Nat) (w : World) :
    Calls Try.prog 10 #[.slice ao n cap] w fun e w' => e = .returned (.slice ao n cap) ∧ w = w' := by
  go_enter Try.func10, Try.ntmps10
  go_wp2
  go_ret
  exact ⟨rfl, rfl⟩
theorem runs_lit (W : World) (l : List Run) (cs : Array Value) (n g : Nat) (h : runs l = cs.toList) (hn : n = l.length) (hl : n ≤ 1000) (hg : W.heap.size = g) : Runs (W.alloc (.cells cs 29)) (.slice (some ⟨g, 0, none⟩) n n) l := by
  subst hg
  have := runs_new W l n hn (by omega) 29 (0, 0)
  rwa [h] at this
theorem Runs.alloc {W : World} {v : Value} {l : List Run} (h : Runs W v l) (o : Obj) : Runs (W.alloc o) v l := h.keeps ((Below.refl _ _).alloc (Nat.le_refl _) o)

/-- What the calls answer at places that are written out. -/
theorem under_lit {l : List Run} {t r : Nat} (T R : Int) (hT : (t : Int) = T) (hR : (r : Int) = R) {ht : t < 4294967296} {hr : r < 256} {l' : List Run} {c : Int} (h : und l ⟨t, r, ht, hr⟩ = (l', c)) (W : World) (v : Value) (hv : Runs W v l) :
    Calls Try.prog 9 #[v, .agg #[.int .u32 T, .int .u8 R]] W (Undone l' c W) := by
  subst hT hR
  have := pUnder_any (a := ⟨t, r, ht, hr⟩) hv
  rwa [h] at this
theorem cmp_lit {p q : List Run} {c : Int} (h : cmp p q = c) (W : World) (a b : Value) (ha : Runs W a p) (hb : Runs W b q) :
    Calls Try.prog 13 #[a, b] W fun e w' => e = .returned (.int .i64 c) ∧ Below W.heap.size W w' := by
  rw [← h]; exact pCompare_any ha hb
theorem beg_lit {p q : List Run} {c : Bool} (h : beg p q = c) (W : World) (a b : Value) (ha : Runs W a p) (hb : Runs W b q) :
    Calls Try.prog 16 #[a, b] W fun e w' => e = .returned (.bool c) ∧ Below W.heap.size W w' := by
  rw [← h]; exact pBegins_any ha hb
theorem rsame_lit {p q : List Run} {c : Bool} (h : decide (p = q) = c) (W : World) (a b : Value) (ha : Runs W a p) (hb : Runs W b q) :
    Calls Try.prog 12 #[a, b] W fun e w' => e = .returned (.bool c) ∧ Below W.heap.size W w' := by
  rw [← h]; exact refSame_any ha hb

theorem lawMay_any {v : Value} {l : List Run} {w : World} (hv : Runs w v l) :
    Calls Try.prog 29 #[v] w fun e w' => e = .returned (.bool (anyB l)) ∧ Below w.heap.size w w' := by
  obtain ⟨ao, cap, rfl⟩ := hv.shape
  obtain ⟨n, hn⟩ : ∃ n, n = l.length := ⟨_, rfl⟩
  obtain ⟨mb, hmb⟩ : ∃ mb, mayB l = mb := ⟨_, rfl⟩
  have M : Hid (Calls Try.prog 14 #[.slice ao l.length cap] w fun e w' => e = .returned (.int .i64 (if mb = true then 0 else 8)) ∧ Below w.heap.size w w') := check_is hv (by unfold chk; rw [hmb])
  have HA : Hid (anyB l = (decide (n = 0) || mb)) := by show _ = _; unfold anyB; rw [hmb, hn]
  rw [← hn] at M ⊢
  rw [HA.out]
  clear hv hmb hn HA
  by_cases h0 : n = 0
  · subst h0
    go_enter Try.func29, Try.ntmps29
    go_wp2
    go_ret
    exact ⟨rfl, Below.refl _ _⟩
  · rw [decide_eq_false h0, Bool.false_or]
    have t1 : ((n : Int) == 0) = false := by simp; omega
    cases mb
    all_goals
      simp only [Bool.false_eq_true, if_false, if_true] at M
      go_enter Try.func29, Try.ntmps29
      go_wp2_with fail
      refine M.out.mono ?_
      rintro e w1 ⟨rfl, b1⟩
      go_wp2
      go_ret
      exact ⟨rfl, b1⟩

set_option maxRecDepth 100000 in
set_option maxHeartbeats 4000000 in
theorem alive_any (w : World) :
    Calls Try.prog 15 #[] w fun e w' => e = .returned (.bool true) ∧ Below w.heap.size w w' := by
  have U1 := Lib.hid (under_lit (t := 3) (r := 0) 3 0 rfl rfl (ht := by decide) (hr := by decide) (l := [lr 1 0 2 (by decide)]) (l' := [lr 1 0 3 (by decide)]) (c := 0) (by decide +kernel))
  have C1 := Lib.hid (cmp_lit (p := [lr 1 0 2 (by decide)]) (q := [lr 1 0 3 (by decide)]) (c := -1) (by decide +kernel))
  have C2 := Lib.hid (cmp_lit (p := [lr 1 0 1 (by decide), lr 5 0 1 (by decide)]) (q := [lr 1 0 1 (by decide), lr 4 1 1 (by decide)]) (c := -1) (by decide +kernel))
  have S1 := Lib.hid (rsame_lit (p := [lr 1 0 3 (by decide)]) (q := [lr 1 0 3 (by decide)]) (c := true) (by decide +kernel))
  go_enter Try.func15, Try.ntmps15
  go_wp2_with (first | (go_at_call 11; (with_reducible refine (run_any _ _ _ _).mono ?_); rintro e w9 ⟨rfl, rfl⟩) | (go_at_call 10; (with_reducible refine (of_any _ _ _ _).mono ?_); rintro e w9 ⟨rfl, rfl⟩))
  refine (U1.out _ _ ?_).mono ?_
  · repeat' (first | exact Runs.nil _ | (refine runs_lit _ _ _ _ _ ?_ ?_ ?_ ?_; (· rfl); (· rfl); (· decide); (· (simp; done))) | (with_reducible refine Runs.alloc ?_ _))
  rintro e w1 ⟨aoA, capA, rfl, o1, b1⟩
  have B1 : Below w.heap.size w w1 := by
    refine bt ?_ b1
    repeat' (first | exact Below.refl _ _ | assumption | (with_reducible refine Below.alloc ?_ ?_ _) | exact Nat.le_refl _ | (show (_ : Nat) ≤ _; omega) | (show (_ : Nat) ≤ _; simp; done) | (show (_ : Nat) ≤ _; simp; omega))
  have HB1 := Lib.hid B1
  have RA := Lib.hid (Runs.own o1)
  clear b1 o1 B1
  go_wp2_with (first | (go_at_call 11; (with_reducible refine (run_any _ _ _ _).mono ?_); rintro e w9 ⟨rfl, rfl⟩) | (go_at_call 10; (with_reducible refine (of_any _ _ _ _).mono ?_); rintro e w9 ⟨rfl, rfl⟩))
  refine (C1.out _ _ _ ?_ ?_).mono ?_
  · repeat' (first | exact Runs.nil _ | (refine runs_lit _ _ _ _ _ ?_ ?_ ?_ ?_; (· rfl); (· rfl); (· decide); (· (simp; done))) | (with_reducible refine Runs.alloc ?_ _))
  · repeat' (first | exact Runs.nil _ | (refine runs_lit _ _ _ _ _ ?_ ?_ ?_ ?_; (· rfl); (· rfl); (· decide); (· (simp; done))) | (with_reducible refine Runs.alloc ?_ _))
  rintro e w2 ⟨rfl, b2⟩
  have B2 : Below w1.heap.size w1 w2 := by
    refine bt ?_ b2
    repeat' (first | exact Below.refl _ _ | assumption | (with_reducible refine Below.alloc ?_ ?_ _) | exact Nat.le_refl _ | (show (_ : Nat) ≤ _; omega) | (show (_ : Nat) ≤ _; simp; done) | (show (_ : Nat) ≤ _; simp; omega))
  have HB2 := Lib.hid B2
  clear b2 B2
  go_wp2_with (first | (go_at_call 11; (with_reducible refine (run_any _ _ _ _).mono ?_); rintro e w9 ⟨rfl, rfl⟩) | (go_at_call 10; (with_reducible refine (of_any _ _ _ _).mono ?_); rintro e w9 ⟨rfl, rfl⟩))
  refine (C2.out _ _ _ ?_ ?_).mono ?_
  · repeat' (first | exact Runs.nil _ | (refine runs_lit _ _ _ _ _ ?_ ?_ ?_ ?_; (· rfl); (· rfl); (· decide); (· (simp; done))) | (with_reducible refine Runs.alloc ?_ _))
  · repeat' (first | exact Runs.nil _ | (refine runs_lit _ _ _ _ _ ?_ ?_ ?_ ?_; (· rfl); (· rfl); (· decide); (· (simp; done))) | (with_reducible refine Runs.alloc ?_ _))
  rintro e w3 ⟨rfl, b3⟩
  have B3 : Below w2.heap.size w2 w3 := by
    refine bt ?_ b3
    repeat' (first | exact Below.refl _ _ | assumption | (with_reducible refine Below.alloc ?_ ?_ _) | exact Nat.le_refl _ | (show (_ : Nat) ≤ _; omega) | (show (_ : Nat) ≤ _; simp; done) | (show (_ : Nat) ≤ _; simp; omega))
  have HB3 := Lib.hid B3
  clear b3 B3
  go_wp2_with (first | (go_at_call 11; (with_reducible refine (run_any _ _ _ _).mono ?_); rintro e w9 ⟨rfl, rfl⟩) | (go_at_call 10; (with_reducible refine (of_any _ _ _ _).mono ?_); rintro e w9 ⟨rfl, rfl⟩))
  refine (S1.out _ _ _ ?_ ?_).mono ?_
  · refine Runs.keeps (Runs.keeps RA.out (bt HB2.out HB3.out)) ?_
    repeat' (first | exact Below.refl _ _ | assumption | (with_reducible refine Below.alloc ?_ ?_ _) | exact Nat.le_refl _ | (show (_ : Nat) ≤ _; omega) | (show (_ : Nat) ≤ _; simp; done) | (show (_ : Nat) ≤ _; simp; omega))
  · repeat' (first | exact Runs.nil _ | (refine runs_lit _ _ _ _ _ ?_ ?_ ?_ ?_; (· rfl); (· rfl); (· decide); (· (simp; done))) | (with_reducible refine Runs.alloc ?_ _))
  rintro e w4 ⟨rfl, b4⟩
  have B4 : Below w3.heap.size w3 w4 := by
    refine bt ?_ b4
    repeat' (first | exact Below.refl _ _ | assumption | (with_reducible refine Below.alloc ?_ ?_ _) | exact Nat.le_refl _ | (show (_ : Nat) ≤ _; omega) | (show (_ : Nat) ≤ _; simp; done) | (show (_ : Nat) ≤ _; simp; omega))
  have HB4 := Lib.hid B4
  clear b4 B4
  go_wp2
  go_ret
  exact ⟨rfl, bt HB1.out (bt HB2.out (bt HB3.out HB4.out))⟩
end Go.Proofs.Ytfhmleigceakjaa.Place
