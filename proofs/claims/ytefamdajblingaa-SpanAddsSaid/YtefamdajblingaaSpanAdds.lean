/- The law SpanAdds: its walk. Conditions: the slice's cells are spans. -/
import Derived.Test.YtefamdajblingaaSpanLits
namespace Go.Proofs.Ytefamdajblingaa.Spans
open Go.RowKit
attribute [local go_sem ↓] Go.wp_at_zero Go.wp_at_succ

/-- An answer of no spans. -/
def Nix (c : Int) (w : World) (e : Ending) (w' : World) : Prop :=
  ∃ ao cap, e = .returned (.tuple #[.slice ao 0 cap, .int .i64 c]) ∧ Below w.heap.size w w'
theorem add_nix {l : List Sp} {c : Int} {f t : Nat} (hf : f < 4294967296) (ht : t < 4294967296) (h : adds l f t = ([], c)) (W : World) (v : Value) (hv : Sps W v l) :
    Calls Try.prog 11 #[v, .int .u32 (f : Int), .int .u32 (t : Int)] W (Nix c W) := by
  refine (add_lit hf ht h W v hv).mono ?_
  rintro e w ⟨ao, cap, rfl, o, b⟩
  exact ⟨ao, cap, rfl, b⟩
theorem less_nix {a b : List Sp} {c : Int} (h : lefts a b = ([], c)) (W : World) (v u : Value) (hv : Sps W v a) (hu : Sps W u b) :
    Calls Try.prog 10 #[v, u] W (Nix c W) := by
  refine (less_lit h W v u hv hu).mono ?_
  rintro e w ⟨ao, cap, rfl, o, b⟩
  exact ⟨ao, cap, rfl, b⟩
theorem one_fine {x : Sp} (h : Ok x) : Fine [x] := Fine.cons h (by trivial) (by simp)
theorem one_may {x : Sp} (h : Ok x) : mayB [x] = true := (mayB_iff _).2 ⟨one_fine h, by simp⟩
theorem left_self {l : List Sp} (h : Fine l) : left l l = [] := by
  refine uniq (left_ok h h.all).1 (by trivial) fun n => ?_
  rw [(left_ok h h.all).2]
  constructor
  · intro ⟨a, b⟩; exact absurd a b
  · intro a; exact absurd a (in_nil n)
theorem many_ins {l : List Sp} {x : Sp} (h : Fine l) (hx : Ok x) : many [x] ≤ many (ins l x) := by
  have hL := ins_fine h hx
  have := many_join (del_fine hL hx) (one_fine hx) hL (fun n => ?_) (fun n h => ?_)
  · omega
  · rw [del_in hL hx, in_cons, in_ins h hx]
    have := in_nil n
    by_cases q : x.f ≤ n ∧ n ≤ x.t <;> simp [q, this]
  · obtain ⟨h1, h2⟩ := h
    rw [del_in hL hx] at h1
    rw [in_cons] at h2
    rcases h2 with h2 | h2
    · exact h1.2 h2
    · exact in_nil n h2

set_option maxRecDepth 100000 in
set_option maxHeartbeats 8000000 in
theorem adds_walk (ao0 : Option Addr) (cap0 : Nat) (l0 : List Sp) (f t : Nat) (hf : f < 4294967296) (ht : t < 4294967296) (w : World)
    (hr0 : Sps w (.slice ao0 l0.length cap0) l0) :
    Calls Try.prog 7 #[.slice ao0 l0.length cap0, .int .u32 (f : Int), .int .u32 (t : Int)] w fun e w' => e = .returned (.bool true) ∧ Below w.heap.size w w' := by
  obtain ⟨n0, hn0⟩ : ∃ n, n = l0.length := ⟨_, rfl⟩
  rw [← hn0] at hr0
  rw [← hn0]
  have H0 := Lib.hid hr0
  have N0 := Lib.hid hn0
  have AL := Lib.hid (alive_any w)
  clear hr0 hn0
  by_cases g0 : 300 < n0
  · have t0 : decide ((300 : Int) < (n0 : Int)) = true := decide_eq_true (by omega)
    have u0 : decide (300 < n0) = true := decide_eq_true g0
    go_enter Try.func7, Try.ntmps7
    go_wp2_with fail
    refine AL.out.mono ?_
    rintro e w1 ⟨rfl, b1⟩
    go_wp2
    go_ret
    exact ⟨rfl, b1⟩
  have t0 : decide ((300 : Int) < (n0 : Int)) = false := decide_eq_false (by omega)
  have u0 : decide (300 < n0) = false := decide_eq_false g0
  cases m0 : mayB l0 with
  | false =>
    have A := Lib.hid (add_nix (l := l0) (c := 8) hf ht (by unfold adds; rw [if_neg (by rw [m0]; decide)]))
    go_enter Try.func7, Try.ntmps7
    go_wp2_with fail
    refine (AL.out).mono ?_
    rintro e w1 ⟨rfl, b1⟩
    have HB1 := Lib.hid b1
    clear b1
    go_wp2_with fail
    refine (A.out _ _ (H0.out.keeps HB1.out)).mono ?_
    rintro e w2 ⟨aoz, capz, rfl, b2⟩
    have HB2 := Lib.hid b2
    clear b2
    go_wp2
    go_ret
    exact ⟨rfl, (bt HB1.out HB2.out)⟩
  | true =>
    by_cases hx : Ok (mk f t)
    case neg =>
      have A := Lib.hid (add_nix (l := l0) (c := 2) hf ht (by unfold adds; rw [if_pos m0, if_neg hx]))
      go_enter Try.func7, Try.ntmps7
      go_wp2_with fail
      refine (AL.out).mono ?_
      rintro e w1 ⟨rfl, b1⟩
      have HB1 := Lib.hid b1
      clear b1
      go_wp2_with fail
      refine (A.out _ _ (H0.out.keeps HB1.out)).mono ?_
      rintro e w2 ⟨aoz, capz, rfl, b2⟩
      have HB2 := Lib.hid b2
      clear b2
      go_wp2
      go_ret
      exact ⟨rfl, (bt HB1.out HB2.out)⟩
    case pos =>
      have f0 := ((mayB_iff l0).1 m0).1
      have k0 : l0.length ≤ 300 := by have := N0.out; omega
      have hord : f ≤ t := by have := hx.2.1; rwa [mk_f hf, mk_t ht] at this
      have hmax : t ≤ 1073741824 := by have := hx.2.2; rwa [mk_t ht] at this
      obtain ⟨L, hL⟩ : ∃ L, L = ins l0 (mk f t) := ⟨_, rfl⟩
      have kL : L.length ≤ 301 := by rw [hL]; exact Nat.le_trans (ins_len _ _) (by omega)
      have fL : Fine L := by rw [hL]; exact ins_fine f0 hx
      have mL : mayB L = true := (mayB_iff _).2 ⟨fL, by omega⟩
      have e1 : adds l0 f t = (L, 0) := by unfold adds; rw [if_pos m0, if_pos hx, ← hL]; exact told_few (by omega)
      have e2 : joins l0 [mk f t] = (L, 0) := by rw [joins_few m0 (one_may hx) (by simp; omega), hL]; rfl
      have e3 : lefts L L = ([], 0) := by rw [lefts_few mL mL (by omega), left_self fL]
      have h1 : has L f = true := by
        rw [has_may mL, inB_iff, hL, in_ins f0 hx]
        right; rw [mk_f hf, mk_t ht]; omega
      have h2 : has L t = true := by
        rw [has_may mL, inB_iff, hL, in_ins f0 hx]
        right; rw [mk_f hf, mk_t ht]; omega
      obtain ⟨c, hc⟩ : ∃ c : Nat, c = count L := ⟨_, rfl⟩
      have hcl : (count L : Int) = (c : Int) := by rw [hc]
      have c1 : t - f + 1 ≤ c := by
        have := many_ins f0 hx
        rw [← hL] at this
        rw [hc, count_may mL]
        have h3 : many [mk f t] = t - f + 1 := by show (mk f t).t - (mk f t).f + 1 + 0 = _; rw [mk_f hf, mk_t ht]
        omega
      have A := Lib.hid (add_lit hf ht e1)
      have J := Lib.hid (join_lit e2)
      have E := Lib.hid (less_nix e3)
      have OF : Hid (∀ (W : World) (u : Value), Us W u [f, t] → Calls Try.prog 9 #[u] W fun e w' => ∃ v', e = .returned v' ∧ w'.ownsRow W.heap.size 31 2 v' [mk f t].length (sps [mk f t]) ∧ Below W.heap.size W w') := fun W u h => of_any h (by intro x hx; simp at hx; rcases hx with rfl | rfl <;> assumption) (by simp)
      have S1 := Lib.hid (same_lit (decide_eq_true (rfl : L = L)))
      have F1 := Lib.hid (has_lit h1)
      have F2 := Lib.hid (has_lit h2)
      have K := Lib.hid (count_lit hcl)
      obtain ⟨d, hd⟩ : ∃ d : Nat, d = t - f := ⟨_, rfl⟩
      have w1' : IntKind.u32.wrap ((t : Int) - (f : Int)) = (d : Int) := by
        rw [hd, show (t : Int) - (f : Int) = ((t - f : Nat) : Int) by omega]
        exact IntWalk.u32_in _ (by omega)
      have w2' : IntKind.i64.wrap (d : Int) = (d : Int) := IntWalk.i64_in _ (by omega)
      have w3' : IntKind.i64.wrap ((d : Int) + 1) = (d : Int) + 1 := IntWalk.i64_in _ (by omega)
      have q1 : decide ((c : Int) ≥ (d : Int) + 1) = true := decide_eq_true (by omega)
      have q2 : decide ((d : Int) + 1 ≤ (c : Int)) = true := decide_eq_true (by omega)
      have q3 : decide ((c : Int) < (d : Int) + 1) = false := decide_eq_false (by omega)
      have q4 : (d : Int) + 1 ≤ (c : Int) := by omega
      have q5 : (d : Int) < (c : Int) := by omega
      have q6 : d < c := by omega
      clear hL kL fL mL e1 e2 e3 h1 h2 hc hcl c1 hd f0 k0 hord hmax hx m0 hf ht
      go_enter Try.func7, Try.ntmps7
      go_wp2_with fail
      refine (AL.out).mono ?_
      rintro e w1 ⟨rfl, b1⟩
      have HB1 := Lib.hid b1
      clear b1
      go_wp2_with fail
      refine (A.out _ _ (H0.out.keeps HB1.out)).mono ?_
      rintro e w2 ⟨aox, capx, rfl, o2, b2⟩
      have HB2 := Lib.hid b2
      have Sx := Lib.hid (Sps.own o2)
      clear o2
      clear b2
      go_wp2_with fail
      refine (OF.out _ _ ?_).mono ?_
      · repeat' (first | (refine us_lit _ _ _ _ _ _ ?_ ?_ ?_ ?_; (· rfl); (· rfl); (· decide); (· (simp; done))) | (with_reducible refine Us.alloc ?_ _))
      rintro e w3 ⟨vo, rfl, o3, b3⟩
      have B3 : Below w2.heap.size w2 w3 := by
        refine bt ?_ b3
        repeat' (first | exact Below.refl _ _ | assumption | (with_reducible refine Below.alloc ?_ ?_ _) | exact Nat.le_refl _ | (show (_ : Nat) ≤ _; omega) | (show (_ : Nat) ≤ _; simp; done) | (show (_ : Nat) ≤ _; simp; omega))
      have HB3 := Lib.hid B3
      have So := Lib.hid (Sps.own o3)
      clear b3 B3 o3
      go_wp2_with fail
      refine (J.out _ _ _ (H0.out.keeps (bt HB1.out (bt HB2.out HB3.out))) (So.out.keeps (Below.refl _ _))).mono ?_
      rintro e w4 ⟨aoy, capy, rfl, o4, b4⟩
      have HB4 := Lib.hid b4
      have Sy := Lib.hid (Sps.own o4)
      clear o4
      clear b4
      go_wp2_with fail
      refine (E.out _ _ _ (Sx.out.keeps (bt HB3.out HB4.out)) (Sx.out.keeps (bt HB3.out HB4.out))).mono ?_
      rintro e w5 ⟨aoz, capz, rfl, b5⟩
      have HB5 := Lib.hid b5
      clear b5
      go_wp2_with fail
      refine (S1.out _ _ _ (Sx.out.keeps (bt HB3.out (bt HB4.out HB5.out))) (Sy.out.keeps HB5.out)).mono ?_
      rintro e w6 ⟨rfl, b6⟩
      have HB6 := Lib.hid b6
      clear b6
      go_wp2_with fail
      refine (F1.out _ _ (Sx.out.keeps (bt HB3.out (bt HB4.out (bt HB5.out HB6.out))))).mono ?_
      rintro e w7 ⟨rfl, b7⟩
      have HB7 := Lib.hid b7
      clear b7
      go_wp2_with fail
      refine (F2.out _ _ (Sx.out.keeps (bt HB3.out (bt HB4.out (bt HB5.out (bt HB6.out HB7.out)))))).mono ?_
      rintro e w8 ⟨rfl, b8⟩
      have HB8 := Lib.hid b8
      clear b8
      go_wp2_with fail
      refine (K.out _ _ (Sx.out.keeps (bt HB3.out (bt HB4.out (bt HB5.out (bt HB6.out (bt HB7.out HB8.out))))))).mono ?_
      rintro e w9 ⟨rfl, b9⟩
      have HB9 := Lib.hid b9
      clear b9
      go_wp2
      go_ret
      exact ⟨rfl, (bt HB1.out (bt HB2.out (bt HB3.out (bt HB4.out (bt HB5.out (bt HB6.out (bt HB7.out (bt HB8.out HB9.out))))))))⟩
end Go.Proofs.Ytefamdajblingaa.Spans
