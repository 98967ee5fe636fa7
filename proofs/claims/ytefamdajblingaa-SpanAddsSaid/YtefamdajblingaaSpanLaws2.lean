/- The laws' helpers of layer 7: adds, spoil, alive. Conditions: the slices' cells are numbers, spans. -/
import Derived.Test.YtefamdajblingaaSpanLaws
namespace Go.Proofs.Ytefamdajblingaa.Spans
open Go.RowKit
attribute [local go_sem ↓] Go.wp_at_zero Go.wp_at_succ

theorem Us.alloc {W : World} {v : Value} {l : List Nat} (h : Us W v l) (o : Obj) : Us (W.alloc o) v l := h.keeps ((Below.refl _ _).alloc (Nat.le_refl _) o)
theorem Sps.alloc {W : World} {v : Value} {l : List Sp} (h : Sps W v l) (o : Obj) : Sps (W.alloc o) v l := h.keeps ((Below.refl _ _).alloc (Nat.le_refl _) o)
set_option maxHeartbeats 1000000 in
theorem lawAdds_any {l : List Sp} {ws : List Nat} {f t : Nat} (F T : Int) (hF : (f : Int) = F) (hT : (t : Int) = T) (hf : f < 4294967296) (ht : t < 4294967296) (hb : ∀ x ∈ ws, x < 4294967296) (hw : ws.length ≤ 1000) (h : adds l f t = (pairs ws, 0))
    (w : World) (v u : Value) (hv : Sps w v l) (hu : Us w u ws) :
    Calls Try.prog 30 #[v, .int .u32 F, .int .u32 T, u] w fun e w' => e = .returned (.bool true) ∧ Below w.heap.size w w' := by
  subst hF hT
  have A := Lib.hid (pAdd_any f t hf ht hv)
  rw [h] at A
  simp only at A
  obtain ⟨P, hP⟩ : ∃ P, P = pairs ws := ⟨_, rfl⟩
  rw [← hP] at A
  have HU := Lib.hid hu
  have OF : Hid (∀ W : World, Below w.heap.size w W → Calls Try.prog 9 #[u] W fun e w' => ∃ v', e = .returned v' ∧ w'.ownsRow W.heap.size 31 2 v' P.length (sps P) ∧ Below W.heap.size W w') := fun W hW => by
    rw [hP]; exact of_any (HU.out.keeps hW) hb hw
  clear hv hu h hP
  go_enter Try.func30, Try.ntmps30
  go_wp2_with fail
  refine A.out.mono ?_
  rintro e w1 ⟨ao, cap, rfl, o1, b1⟩
  have S1 := Lib.hid (Sps.own o1)
  have B1 := Lib.hid b1
  clear o1 b1
  go_wp2_with fail
  refine (OF.out _ B1.out).mono ?_
  rintro e w2 ⟨v2, rfl, o2, b2⟩
  have S2 := Lib.hid (Sps.own o2)
  have S12 := Lib.hid (S1.out.keeps b2)
  have B2 := Lib.hid (bt B1.out b2)
  clear o2 b2
  go_wp2_with fail
  refine (same_yes S12.out S2.out).mono ?_
  rintro e w3 ⟨rfl, b3⟩
  have B3 := Lib.hid (bt B2.out b3)
  clear b3
  go_wp2
  go_ret
  exact ⟨rfl, B3.out⟩

/-- The block that a slice is cut from. -/
def blkOf : Value → Option Nat
  | .slice (some a) _ _ => some a.block
  | _ => none
theorem own_at {w : World} {B sz n j : Nat} {e : TypeId} {u : Value} {cs : List Value} (h : w.ownsRow B e sz u n cs) (hj : blkOf u = some j) : B ≤ j ∧ j < w.heap.size := by
  rcases h.2 with ⟨h0, _⟩ | ⟨g, cap, cur, rfl, h1, hg, _⟩
  · rw [h0] at hj; cases hj
  · cases hj; exact ⟨h1, (Array.getElem?_eq_some_iff.1 hg).1⟩
/-- What is cut from another block than what is written. -/
theorem own_other {w w' : World} {B sz n : Nat} {e : TypeId} {u v : Value} {cs : List Value} (h : w.ownsRow B e sz u n cs) (hq : ∀ j, blkOf v ≠ some j → w'.heap[j]? = w.heap[j]?) (hne : ∀ j, blkOf u = some j → blkOf v ≠ some j) : w'.ownsRow B e sz u n cs := by
  refine ⟨h.1, ?_⟩
  rcases h.2 with h0 | ⟨g, cap, cur, rfl, h1, hg, h2⟩
  · exact .inl h0
  · exact .inr ⟨g, cap, cur, rfl, h1, (hq g (hne g rfl)).trans hg, h2⟩
set_option maxHeartbeats 1000000 in
theorem spoil_any {B n : Nat} {v : Value} {cs : List Value} {w : World} (hv : w.ownsRow B 31 2 v n cs) :
    Calls Try.prog 26 #[v] w fun e w' => e = .returned (.tuple #[]) ∧ Below B w w' ∧ ∀ j, blkOf v ≠ some j → w'.heap[j]? = w.heap[j]? := by
  obtain ⟨ao, cap, rfl⟩ := Sees.shape (Sees.own hv)
  have hm : n ≤ 9223372036854775807 := Sees.max (Sees.own hv)
  have HO : Hid (∃ cs, w.ownsRow B 31 2 (.slice ao n cap) n cs) := ⟨_, hv⟩
  clear hv
  go_enter Try.func26, Try.ntmps26
  go_wp2
  go_loopw [2] (fun i wr => ∃ k : Nat, k ≤ n ∧ i = .int .i64 (k : Int) ∧ Hid (∃ cs, wr.ownsRow B 31 2 (.slice ao n cap) n cs) ∧ Hid (Below B w wr) ∧ Hid (∀ j, blkOf (.slice ao n cap) ≠ some j → wr.heap[j]? = w.heap[j]?)) (fun i _ => n - (intOf i).toNat)
  case atStart => exact ⟨0, by omega, rfl, HO, Lib.hid (Below.refl _ _), Lib.hid fun _ _ => rfl⟩
  case round =>
    obtain ⟨k, hk, rfl, ⟨cs, ow⟩, hbel, hoth⟩ := hrel
    by_cases hkn : k < n
    · have q1 : decide (k < n) = true := by simpa using hkn
      obtain ⟨g, rfl⟩ : ∃ g, ao = some ⟨g, 0, none⟩ := by
        rcases ow.2 with ⟨h, _⟩ | ⟨g, c, cur, h, _⟩
        · cases h; omega
        · cases h; exact ⟨g, rfl⟩
      have hg : B ≤ g := by
        rcases ow.2 with ⟨h, _⟩ | ⟨g', c, cur, h, h2, _⟩
        · cases h
        · cases h; exact h2
      have hcs : k * 2 + 1 < cs.length := by have := ow.1; omega
      obtain ⟨u, hu⟩ : ∃ u, cs[k * 2 + 1]? = some u := ⟨_, List.getElem?_eq_getElem hcs⟩
      have xm : wr.cell? ⟨g, k * 2 + 1, none⟩ = some u := by rw [ow.cellAt (k * 2 + 1) (by omega), hu]
      have xf : wr.frozen? ⟨g, k * 2 + 1, none⟩ = false := ow.frozenAt _
      have OW2 : Hid (∃ cs, (wr.setCell ⟨g, k * 2 + 1, none⟩ (.int .u32 7777777)).ownsRow B 31 2 (.slice (some ⟨g, 0, none⟩) n cap) n cs) := ⟨_, (ow.stored (k * 2 + 1) (.int .u32 7777777)).1⟩
      have BW2 : Hid (Below B w (wr.setCell ⟨g, k * 2 + 1, none⟩ (.int .u32 7777777))) := hbel.out.setCell (p := ⟨g, k * 2 + 1, none⟩) hg _
      have QW2 : Hid (∀ j, blkOf (.slice (some ⟨g, 0, none⟩) n cap) ≠ some j → (wr.setCell ⟨g, k * 2 + 1, none⟩ (.int .u32 7777777)).heap[j]? = w.heap[j]?) := fun j hj => (heap_setCell_other _ _ _ _ (fun h => hj (by rw [h]; rfl))).trans (hoth.out j hj)
      have w0 : (0 : Int) ≤ (k : Int) := by omega
      have w1' : (k : Int) < (n : Int) := by omega
      clear hu hcs ow
      go_wp2
      go_roundw
      case rel => exact ⟨k + 1, by omega, by go_num, OW2, BW2, QW2⟩
      case measure => simp [intOf]; omega
    · have q1 : decide (k < n) = false := by simpa using hkn
      clear ow
      go_wp2
      go_end0
      exact ⟨rfl, hbel.out, hoth.out⟩

set_option maxRecDepth 100000 in
set_option maxHeartbeats 4000000 in
theorem alive_any (w : World) :
    Calls Try.prog 13 #[] w fun e w' => e = .returned (.bool true) ∧ Below w.heap.size w w' := by
  have A0 := Lib.hid (lawAdds_any (l := pairs []) (ws := [3, 5]) (f := 3) (t := 5) 3 5 rfl rfl (by decide) (by decide) (by decide) (by decide) (by decide +kernel))
  have A1 := Lib.hid (lawAdds_any (l := pairs [3, 5]) (ws := [3, 6]) (f := 6) (t := 6) 6 6 rfl rfl (by decide) (by decide) (by decide) (by decide) (by decide +kernel))
  have O1 : Hid (∀ (W : World) (u : Value), Us W u [3, 5] → Calls Try.prog 9 #[u] W fun e w' => ∃ v', e = .returned v' ∧ w'.ownsRow W.heap.size 31 2 v' (pairs [3, 5]).length (sps (pairs [3, 5])) ∧ Below W.heap.size W w') := fun W u h => of_any h (by decide) (by decide)
  have A2 := Lib.hid (lawAdds_any (l := pairs [3, 5]) (ws := [3, 5, 8, 9]) (f := 8) (t := 9) 8 9 rfl rfl (by decide) (by decide) (by decide) (by decide) (by decide +kernel))
  have O2 : Hid (∀ (W : World) (u : Value), Us W u [3, 5] → Calls Try.prog 9 #[u] W fun e w' => ∃ v', e = .returned v' ∧ w'.ownsRow W.heap.size 31 2 v' (pairs [3, 5]).length (sps (pairs [3, 5])) ∧ Below W.heap.size W w') := fun W u h => of_any h (by decide) (by decide)
  have A3 := Lib.hid (lawAdds_any (l := pairs [3, 5, 8, 9]) (ws := [3, 9]) (f := 4) (t := 7) 4 7 rfl rfl (by decide) (by decide) (by decide) (by decide) (by decide +kernel))
  have O3 : Hid (∀ (W : World) (u : Value), Us W u [3, 5, 8, 9] → Calls Try.prog 9 #[u] W fun e w' => ∃ v', e = .returned v' ∧ w'.ownsRow W.heap.size 31 2 v' (pairs [3, 5, 8, 9]).length (sps (pairs [3, 5, 8, 9])) ∧ Below W.heap.size W w') := fun W u h => of_any h (by decide) (by decide)
  go_enter Try.func13, Try.ntmps13
  go_wp2_with fail
  refine (A0.out _ _ _ ?_ ?_).mono ?_
  · exact Sps.nil _
  · repeat' (first | (refine us_lit _ _ _ _ _ _ ?_ ?_ ?_ ?_; (· rfl); (· rfl); (· decide); (· (simp; done))) | (with_reducible refine Us.alloc ?_ _))
  rintro e w1 ⟨rfl, b1⟩
  have B1 : Below w.heap.size w w1 := by
    refine bt ?_ b1
    repeat' (first | exact Below.refl _ _ | assumption | (with_reducible refine Below.alloc ?_ ?_ _) | exact Nat.le_refl _ | (show (_ : Nat) ≤ _; omega) | (show (_ : Nat) ≤ _; simp; done) | (show (_ : Nat) ≤ _; simp; omega))
  have HB1 := Lib.hid B1
  clear b1 B1
  go_wp2_with fail
  refine (O1.out _ _ ?_).mono ?_
  · repeat' (first | (refine us_lit _ _ _ _ _ _ ?_ ?_ ?_ ?_; (· rfl); (· rfl); (· decide); (· (simp; done))) | (with_reducible refine Us.alloc ?_ _))
  rintro e w2 ⟨v1, rfl, o2, b2⟩
  have B2 : Below w1.heap.size w1 w2 := by
    refine bt ?_ b2
    repeat' (first | exact Below.refl _ _ | assumption | (with_reducible refine Below.alloc ?_ ?_ _) | exact Nat.le_refl _ | (show (_ : Nat) ≤ _; omega) | (show (_ : Nat) ≤ _; simp; done) | (show (_ : Nat) ≤ _; simp; omega))
  have HB2 := Lib.hid B2
  have S1 := Lib.hid (Sps.own o2)
  clear b2 B2 o2
  go_wp2_with fail
  refine (A1.out _ _ _ ?_ ?_).mono ?_
  · exact Sps.alloc S1.out _
  · repeat' (first | (refine us_lit _ _ _ _ _ _ ?_ ?_ ?_ ?_; (· rfl); (· rfl); (· decide); (· (simp; done))) | (with_reducible refine Us.alloc ?_ _))
  rintro e w3 ⟨rfl, b3⟩
  have B3 : Below w2.heap.size w2 w3 := by
    refine bt ?_ b3
    repeat' (first | exact Below.refl _ _ | assumption | (with_reducible refine Below.alloc ?_ ?_ _) | exact Nat.le_refl _ | (show (_ : Nat) ≤ _; omega) | (show (_ : Nat) ≤ _; simp; done) | (show (_ : Nat) ≤ _; simp; omega))
  have HB3 := Lib.hid B3
  clear b3 B3
  go_wp2_with fail
  refine (O2.out _ _ ?_).mono ?_
  · repeat' (first | (refine us_lit _ _ _ _ _ _ ?_ ?_ ?_ ?_; (· rfl); (· rfl); (· decide); (· (simp; done))) | (with_reducible refine Us.alloc ?_ _))
  rintro e w4 ⟨v2, rfl, o4, b4⟩
  have B4 : Below w3.heap.size w3 w4 := by
    refine bt ?_ b4
    repeat' (first | exact Below.refl _ _ | assumption | (with_reducible refine Below.alloc ?_ ?_ _) | exact Nat.le_refl _ | (show (_ : Nat) ≤ _; omega) | (show (_ : Nat) ≤ _; simp; done) | (show (_ : Nat) ≤ _; simp; omega))
  have HB4 := Lib.hid B4
  have S2 := Lib.hid (Sps.own o4)
  clear b4 B4 o4
  go_wp2_with fail
  refine (A2.out _ _ _ ?_ ?_).mono ?_
  · exact Sps.alloc S2.out _
  · repeat' (first | (refine us_lit _ _ _ _ _ _ ?_ ?_ ?_ ?_; (· rfl); (· rfl); (· decide); (· (simp; done))) | (with_reducible refine Us.alloc ?_ _))
  rintro e w5 ⟨rfl, b5⟩
  have B5 : Below w4.heap.size w4 w5 := by
    refine bt ?_ b5
    repeat' (first | exact Below.refl _ _ | assumption | (with_reducible refine Below.alloc ?_ ?_ _) | exact Nat.le_refl _ | (show (_ : Nat) ≤ _; omega) | (show (_ : Nat) ≤ _; simp; done) | (show (_ : Nat) ≤ _; simp; omega))
  have HB5 := Lib.hid B5
  clear b5 B5
  go_wp2_with fail
  refine (O3.out _ _ ?_).mono ?_
  · repeat' (first | (refine us_lit _ _ _ _ _ _ ?_ ?_ ?_ ?_; (· rfl); (· rfl); (· decide); (· (simp; done))) | (with_reducible refine Us.alloc ?_ _))
  rintro e w6 ⟨v3, rfl, o6, b6⟩
  have B6 : Below w5.heap.size w5 w6 := by
    refine bt ?_ b6
    repeat' (first | exact Below.refl _ _ | assumption | (with_reducible refine Below.alloc ?_ ?_ _) | exact Nat.le_refl _ | (show (_ : Nat) ≤ _; omega) | (show (_ : Nat) ≤ _; simp; done) | (show (_ : Nat) ≤ _; simp; omega))
  have HB6 := Lib.hid B6
  have S3 := Lib.hid (Sps.own o6)
  clear b6 B6 o6
  go_wp2_with fail
  refine (A3.out _ _ _ ?_ ?_).mono ?_
  · exact Sps.alloc S3.out _
  · repeat' (first | (refine us_lit _ _ _ _ _ _ ?_ ?_ ?_ ?_; (· rfl); (· rfl); (· decide); (· (simp; done))) | (with_reducible refine Us.alloc ?_ _))
  rintro e w7 ⟨rfl, b7⟩
  have B7 : Below w6.heap.size w6 w7 := by
    refine bt ?_ b7
    repeat' (first | exact Below.refl _ _ | assumption | (with_reducible refine Below.alloc ?_ ?_ _) | exact Nat.le_refl _ | (show (_ : Nat) ≤ _; omega) | (show (_ : Nat) ≤ _; simp; done) | (show (_ : Nat) ≤ _; simp; omega))
  have HB7 := Lib.hid B7
  clear b7 B7
  go_wp2
  go_ret
  exact ⟨rfl, bt HB1.out (bt HB2.out (bt HB3.out (bt HB4.out (bt HB5.out (bt HB6.out (HB7.out))))))⟩
end Go.Proofs.Ytefamdajblingaa.Spans
