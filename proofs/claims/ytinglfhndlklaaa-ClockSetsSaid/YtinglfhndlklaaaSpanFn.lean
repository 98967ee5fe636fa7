/- octavo/span: what each answers. Conditions: the slices' cells are spans. -/
import Derived.Test.YtinglfhndlklaaaSpanChosen
namespace Go.Proofs.Ytinglfhndlklaaa.Spans
open Go.RowKit Go.Shelf
attribute [local go_sem ↓] Go.wp_at_zero Go.wp_at_succ

theorem pJoin_any {v u : Value} {a b : List Sp} {w : World} (hv : Sps w v a) (hu : Sps w u b) :
    Calls Try.prog 38 #[v, u] w (Done (joins a b).1 (joins a b).2 w) := by
  obtain ⟨L, c, hd⟩ : ∃ L c, joins a b = (L, c) := ⟨_, _, rfl⟩
  rw [hd]
  have C := Lib.hid (chosen_any (ch := fun x y => x || y) (r := both a b) (L := L) (c := c) (enters_of Try.func68 (by kernel_rfl) rfl) joinOne_any hv hu
    (fun h => by unfold joins at hd; rw [if_neg h] at hd; exact ⟨(Prod.mk.inj hd).1.symm, (Prod.mk.inj hd).2.symm⟩)
    (fun h1 h2 => ⟨chosen_both ((mayB_iff a).1 h1).1 ((mayB_iff b).1 h2).1, by unfold joins at hd; rwa [if_pos ⟨h1, h2⟩] at hd⟩))
  simp only
  clear hv hu hd
  go_enter Try.func38, Try.ntmps38
  go_wp2_with fail
  refine C.out.mono ?_
  rintro e w1 ⟨ao, cap, rfl, o1, b1⟩
  have O1 := Lib.hid o1
  clear o1
  go_wp2
  go_ret2
  exact ⟨ao, cap, rfl, O1.out, b1⟩
theorem pLess_any {v u : Value} {a b : List Sp} {w : World} (hv : Sps w v a) (hu : Sps w u b) :
    Calls Try.prog 39 #[v, u] w (Done (lefts a b).1 (lefts a b).2 w) := by
  obtain ⟨L, c, hd⟩ : ∃ L c, lefts a b = (L, c) := ⟨_, _, rfl⟩
  rw [hd]
  have C := Lib.hid (chosen_any (ch := fun x y => x && !y) (r := left a b) (L := L) (c := c) (enters_of Try.func69 (by kernel_rfl) rfl) lessOne_any hv hu
    (fun h => by unfold lefts at hd; rw [if_neg h] at hd; exact ⟨(Prod.mk.inj hd).1.symm, (Prod.mk.inj hd).2.symm⟩)
    (fun h1 h2 => ⟨chosen_left ((mayB_iff a).1 h1).1 ((mayB_iff b).1 h2).1, by unfold lefts at hd; rwa [if_pos ⟨h1, h2⟩] at hd⟩))
  simp only
  clear hv hu hd
  go_enter Try.func39, Try.ntmps39
  go_wp2_with fail
  refine C.out.mono ?_
  rintro e w1 ⟨ao, cap, rfl, o1, b1⟩
  have O1 := Lib.hid o1
  clear o1
  go_wp2
  go_ret2
  exact ⟨ao, cap, rfl, O1.out, b1⟩

theorem mayB_one (f t : Nat) : mayB [mk f t] = decide (Ok (mk f t)) := by
  unfold mayB fineB
  simp
end Go.Proofs.Ytinglfhndlklaaa.Spans
