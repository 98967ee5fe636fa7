/- octavo/span: what each answers. Conditions: the slices' cells are spans. -/
import Derived.Test.YtefamdajblingaaSpanChosen
namespace Go.Proofs.Ytefamdajblingaa.Spans
open Go.RowKit Go.Shelf
attribute [local go_sem ↓] Go.wp_at_zero Go.wp_at_succ

theorem pJoin_any {v u : Value} {a b : List Sp} {w : World} (hv : Sps w v a) (hu : Sps w u b) :
    Calls Try.prog 8 #[v, u] w (Done (joins a b).1 (joins a b).2 w) := by
  obtain ⟨L, c, hd⟩ : ∃ L c, joins a b = (L, c) := ⟨_, _, rfl⟩
  rw [hd]
  have C := Lib.hid (chosen_any (ch := fun x y => x || y) (r := both a b) (L := L) (c := c) (enters_of Try.func28 (by kernel_rfl) rfl) joinOne_any hv hu
    (fun h => by unfold joins at hd; rw [if_neg h] at hd; exact ⟨(Prod.mk.inj hd).1.symm, (Prod.mk.inj hd).2.symm⟩)
    (fun h1 h2 => ⟨chosen_both ((mayB_iff a).1 h1).1 ((mayB_iff b).1 h2).1, by unfold joins at hd; rwa [if_pos ⟨h1, h2⟩] at hd⟩))
  simp only
  clear hv hu hd
  go_enter Try.func8, Try.ntmps8
  go_wp2_with fail
  refine C.out.mono ?_
  rintro e w1 ⟨ao, cap, rfl, o1, b1⟩
  have O1 := Lib.hid o1
  clear o1
  go_wp2
  go_ret2
  exact ⟨ao, cap, rfl, O1.out, b1⟩
theorem pLess_any {v u : Value} {a b : List Sp} {w : World} (hv : Sps w v a) (hu : Sps w u b) :
    Calls Try.prog 10 #[v, u] w (Done (lefts a b).1 (lefts a b).2 w) := by
  obtain ⟨L, c, hd⟩ : ∃ L c, lefts a b = (L, c) := ⟨_, _, rfl⟩
  rw [hd]
  have C := Lib.hid (chosen_any (ch := fun x y => x && !y) (r := left a b) (L := L) (c := c) (enters_of Try.func29 (by kernel_rfl) rfl) lessOne_any hv hu
    (fun h => by unfold lefts at hd; rw [if_neg h] at hd; exact ⟨(Prod.mk.inj hd).1.symm, (Prod.mk.inj hd).2.symm⟩)
    (fun h1 h2 => ⟨chosen_left ((mayB_iff a).1 h1).1 ((mayB_iff b).1 h2).1, by unfold lefts at hd; rwa [if_pos ⟨h1, h2⟩] at hd⟩))
  simp only
  clear hv hu hd
  go_enter Try.func10, Try.ntmps10
  go_wp2_with fail
  refine C.out.mono ?_
  rintro e w1 ⟨ao, cap, rfl, o1, b1⟩
  have O1 := Lib.hid o1
  clear o1
  go_wp2
  go_ret2
  exact ⟨ao, cap, rfl, O1.out, b1⟩

theorem mayB_one (f t : Nat) : mayB [mk f t] = decide (Ok (mk f t)) := by
  unfold mayB fineB
  simp
set_option maxHeartbeats 2000000 in
theorem pAdd_any {v : Value} {l : List Sp} (f t : Nat) (hf : f < 4294967296) (ht : t < 4294967296) {w : World} (hv : Sps w v l) :
    Calls Try.prog 11 #[v, .int .u32 (f : Int), .int .u32 (t : Int)] w (Done (adds l f t).1 (adds l f t).2 w) := by
  have HV := Lib.hid hv
  obtain ⟨L, c, hd⟩ : ∃ L c, adds l f t = (L, c) := ⟨_, _, rfl⟩
  rw [hd]
  simp only
  obtain ⟨k, hk⟩ : ∃ k, chk l = k := ⟨_, rfl⟩
  have M := Lib.hid (pCheck_is hv hk)
  have hmf := mk_f (t := t) hf
  have hmt := mk_t (f := f) ht
  cases hb : mayB l
  · have hk8 : k = 8 := by rw [← hk]; unfold chk; rw [hb]; rfl
    obtain ⟨rfl, rfl⟩ : L = [] ∧ c = 8 := by
      unfold adds at hd
      rw [if_neg (by rw [hb]; simp)] at hd
      exact ⟨(Prod.mk.inj hd).1.symm, (Prod.mk.inj hd).2.symm⟩
    subst hk8
    clear hb hk hd hv hmf hmt
    go_enter Try.func11, Try.ntmps11
    go_wp2_with fail
    refine M.out.mono ?_
    rintro e w1 ⟨rfl, b1⟩
    go_wp2
    go_ret2
    exact ⟨none, 0, rfl, World.ownsRow_nil _ _ _ _, b1⟩
  · have hk0 : k = 0 := by rw [← hk]; unfold chk; rw [hb]; rfl
    subst hk0
    have S1 : Hid (∀ W : World, Sps (W.alloc (.cells #[.int .u32 (f : Int), .int .u32 (t : Int)] 31)) (.slice (some ⟨W.heap.size, 0, none⟩) 1 1) [mk f t]) := fun W => sees_sp (kb_new rfl) (by rw [hmf]) (by rw [hmt])
    obtain ⟨q, hq⟩ : ∃ q, decide (Ok (mk f t)) = q := ⟨_, rfl⟩
    have hmay := mayB_one f t
    rw [hq] at hmay
    have JO : Hid (∀ (W : World) (u : Value), Below w.heap.size w W → Sps W u [mk f t] → Calls Try.prog 8 #[v, u] W (Done (joins l [mk f t]).1 (joins l [mk f t]).2 W)) := fun W u h1 h2 => pJoin_any (HV.out.keeps h1) h2
    have CK : Hid (∀ (W : World) (u : Value), Sps W u [mk f t] → Calls Try.prog 16 #[u] W fun e w' => e = .returned (.int .i64 (if q = true then 0 else 8)) ∧ Below W.heap.size W w') := fun W u h => by
      have := pCheck_any h
      unfold chk at this
      rwa [hmay] at this
    cases q
    · obtain ⟨rfl, rfl⟩ : L = [] ∧ c = 2 := by
        unfold adds at hd
        rw [if_pos hb, if_neg (of_decide_eq_false hq)] at hd
        exact ⟨(Prod.mk.inj hd).1.symm, (Prod.mk.inj hd).2.symm⟩
      simp only [Bool.false_eq_true, if_false] at CK
      clear hb hk hd hv hmf hmt hq hmay JO
      go_enter Try.func11, Try.ntmps11
      go_wp2_with fail
      refine M.out.mono ?_
      rintro e w1 ⟨rfl, b1⟩
      have B1 := Lib.hid b1
      clear b1
      go_wp2_with fail
      refine (CK.out _ _ (S1.out w1)).mono ?_
      rintro e w2 ⟨rfl, b2⟩
      have B2 := Lib.hid ((B1.out.alloc B1.out.size _).trans (b2.mono (by have := B1.out.size; simp; omega)))
      clear b2
      go_wp2
      go_ret2
      exact ⟨none, 0, rfl, World.ownsRow_nil _ _ _ _, B2.out⟩
    · have hjo : joins l [mk f t] = (L, c) := by
        unfold adds at hd
        rw [if_pos hb, if_pos (of_decide_eq_true hq)] at hd
        unfold joins
        rw [if_pos ⟨hb, hmay⟩]
        exact hd
      rw [hjo] at JO
      simp only [if_true] at CK JO
      clear hb hk hd hv hmf hmt hq hmay hjo
      go_enter Try.func11, Try.ntmps11
      go_wp2_with fail
      refine M.out.mono ?_
      rintro e w1 ⟨rfl, b1⟩
      have B1 := Lib.hid b1
      clear b1
      go_wp2_with fail
      refine (CK.out _ _ (S1.out w1)).mono ?_
      rintro e w2 ⟨rfl, b2⟩
      have B2 := Lib.hid ((B1.out.alloc B1.out.size _).trans (b2.mono (by have := B1.out.size; simp; omega)))
      have S2 := Lib.hid ((S1.out w1).keeps b2)
      clear b2
      go_wp2_with fail
      refine (JO.out _ _ B2.out S2.out).mono ?_
      rintro e w3 ⟨ao, cap, rfl, o3, b3⟩
      have O3 := Lib.hid (own_base o3 B2.out.size)
      have B3 := Lib.hid (bt B2.out b3)
      clear o3 b3
      go_wp2
      go_ret2
      exact ⟨ao, cap, rfl, O3.out, B3.out⟩
end Go.Proofs.Ytefamdajblingaa.Spans
