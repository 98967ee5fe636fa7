/- octavo/bag.Check: what it answers. Conditions: the slice's cells are operations. -/
import Derived.Deep.DrawnRows
import Derived.Deep.RegionHeld3
import Derived.Test.YtdackenaknieaaaGreatPk06
import Derived.Test.YtdackenaknieaaaGreatPk02
import Derived.Test.YtdackenaknieaaaGreatPk05
import Derived.Test.YtdackenaknieaaaGreatPk07

namespace Go.Proofs.YtdackenaknieaaaGreat.Bags
open Go.RowKit Go.WideShapes Stamp Go.Proofs.YtdackenaknieaaaGreat.Place Ops Codes
attribute [local go_sem ↓] Go.wp_at_zero Go.wp_at_succ
attribute [local go_sem] yielded_undef

theorem chkL_no {l : List Opn} (h : ¬ Bag l) : chkL l = 8 := by unfold chkL; rw [bagB_no h]; rfl
theorem chkL_yes {l : List Opn} (h : Bag l) : chkL l = 0 := by unfold chkL; rw [(bagB_iff l).2 h]; rfl

set_option maxRecDepth 100000 in
set_option maxHeartbeats 16000000 in
theorem bCheck_any {v : Value} {l : List Opn} {w : World} (hv : OpL w v l) :
    Calls Tryz.prog 55 #[v] w fun e w' => e = .returned (.int .i64 (chkL l)) ∧ Below w.heap.size w w' := by
  obtain ⟨ao, cap, rfl⟩ := hv.shape
  obtain ⟨n, hn⟩ : ∃ n, n = l.length := ⟨_, rfl⟩
  have hmx : n ≤ 9223372036854775807 := by rw [hn]; exact hv.max
  have HV : Hid (∀ W : World, Below w.heap.size w W → OpL W (.slice ao l.length cap) l) := fun W h => hv.keeps h
  have HN := Lib.hid hn
  obtain ⟨q, hq⟩ : ∃ q, chkL l = q := ⟨_, rfl⟩
  have QN : Hid (¬ Bag l → q = 8) := fun h => by rw [← hq]; exact chkL_no h
  have QY : Hid (Bag l → q = 0) := fun h => by rw [← hq]; exact chkL_yes h
  rw [hq, ← hn]
  clear hv hn hq
  have B0 : Hid (Below w.heap.size w w) := Below.refl _ _
  go_enter Tryz.func55, Tryz.ntmps55
  by_cases hbig : 1024 < n
  · have q1 : decide (1024 < n) = true := decide_eq_true hbig
    have q2 : decide (1024 < (n : Int)) = true := decide_eq_true (by omega)
    obtain rfl : q = 8 := QN.out (fun h => by have := h.1; have := HN.out; omega)
    go_wp2
    go_ret
    exact ⟨rfl, B0.out⟩
  have q1 : decide (1024 < n) = false := decide_eq_false hbig
  have q2 : decide (1024 < (n : Int)) = false := decide_eq_false (by omega)
  go_wp2
  go_loopw [10] (fun i wr => ∃ j : Nat, j ≤ n ∧ i = .int .i64 (j : Int) ∧ Hid (∀ k (h : k < l.length), k < j → mayO (l[k]'h) = true) ∧ Hid (∀ k (h : k + 1 < l.length), k + 1 < j → lessO (l[k]'(by omega)) (l[k + 1]'h)) ∧ Hid (Below w.heap.size w wr)) (fun i _ => n - (intOf i).toNat)
  case atStart => exact ⟨0, by omega, rfl, fun k h hk => by omega, fun k h hk => by omega, B0⟩
  case round =>
    clear B0
    obtain ⟨j, hj, rfl, hmay, hless, hbel⟩ := hrel
    by_cases hjn : j < n
    rotate_left
    · have q3 : decide (j < n) = false := by simpa using hjn
      obtain rfl : q = 0 := QY.out (by
        refine ⟨by have := HN.out; omega, fun o ho => ?_, pw_adj (fun k h => hless.out k h (by have := HN.out; omega))⟩
        obtain ⟨i, hi, rfl⟩ := List.getElem_of_mem ho
        exact hmay.out i hi (by have := HN.out; omega))
      go_wp2
      go_ret
      exact ⟨rfl, hbel.out⟩
    have q3 : decide (j < n) = true := by simpa using hjn
    have q4 : (0 : Int) ≤ (j : Int) := by omega
    have q5 : (j : Int) < (n : Int) := by omega
    have hjl : j < l.length := by rw [← HN.out]; exact hjn
    obtain ⟨bb, oo, u, e, hbb, hru, h0, h1, h2, h3, h4⟩ := opl_at (HV.out wr hbel.out) j hjl
    subst e
    obtain ⟨x, hx⟩ : ∃ x, x = l[j]'hjl := ⟨_, rfl⟩
    rw [← hx] at hru h0 h1 h2 h4
    have HO : Hid (∀ v : Value, opv x v = .agg #[.int .u8 (x.k : Int), .int .u32 (x.t : Int), .int .u8 (x.r : Int), v, .int .i64 x.p]) := fun v => rfl
    obtain ⟨uo, uc, rfl⟩ := hru.shape
    obtain ⟨nu, hnu⟩ : ∃ n, n = x.pl.length := ⟨_, rfl⟩
    have HNU := Lib.hid hnu
    rw [← hnu] at hru h3
    clear hnu
    have MA : Hid (∀ W : World, Below wr.heap.size wr W → Calls Tryz.prog 47 #[opv x (.slice uo nu uc)] W fun e w' => e = .returned (.int .i64 (chkO x)) ∧ Below W.heap.size W w') := fun W h => oCheck_any (hru.keeps h)
    have HJ := Lib.hid hjl
    have HX : Hid (x = l[j]'hjl) := hx
    have LX : Hid (∀ (i : Nat) (hi : i + 1 = j) (W : World) (y : Opn), y = l[i]'(by omega) → Calls Tryz.prog 96 #[.agg #[.int .u32 (y.t : Int), .int .u8 (y.r : Int)], .agg #[.int .u32 (x.t : Int), .int .u8 (x.r : Int)]] W fun e w' => e = .returned (.bool (decide (lessO y x))) ∧ Below W.heap.size W w') := fun i hi W y hy => by
      have := less_any y.t y.r x.t x.r y.ht y.hr x.ht x.hr W
      rwa [show less y.t y.r x.t x.r = decide (lessO y x) from rfl] at this
    obtain ⟨my, hmy⟩ : ∃ b, mayO x = b := ⟨_, rfl⟩
    unfold chkO at MA
    rw [hmy] at MA
    have HMY := Lib.hid hmy
    clear hmy hx
    obtain ⟨k, hk⟩ : ∃ z, x.k = z := ⟨_, rfl⟩
    obtain ⟨t, ht⟩ : ∃ z, x.t = z := ⟨_, rfl⟩
    obtain ⟨r, hr⟩ : ∃ z, x.r = z := ⟨_, rfl⟩
    obtain ⟨p, hp⟩ : ∃ z, x.p = z := ⟨_, rfl⟩
    rw [hk, ht, hr, hp] at HO
    rw [hk] at h0
    rw [ht] at h1
    rw [hr] at h2
    rw [hp] at h4
    simp only [HO.out] at MA
    rw [ht, hr] at LX
    have BL : Hid (Below wr.heap.size wr (wr.alloc (.cells #[.int .u8 (k : Int), .int .u32 (t : Int), .int .u8 (r : Int), .slice uo nu uc, .int .i64 p] 31))) := (Below.refl _ _).alloc (Nat.le_refl _) _
    have SK : Hid (∀ w' : World, Below (wr.alloc (.cells #[.int .u8 (k : Int), .int .u32 (t : Int), .int .u8 (r : Int), .slice uo nu uc, .int .i64 p] 31)).heap.size (wr.alloc (.cells #[.int .u8 (k : Int), .int .u32 (t : Int), .int .u8 (r : Int), .slice uo nu uc, .int .i64 p] 31)) w' → Below (wr.alloc (.cells #[.int .u8 (k : Int), .int .u32 (t : Int), .int .u8 (r : Int), .slice uo nu uc, .int .i64 p] 31)).heap.size (wr.alloc (.cells #[.int .u8 (k : Int), .int .u32 (t : Int), .int .u8 (r : Int), .slice uo nu uc, .int .i64 p] 31)) w' ∧ w'.cell? ⟨wr.heap.size, 0, none⟩ = some (.int .u8 (k : Int)) ∧ w'.cell? ⟨wr.heap.size, 1, none⟩ = some (.int .u32 (t : Int)) ∧ w'.cell? ⟨wr.heap.size, 2, none⟩ = some (.int .u8 (r : Int)) ∧ w'.cell? ⟨wr.heap.size, 3, none⟩ = some (.slice uo nu uc) ∧ w'.cell? ⟨wr.heap.size, 4, none⟩ = some (.int .i64 p)) := fun W h => ⟨h, five_cells h⟩
    have SZ : wr.heap.size = wr.heap.size := rfl
    clear hk ht hr hp HO SZ
    cases my
    · obtain rfl : q = 8 := QN.out (fun h => by have := h.2.1 x (by rw [HX.out]; exact List.getElem_mem _); rw [HMY.out] at this; cases this)
      rw [if_neg (by simp)] at MA
      go_wp2
      refine wp_region_held_drew (S := fun w' => Below (wr.alloc (.cells #[.int .u8 (k : Int), .int .u32 (t : Int), .int .u8 (r : Int), .slice uo nu uc, .int .i64 p] 31)).heap.size (wr.alloc (.cells #[.int .u8 (k : Int), .int .u32 (t : Int), .int .u8 (r : Int), .slice uo nu uc, .int .i64 p] 31)) w' ∧ w'.cell? ⟨wr.heap.size, 0, none⟩ = some (.int .u8 (k : Int)) ∧ w'.cell? ⟨wr.heap.size, 1, none⟩ = some (.int .u32 (t : Int)) ∧ w'.cell? ⟨wr.heap.size, 2, none⟩ = some (.int .u8 (r : Int)) ∧ w'.cell? ⟨wr.heap.size, 3, none⟩ = some (.slice uo nu uc) ∧ w'.cell? ⟨wr.heap.size, 4, none⟩ = some (.int .i64 p)) (by kernel_rfl) (SK.out _ (drew1 _)) (fun hHeld => ?_)
      refine wpAnyH_take (i := 0) (v := ?va0) rfl (by kernel_rfl) (by kernel_rfl) (by kernel_rfl) (fun _ _ _ h => h) (Or.inl ⟨by rfl, ?ya0⟩) (by assumption) ?_
      case ya0 => intro w hSw; (try dsimp only at hSw); go_simp <;> with_reducible rfl
      try simp only [List.getElem_toArray, List.getElem_cons_zero, Act.put, List.setIfInBounds_toArray, List.set_cons_zero, List.set_cons_succ]
      refine wpAnyH_ready (rs := [1]) (by kernel_rfl) (by simp) ?_
      refine AllReadyH.cons rfl (fun K hK => ?_) ?za1
      case za1 => exact AllReadyH.nil
      go_simp
      refine (MA.out _ (bt BL.out hHeld.1)).mono ?_
      rintro e w9a1 ⟨rfl, b9⟩
      refine hK.out _ _ (SK.out _ (bt hHeld.1 b9)) (fun hNew => ?_)
      clear hHeld
      have hHeld := hNew
      clear hNew hK K
      try simp only [List.getElem_toArray, List.getElem_cons_succ, List.getElem_cons_zero, Act.put, List.setIfInBounds_toArray, List.set_cons_zero, List.set_cons_succ]
      refine wpAnyH_take (i := 2) (v := ?va2) rfl (by kernel_rfl) (by kernel_rfl) (by kernel_rfl) (fun _ _ _ h => h) (Or.inl ⟨by rfl, ?ya2⟩) (by assumption) ?_
      case ya2 => intro w hSw; (try dsimp only at hSw); go_simp <;> with_reducible rfl
      try simp only [List.getElem_toArray, List.getElem_cons_succ, List.getElem_cons_zero, Act.put, List.setIfInBounds_toArray, List.set_cons_zero, List.set_cons_succ]
      refine wpAnyH_take (i := 3) (v := ?va3) rfl (by kernel_rfl) (by kernel_rfl) (by kernel_rfl) (fun _ _ _ h => h) (Or.inl ⟨by rfl, ?ya3⟩) (by assumption) ?_
      case ya3 => intro w hSw; (try dsimp only at hSw); go_simp <;> with_reducible rfl
      try simp only [List.getElem_toArray, List.getElem_cons_succ, List.getElem_cons_zero, Act.put, List.setIfInBounds_toArray, List.set_cons_zero, List.set_cons_succ]
      refine wpAnyH_take (i := 4) (v := undef) rfl (by kernel_rfl) (by kernel_rfl) (by kernel_rfl) (fun _ _ _ h => h) (Or.inr ⟨by rfl, rfl⟩) (by assumption) ?_
      try simp only [List.getElem_toArray, List.getElem_cons_succ, List.getElem_cons_zero, Act.put, List.setIfInBounds_toArray, List.set_cons_zero, List.set_cons_succ]
      refine wpAnyH_take (i := 5) (v := undef) rfl (by kernel_rfl) (by kernel_rfl) (by kernel_rfl) (fun _ _ _ h => h) (Or.inr ⟨by rfl, rfl⟩) (by assumption) ?_
      try simp only [List.getElem_toArray, List.getElem_cons_succ, List.getElem_cons_zero, Act.put, List.setIfInBounds_toArray, List.set_cons_zero, List.set_cons_succ]
      refine wpAnyH_take (i := 6) (v := undef) rfl (by kernel_rfl) (by kernel_rfl) (by kernel_rfl) (fun _ _ _ h => h) (Or.inr ⟨by rfl, rfl⟩) (by assumption) ?_
      try simp only [List.getElem_toArray, List.getElem_cons_succ, List.getElem_cons_zero, Act.put, List.setIfInBounds_toArray, List.set_cons_zero, List.set_cons_succ]
      refine wpAnyH_take (i := 7) (v := undef) rfl (by kernel_rfl) (by kernel_rfl) (by kernel_rfl) (fun _ _ _ h => h) (Or.inr ⟨by rfl, rfl⟩) (by assumption) ?_
      try simp only [List.getElem_toArray, List.getElem_cons_succ, List.getElem_cons_zero, Act.put, List.setIfInBounds_toArray, List.set_cons_zero, List.set_cons_succ]
      refine wpAnyH_take (i := 8) (v := undef) rfl (by kernel_rfl) (by kernel_rfl) (by kernel_rfl) (fun _ _ _ h => h) (Or.inr ⟨by rfl, rfl⟩) (by assumption) ?_
      try simp only [List.getElem_toArray, List.getElem_cons_succ, List.getElem_cons_zero, Act.put, List.setIfInBounds_toArray, List.set_cons_zero, List.set_cons_succ]
      refine wpAnyH_take (i := 9) (v := undef) rfl (by kernel_rfl) (by kernel_rfl) (by kernel_rfl) (fun _ _ _ h => h) (Or.inr ⟨by rfl, rfl⟩) (by assumption) ?_
      try simp only [List.getElem_toArray, List.getElem_cons_succ, List.getElem_cons_zero, Act.put, List.setIfInBounds_toArray, List.set_cons_zero, List.set_cons_succ]
      refine wpAnyH_take (i := 10) (v := undef) rfl (by kernel_rfl) (by kernel_rfl) (by kernel_rfl) (fun _ _ _ h => h) (Or.inr ⟨by rfl, rfl⟩) (by assumption) ?_
      try simp only [List.getElem_toArray, List.getElem_cons_succ, List.getElem_cons_zero, Act.put, List.setIfInBounds_toArray, List.set_cons_zero, List.set_cons_succ]
      refine wpAnyH_take (i := 11) (v := undef) rfl (by kernel_rfl) (by kernel_rfl) (by kernel_rfl) (fun _ _ _ h => h) (Or.inr ⟨by rfl, rfl⟩) (by assumption) ?_
      try simp only [List.getElem_toArray, List.getElem_cons_succ, List.getElem_cons_zero, Act.put, List.setIfInBounds_toArray, List.set_cons_zero, List.set_cons_succ]
      refine wpAnyH_take (i := 12) (v := undef) rfl (by kernel_rfl) (by kernel_rfl) (by kernel_rfl) (fun _ _ _ h => h) (Or.inr ⟨by rfl, rfl⟩) (by assumption) ?_
      try simp only [List.getElem_toArray, List.getElem_cons_succ, List.getElem_cons_zero, Act.put, List.setIfInBounds_toArray, List.set_cons_zero, List.set_cons_succ]
      refine wpAnyH_take (i := 13) (v := undef) rfl (by kernel_rfl) (by kernel_rfl) (by kernel_rfl) (fun _ _ _ h => h) (Or.inr ⟨by rfl, rfl⟩) (by assumption) ?_
      try simp only [List.getElem_toArray, List.getElem_cons_succ, List.getElem_cons_zero, Act.put, List.setIfInBounds_toArray, List.set_cons_zero, List.set_cons_succ]
      refine wpAnyH_take (i := 14) (v := undef) rfl (by kernel_rfl) (by kernel_rfl) (by kernel_rfl) (fun _ _ _ h => h) (Or.inr ⟨by rfl, rfl⟩) (by assumption) ?_
      try simp only [List.getElem_toArray, List.getElem_cons_succ, List.getElem_cons_zero, Act.put, List.setIfInBounds_toArray, List.set_cons_zero, List.set_cons_succ]
      refine wpAnyH_take (i := 15) (v := undef) rfl (by kernel_rfl) (by kernel_rfl) (by kernel_rfl) (fun _ _ _ h => h) (Or.inr ⟨by rfl, rfl⟩) (by assumption) ?_
      try simp only [List.getElem_toArray, List.getElem_cons_succ, List.getElem_cons_zero, Act.put, List.setIfInBounds_toArray, List.set_cons_zero, List.set_cons_succ]
      refine wpAnyH_take (i := 16) (v := undef) rfl (by kernel_rfl) (by kernel_rfl) (by kernel_rfl) (fun _ _ _ h => h) (Or.inr ⟨by rfl, rfl⟩) (by assumption) ?_
      try simp only [List.getElem_toArray, List.getElem_cons_succ, List.getElem_cons_zero, Act.put, List.setIfInBounds_toArray, List.set_cons_zero, List.set_cons_succ]
      refine wpAnyH_take (i := 17) (v := undef) rfl (by kernel_rfl) (by kernel_rfl) (by kernel_rfl) (fun _ _ _ h => h) (Or.inr ⟨by rfl, rfl⟩) (by assumption) ?_
      try simp only [List.getElem_toArray, List.getElem_cons_succ, List.getElem_cons_zero, Act.put, List.setIfInBounds_toArray, List.set_cons_zero, List.set_cons_succ]
      refine wpAnyH_take (i := 18) (v := ?va18) rfl (by kernel_rfl) (by kernel_rfl) (by kernel_rfl) (fun _ _ _ h => h) (Or.inl ⟨by rfl, ?ya18⟩) (by assumption) ?_
      case ya18 => intro w hSw; (try dsimp only at hSw); go_simp <;> with_reducible rfl
      try simp only [List.getElem_toArray, List.getElem_cons_succ, List.getElem_cons_zero, Act.put, List.setIfInBounds_toArray, List.set_cons_zero, List.set_cons_succ]
      refine wpAnyH_done (by kernel_rfl) ?_ _
      go_wp2
      go_ret
      exact ⟨rfl, bt hbel.out (bt BL.out hHeld.1)⟩
    rw [if_pos rfl] at MA
    have MJ : Hid (∀ k (h : k < l.length), k < j + 1 → mayO (l[k]'h) = true) := fun i h hi => by
      by_cases e : i = j
      · subst e; rw [← HX.out]; exact HMY.out
      · exact hmay.out i h (by omega)
    by_cases hj0 : j = 0
    · have q8 : decide (0 < (j : Int)) = false := decide_eq_false (by omega)
      have q9 : decide (0 < j) = false := decide_eq_false (by omega)
      have LJ : Hid (∀ k (h : k + 1 < l.length), k + 1 < j + 1 → lessO (l[k]'(by omega)) (l[k + 1]'h)) := fun k h hk => by omega
      clear hj0
      go_wp2
      refine wp_region_held_drew (S := fun w' => Below (wr.alloc (.cells #[.int .u8 (k : Int), .int .u32 (t : Int), .int .u8 (r : Int), .slice uo nu uc, .int .i64 p] 31)).heap.size (wr.alloc (.cells #[.int .u8 (k : Int), .int .u32 (t : Int), .int .u8 (r : Int), .slice uo nu uc, .int .i64 p] 31)) w' ∧ w'.cell? ⟨wr.heap.size, 0, none⟩ = some (.int .u8 (k : Int)) ∧ w'.cell? ⟨wr.heap.size, 1, none⟩ = some (.int .u32 (t : Int)) ∧ w'.cell? ⟨wr.heap.size, 2, none⟩ = some (.int .u8 (r : Int)) ∧ w'.cell? ⟨wr.heap.size, 3, none⟩ = some (.slice uo nu uc) ∧ w'.cell? ⟨wr.heap.size, 4, none⟩ = some (.int .i64 p)) (by kernel_rfl) (SK.out _ (drew1 _)) (fun hHeld => ?_)
      refine wpAnyH_take (i := 0) (v := ?vb0) rfl (by kernel_rfl) (by kernel_rfl) (by kernel_rfl) (fun _ _ _ h => h) (Or.inl ⟨by rfl, ?yb0⟩) (by assumption) ?_
      case yb0 => intro w hSw; (try dsimp only at hSw); go_simp <;> with_reducible rfl
      try simp only [List.getElem_toArray, List.getElem_cons_zero, Act.put, List.setIfInBounds_toArray, List.set_cons_zero, List.set_cons_succ]
      refine wpAnyH_ready (rs := [1]) (by kernel_rfl) (by simp) ?_
      refine AllReadyH.cons rfl (fun K hK => ?_) ?zb1
      case zb1 => exact AllReadyH.nil
      go_simp
      refine (MA.out _ (bt BL.out hHeld.1)).mono ?_
      rintro e w9b1 ⟨rfl, b9⟩
      refine hK.out _ _ (SK.out _ (bt hHeld.1 b9)) (fun hNew => ?_)
      clear hHeld
      have hHeld := hNew
      clear hNew hK K
      try simp only [List.getElem_toArray, List.getElem_cons_succ, List.getElem_cons_zero, Act.put, List.setIfInBounds_toArray, List.set_cons_zero, List.set_cons_succ]
      refine wpAnyH_take (i := 2) (v := ?vb2) rfl (by kernel_rfl) (by kernel_rfl) (by kernel_rfl) (fun _ _ _ h => h) (Or.inl ⟨by rfl, ?yb2⟩) (by assumption) ?_
      case yb2 => intro w hSw; (try dsimp only at hSw); go_simp <;> with_reducible rfl
      try simp only [List.getElem_toArray, List.getElem_cons_succ, List.getElem_cons_zero, Act.put, List.setIfInBounds_toArray, List.set_cons_zero, List.set_cons_succ]
      refine wpAnyH_take (i := 3) (v := ?vb3) rfl (by kernel_rfl) (by kernel_rfl) (by kernel_rfl) (fun _ _ _ h => h) (Or.inl ⟨by rfl, ?yb3⟩) (by assumption) ?_
      case yb3 => intro w hSw; (try dsimp only at hSw); go_simp <;> with_reducible rfl
      try simp only [List.getElem_toArray, List.getElem_cons_succ, List.getElem_cons_zero, Act.put, List.setIfInBounds_toArray, List.set_cons_zero, List.set_cons_succ]
      refine wpAnyH_take (i := 4) (v := ?vb4) rfl (by kernel_rfl) (by kernel_rfl) (by kernel_rfl) (fun _ _ _ h => h) (Or.inl ⟨by rfl, ?yb4⟩) (by assumption) ?_
      case yb4 => intro w hSw; (try dsimp only at hSw); go_simp <;> with_reducible rfl
      try simp only [List.getElem_toArray, List.getElem_cons_succ, List.getElem_cons_zero, Act.put, List.setIfInBounds_toArray, List.set_cons_zero, List.set_cons_succ]
      refine wpAnyH_take (i := 5) (v := ?vb5) rfl (by kernel_rfl) (by kernel_rfl) (by kernel_rfl) (fun _ _ _ h => h) (Or.inl ⟨by rfl, ?yb5⟩) (by assumption) ?_
      case yb5 => intro w hSw; (try dsimp only at hSw); go_simp <;> with_reducible rfl
      try simp only [List.getElem_toArray, List.getElem_cons_succ, List.getElem_cons_zero, Act.put, List.setIfInBounds_toArray, List.set_cons_zero, List.set_cons_succ]
      refine wpAnyH_take (i := 6) (v := ?vb6) rfl (by kernel_rfl) (by kernel_rfl) (by kernel_rfl) (fun _ _ _ h => h) (Or.inl ⟨by rfl, ?yb6⟩) (by assumption) ?_
      case yb6 => intro w hSw; (try dsimp only at hSw); go_simp <;> with_reducible rfl
      try simp only [List.getElem_toArray, List.getElem_cons_succ, List.getElem_cons_zero, Act.put, List.setIfInBounds_toArray, List.set_cons_zero, List.set_cons_succ]
      refine wpAnyH_take (i := 7) (v := undef) rfl (by kernel_rfl) (by kernel_rfl) (by kernel_rfl) (fun _ _ _ h => h) (Or.inr ⟨by rfl, rfl⟩) (by assumption) ?_
      try simp only [List.getElem_toArray, List.getElem_cons_succ, List.getElem_cons_zero, Act.put, List.setIfInBounds_toArray, List.set_cons_zero, List.set_cons_succ]
      refine wpAnyH_take (i := 8) (v := undef) rfl (by kernel_rfl) (by kernel_rfl) (by kernel_rfl) (fun _ _ _ h => h) (Or.inr ⟨by rfl, rfl⟩) (by assumption) ?_
      try simp only [List.getElem_toArray, List.getElem_cons_succ, List.getElem_cons_zero, Act.put, List.setIfInBounds_toArray, List.set_cons_zero, List.set_cons_succ]
      refine wpAnyH_take (i := 9) (v := undef) rfl (by kernel_rfl) (by kernel_rfl) (by kernel_rfl) (fun _ _ _ h => h) (Or.inr ⟨by rfl, rfl⟩) (by assumption) ?_
      try simp only [List.getElem_toArray, List.getElem_cons_succ, List.getElem_cons_zero, Act.put, List.setIfInBounds_toArray, List.set_cons_zero, List.set_cons_succ]
      refine wpAnyH_take (i := 10) (v := undef) rfl (by kernel_rfl) (by kernel_rfl) (by kernel_rfl) (fun _ _ _ h => h) (Or.inr ⟨by rfl, rfl⟩) (by assumption) ?_
      try simp only [List.getElem_toArray, List.getElem_cons_succ, List.getElem_cons_zero, Act.put, List.setIfInBounds_toArray, List.set_cons_zero, List.set_cons_succ]
      refine wpAnyH_take (i := 11) (v := undef) rfl (by kernel_rfl) (by kernel_rfl) (by kernel_rfl) (fun _ _ _ h => h) (Or.inr ⟨by rfl, rfl⟩) (by assumption) ?_
      try simp only [List.getElem_toArray, List.getElem_cons_succ, List.getElem_cons_zero, Act.put, List.setIfInBounds_toArray, List.set_cons_zero, List.set_cons_succ]
      refine wpAnyH_take (i := 12) (v := undef) rfl (by kernel_rfl) (by kernel_rfl) (by kernel_rfl) (fun _ _ _ h => h) (Or.inr ⟨by rfl, rfl⟩) (by assumption) ?_
      try simp only [List.getElem_toArray, List.getElem_cons_succ, List.getElem_cons_zero, Act.put, List.setIfInBounds_toArray, List.set_cons_zero, List.set_cons_succ]
      refine wpAnyH_take (i := 13) (v := undef) rfl (by kernel_rfl) (by kernel_rfl) (by kernel_rfl) (fun _ _ _ h => h) (Or.inr ⟨by rfl, rfl⟩) (by assumption) ?_
      try simp only [List.getElem_toArray, List.getElem_cons_succ, List.getElem_cons_zero, Act.put, List.setIfInBounds_toArray, List.set_cons_zero, List.set_cons_succ]
      refine wpAnyH_take (i := 14) (v := undef) rfl (by kernel_rfl) (by kernel_rfl) (by kernel_rfl) (fun _ _ _ h => h) (Or.inr ⟨by rfl, rfl⟩) (by assumption) ?_
      try simp only [List.getElem_toArray, List.getElem_cons_succ, List.getElem_cons_zero, Act.put, List.setIfInBounds_toArray, List.set_cons_zero, List.set_cons_succ]
      refine wpAnyH_take (i := 15) (v := undef) rfl (by kernel_rfl) (by kernel_rfl) (by kernel_rfl) (fun _ _ _ h => h) (Or.inr ⟨by rfl, rfl⟩) (by assumption) ?_
      try simp only [List.getElem_toArray, List.getElem_cons_succ, List.getElem_cons_zero, Act.put, List.setIfInBounds_toArray, List.set_cons_zero, List.set_cons_succ]
      refine wpAnyH_take (i := 16) (v := undef) rfl (by kernel_rfl) (by kernel_rfl) (by kernel_rfl) (fun _ _ _ h => h) (Or.inr ⟨by rfl, rfl⟩) (by assumption) ?_
      try simp only [List.getElem_toArray, List.getElem_cons_succ, List.getElem_cons_zero, Act.put, List.setIfInBounds_toArray, List.set_cons_zero, List.set_cons_succ]
      refine wpAnyH_take (i := 17) (v := ?vb17) rfl (by kernel_rfl) (by kernel_rfl) (by kernel_rfl) (fun _ _ _ h => h) (Or.inl ⟨by rfl, ?yb17⟩) (by assumption) ?_
      case yb17 => intro w hSw; (try dsimp only at hSw); go_simp <;> with_reducible rfl
      try simp only [List.getElem_toArray, List.getElem_cons_succ, List.getElem_cons_zero, Act.put, List.setIfInBounds_toArray, List.set_cons_zero, List.set_cons_succ]
      refine wpAnyH_take (i := 18) (v := ?vb18) rfl (by kernel_rfl) (by kernel_rfl) (by kernel_rfl) (fun _ _ _ h => h) (Or.inl ⟨by rfl, ?yb18⟩) (by assumption) ?_
      case yb18 => intro w hSw; (try dsimp only at hSw); go_simp <;> with_reducible rfl
      try simp only [List.getElem_toArray, List.getElem_cons_succ, List.getElem_cons_zero, Act.put, List.setIfInBounds_toArray, List.set_cons_zero, List.set_cons_succ]
      refine wpAnyH_done (by kernel_rfl) ?_ _
      go_wp2
      go_roundw
      case rel => exact ⟨j + 1, by omega, by go_num, MJ, LJ, Lib.hid (bt hbel.out (bt BL.out hHeld.1))⟩
      case measure => simp [intOf]; omega
    obtain ⟨i, hi⟩ : ∃ i, i + 1 = j := ⟨j - 1, by omega⟩
    have hil : i < l.length := by omega
    obtain ⟨bby, ooy, uy, ey, hbby, hruy, h0y, h1y, h2y, h3y, h4y⟩ := opl_at (HV.out wr hbel.out) i hil
    cases ey
    obtain ⟨xy, hxy⟩ : ∃ x, x = l[i]'hil := ⟨_, rfl⟩
    rw [← hxy] at hruy h0y h1y h2y h4y
    have HOy : Hid (∀ v : Value, opv xy v = .agg #[.int .u8 (xy.k : Int), .int .u32 (xy.t : Int), .int .u8 (xy.r : Int), v, .int .i64 xy.p]) := fun v => rfl
    have LY := Lib.hid (fun W => LX.out i hi W xy hxy)
    have HXY : Hid (xy = l[i]'hil) := hxy
    clear hxy LX hruy
    obtain ⟨ly, hly⟩ : ∃ b, decide (lessO xy x) = b := ⟨_, rfl⟩
    rw [hly] at LY
    have HLY := Lib.hid hly
    clear hly
    obtain ⟨ky, hky⟩ : ∃ z, xy.k = z := ⟨_, rfl⟩
    obtain ⟨ty, hty⟩ : ∃ z, xy.t = z := ⟨_, rfl⟩
    obtain ⟨ry, hry⟩ : ∃ z, xy.r = z := ⟨_, rfl⟩
    obtain ⟨py, hpy⟩ : ∃ z, xy.p = z := ⟨_, rfl⟩
    rw [hky, hty, hry, hpy] at HOy
    rw [hky] at h0y
    rw [hty] at h1y
    rw [hry] at h2y
    rw [hpy] at h4y
    rw [hty, hry] at LY
    have SL : Hid (∀ w' : World, Below (wr.alloc (.cells #[.int .u8 (k : Int), .int .u32 (t : Int), .int .u8 (r : Int), .slice uo nu uc, .int .i64 p] 31)).heap.size (wr.alloc (.cells #[.int .u8 (k : Int), .int .u32 (t : Int), .int .u8 (r : Int), .slice uo nu uc, .int .i64 p] 31)) w' → Below (wr.alloc (.cells #[.int .u8 (k : Int), .int .u32 (t : Int), .int .u8 (r : Int), .slice uo nu uc, .int .i64 p] 31)).heap.size (wr.alloc (.cells #[.int .u8 (k : Int), .int .u32 (t : Int), .int .u8 (r : Int), .slice uo nu uc, .int .i64 p] 31)) w' ∧ w'.cell? ⟨wr.heap.size, 0, none⟩ = some (.int .u8 (k : Int)) ∧ w'.cell? ⟨wr.heap.size, 1, none⟩ = some (.int .u32 (t : Int)) ∧ w'.cell? ⟨wr.heap.size, 2, none⟩ = some (.int .u8 (r : Int)) ∧ w'.cell? ⟨wr.heap.size, 3, none⟩ = some (.slice uo nu uc) ∧ w'.cell? ⟨wr.heap.size, 4, none⟩ = some (.int .i64 p) ∧ w'.cell? ⟨bb, oo + i * 5 + 1, none⟩ = some (.int .u32 (ty : Int)) ∧ w'.cell? ⟨bb, oo + i * 5 + 2, none⟩ = some (.int .u8 (ry : Int))) := fun W h => by
      have a1 := five_cells h
      have b1 := bt BL.out h
      exact ⟨h, a1.1, a1.2.1, a1.2.2.1, a1.2.2.2.1, a1.2.2.2.2, (b1.cell (p := ⟨bb, oo + i * 5 + 1, none⟩) hbb).trans h1y, (b1.cell (p := ⟨bb, oo + i * 5 + 2, none⟩) hbb).trans h2y⟩
    have ej : (j : Int) - 1 = (i : Int) := by omega
    have ew : IntKind.i64.wrap (i : Int) = (i : Int) := IntWalk.i64_in _ (by omega)
    have q6 : (0 : Int) ≤ (i : Int) := by omega
    have q7 : (i : Int) < (n : Int) := by omega
    have q8 : decide (0 < (j : Int)) = true := decide_eq_true (by omega)
    have q9 : decide (0 < j) = true := decide_eq_true (by omega)
    clear hky hty hry hpy h0y h1y h2y h3y h4y HOy SK hbby
    cases ly
    · obtain rfl : q = 8 := QN.out (fun h => by have h2 := of_decide_eq_false HLY.out; rw [HXY.out, HX.out] at h2; exact h2 (List.pairwise_iff_getElem.1 h.2.2 i j hil HJ.out (by omega)))
      go_wp2
      refine wp_region_held_drew (S := fun w' => Below (wr.alloc (.cells #[.int .u8 (k : Int), .int .u32 (t : Int), .int .u8 (r : Int), .slice uo nu uc, .int .i64 p] 31)).heap.size (wr.alloc (.cells #[.int .u8 (k : Int), .int .u32 (t : Int), .int .u8 (r : Int), .slice uo nu uc, .int .i64 p] 31)) w' ∧ w'.cell? ⟨wr.heap.size, 0, none⟩ = some (.int .u8 (k : Int)) ∧ w'.cell? ⟨wr.heap.size, 1, none⟩ = some (.int .u32 (t : Int)) ∧ w'.cell? ⟨wr.heap.size, 2, none⟩ = some (.int .u8 (r : Int)) ∧ w'.cell? ⟨wr.heap.size, 3, none⟩ = some (.slice uo nu uc) ∧ w'.cell? ⟨wr.heap.size, 4, none⟩ = some (.int .i64 p) ∧ w'.cell? ⟨bb, oo + i * 5 + 1, none⟩ = some (.int .u32 (ty : Int)) ∧ w'.cell? ⟨bb, oo + i * 5 + 2, none⟩ = some (.int .u8 (ry : Int))) (by kernel_rfl) (SL.out _ (drew1 _)) (fun hHeld => ?_)
      refine wpAnyH_take (i := 0) (v := ?vc0) rfl (by kernel_rfl) (by kernel_rfl) (by kernel_rfl) (fun _ _ _ h => h) (Or.inl ⟨by rfl, ?yc0⟩) (by assumption) ?_
      case yc0 => intro w hSw; (try dsimp only at hSw); go_simp <;> with_reducible rfl
      try simp only [List.getElem_toArray, List.getElem_cons_zero, Act.put, List.setIfInBounds_toArray, List.set_cons_zero, List.set_cons_succ]
      refine wpAnyH_ready (rs := [1]) (by kernel_rfl) (by simp) ?_
      refine AllReadyH.cons rfl (fun K hK => ?_) ?zc1
      case zc1 => exact AllReadyH.nil
      go_simp
      refine (MA.out _ (bt BL.out hHeld.1)).mono ?_
      rintro e w9c1 ⟨rfl, b9⟩
      refine hK.out _ _ (SL.out _ (bt hHeld.1 b9)) (fun hNew => ?_)
      clear hHeld
      have hHeld := hNew
      clear hNew hK K
      try simp only [List.getElem_toArray, List.getElem_cons_succ, List.getElem_cons_zero, Act.put, List.setIfInBounds_toArray, List.set_cons_zero, List.set_cons_succ]
      refine wpAnyH_take (i := 2) (v := ?vc2) rfl (by kernel_rfl) (by kernel_rfl) (by kernel_rfl) (fun _ _ _ h => h) (Or.inl ⟨by rfl, ?yc2⟩) (by assumption) ?_
      case yc2 => intro w hSw; (try dsimp only at hSw); go_simp <;> with_reducible rfl
      try simp only [List.getElem_toArray, List.getElem_cons_succ, List.getElem_cons_zero, Act.put, List.setIfInBounds_toArray, List.set_cons_zero, List.set_cons_succ]
      refine wpAnyH_take (i := 3) (v := ?vc3) rfl (by kernel_rfl) (by kernel_rfl) (by kernel_rfl) (fun _ _ _ h => h) (Or.inl ⟨by rfl, ?yc3⟩) (by assumption) ?_
      case yc3 => intro w hSw; (try dsimp only at hSw); go_simp <;> with_reducible rfl
      try simp only [List.getElem_toArray, List.getElem_cons_succ, List.getElem_cons_zero, Act.put, List.setIfInBounds_toArray, List.set_cons_zero, List.set_cons_succ]
      refine wpAnyH_take (i := 4) (v := ?vc4) rfl (by kernel_rfl) (by kernel_rfl) (by kernel_rfl) (fun _ _ _ h => h) (Or.inl ⟨by rfl, ?yc4⟩) (by assumption) ?_
      case yc4 => intro w hSw; (try dsimp only at hSw); go_simp <;> with_reducible rfl
      try simp only [List.getElem_toArray, List.getElem_cons_succ, List.getElem_cons_zero, Act.put, List.setIfInBounds_toArray, List.set_cons_zero, List.set_cons_succ]
      refine wpAnyH_take (i := 5) (v := ?vc5) rfl (by kernel_rfl) (by kernel_rfl) (by kernel_rfl) (fun _ _ _ h => h) (Or.inl ⟨by rfl, ?yc5⟩) (by assumption) ?_
      case yc5 => intro w hSw; (try dsimp only at hSw); go_simp <;> with_reducible rfl
      try simp only [List.getElem_toArray, List.getElem_cons_succ, List.getElem_cons_zero, Act.put, List.setIfInBounds_toArray, List.set_cons_zero, List.set_cons_succ]
      refine wpAnyH_take (i := 6) (v := ?vc6) rfl (by kernel_rfl) (by kernel_rfl) (by kernel_rfl) (fun _ _ _ h => h) (Or.inl ⟨by rfl, ?yc6⟩) (by assumption) ?_
      case yc6 => intro w hSw; (try dsimp only at hSw); go_simp <;> with_reducible rfl
      try simp only [List.getElem_toArray, List.getElem_cons_succ, List.getElem_cons_zero, Act.put, List.setIfInBounds_toArray, List.set_cons_zero, List.set_cons_succ]
      refine wpAnyH_take (i := 7) (v := ?vc7) rfl (by kernel_rfl) (by kernel_rfl) (by kernel_rfl) (fun _ _ _ h => h) (Or.inl ⟨by rfl, ?yc7⟩) (by assumption) ?_
      case yc7 => intro w hSw; (try dsimp only at hSw); go_simp <;> with_reducible rfl
      try simp only [List.getElem_toArray, List.getElem_cons_succ, List.getElem_cons_zero, Act.put, List.setIfInBounds_toArray, List.set_cons_zero, List.set_cons_succ]
      refine wpAnyH_take (i := 8) (v := ?vc8) rfl (by kernel_rfl) (by kernel_rfl) (by kernel_rfl) (fun _ _ _ h => h) (Or.inl ⟨by rfl, ?yc8⟩) (by assumption) ?_
      case yc8 => intro w hSw; (try dsimp only at hSw); go_simp <;> with_reducible rfl
      try simp only [List.getElem_toArray, List.getElem_cons_succ, List.getElem_cons_zero, Act.put, List.setIfInBounds_toArray, List.set_cons_zero, List.set_cons_succ]
      refine wpAnyH_take (i := 9) (v := ?vc9) rfl (by kernel_rfl) (by kernel_rfl) (by kernel_rfl) (fun _ _ _ h => h) (Or.inl ⟨by rfl, ?yc9⟩) (by assumption) ?_
      case yc9 => intro w hSw; (try dsimp only at hSw); go_simp <;> with_reducible rfl
      try simp only [List.getElem_toArray, List.getElem_cons_succ, List.getElem_cons_zero, Act.put, List.setIfInBounds_toArray, List.set_cons_zero, List.set_cons_succ]
      refine wpAnyH_take (i := 10) (v := ?vc10) rfl (by kernel_rfl) (by kernel_rfl) (by kernel_rfl) (fun _ _ _ h => h) (Or.inl ⟨by rfl, ?yc10⟩) (by assumption) ?_
      case yc10 => intro w hSw; (try dsimp only at hSw); go_simp <;> with_reducible rfl
      try simp only [List.getElem_toArray, List.getElem_cons_succ, List.getElem_cons_zero, Act.put, List.setIfInBounds_toArray, List.set_cons_zero, List.set_cons_succ]
      refine wpAnyH_take (i := 11) (v := ?vc11) rfl (by kernel_rfl) (by kernel_rfl) (by kernel_rfl) (fun _ _ _ h => h) (Or.inl ⟨by rfl, ?yc11⟩) (by assumption) ?_
      case yc11 => intro w hSw; (try dsimp only at hSw); go_simp <;> with_reducible rfl
      try simp only [List.getElem_toArray, List.getElem_cons_succ, List.getElem_cons_zero, Act.put, List.setIfInBounds_toArray, List.set_cons_zero, List.set_cons_succ]
      refine wpAnyH_take (i := 12) (v := ?vc12) rfl (by kernel_rfl) (by kernel_rfl) (by kernel_rfl) (fun _ _ _ h => h) (Or.inl ⟨by rfl, ?yc12⟩) (by assumption) ?_
      case yc12 => intro w hSw; (try dsimp only at hSw); go_simp <;> with_reducible rfl
      try simp only [List.getElem_toArray, List.getElem_cons_succ, List.getElem_cons_zero, Act.put, List.setIfInBounds_toArray, List.set_cons_zero, List.set_cons_succ]
      refine wpAnyH_take (i := 13) (v := ?vc13) rfl (by kernel_rfl) (by kernel_rfl) (by kernel_rfl) (fun _ _ _ h => h) (Or.inl ⟨by rfl, ?yc13⟩) (by assumption) ?_
      case yc13 => intro w hSw; (try dsimp only at hSw); go_simp <;> with_reducible rfl
      try simp only [List.getElem_toArray, List.getElem_cons_succ, List.getElem_cons_zero, Act.put, List.setIfInBounds_toArray, List.set_cons_zero, List.set_cons_succ]
      refine wpAnyH_take (i := 14) (v := ?vc14) rfl (by kernel_rfl) (by kernel_rfl) (by kernel_rfl) (fun _ _ _ h => h) (Or.inl ⟨by rfl, ?yc14⟩) (by assumption) ?_
      case yc14 => intro w hSw; (try dsimp only at hSw); go_simp <;> with_reducible rfl
      try simp only [List.getElem_toArray, List.getElem_cons_succ, List.getElem_cons_zero, Act.put, List.setIfInBounds_toArray, List.set_cons_zero, List.set_cons_succ]
      refine wpAnyH_ready (rs := [15]) (by kernel_rfl) (by simp) ?_
      refine AllReadyH.cons rfl (fun K hK => ?_) ?zc15
      case zc15 => exact AllReadyH.nil
      go_simp
      refine (LY.out _).mono ?_
      rintro e w9c15 ⟨rfl, b9⟩
      refine hK.out _ _ (SL.out _ (bt hHeld.1 b9)) (fun hNew => ?_)
      clear hHeld
      have hHeld := hNew
      clear hNew hK K
      try simp only [List.getElem_toArray, List.getElem_cons_succ, List.getElem_cons_zero, Act.put, List.setIfInBounds_toArray, List.set_cons_zero, List.set_cons_succ]
      refine wpAnyH_take (i := 16) (v := ?vc16) rfl (by kernel_rfl) (by kernel_rfl) (by kernel_rfl) (fun _ _ _ h => h) (Or.inl ⟨by rfl, ?yc16⟩) (by assumption) ?_
      case yc16 => intro w hSw; (try dsimp only at hSw); go_simp <;> with_reducible rfl
      try simp only [List.getElem_toArray, List.getElem_cons_succ, List.getElem_cons_zero, Act.put, List.setIfInBounds_toArray, List.set_cons_zero, List.set_cons_succ]
      refine wpAnyH_take (i := 17) (v := ?vc17) rfl (by kernel_rfl) (by kernel_rfl) (by kernel_rfl) (fun _ _ _ h => h) (Or.inl ⟨by rfl, ?yc17⟩) (by assumption) ?_
      case yc17 => intro w hSw; (try dsimp only at hSw); go_simp <;> with_reducible rfl
      try simp only [List.getElem_toArray, List.getElem_cons_succ, List.getElem_cons_zero, Act.put, List.setIfInBounds_toArray, List.set_cons_zero, List.set_cons_succ]
      refine wpAnyH_take (i := 18) (v := ?vc18) rfl (by kernel_rfl) (by kernel_rfl) (by kernel_rfl) (fun _ _ _ h => h) (Or.inl ⟨by rfl, ?yc18⟩) (by assumption) ?_
      case yc18 => intro w hSw; (try dsimp only at hSw); go_simp <;> with_reducible rfl
      try simp only [List.getElem_toArray, List.getElem_cons_succ, List.getElem_cons_zero, Act.put, List.setIfInBounds_toArray, List.set_cons_zero, List.set_cons_succ]
      refine wpAnyH_done (by kernel_rfl) ?_ _
      go_wp2
      go_ret
      exact ⟨rfl, bt hbel.out (bt BL.out hHeld.1)⟩
    have LJ : Hid (∀ k (h : k + 1 < l.length), k + 1 < j + 1 → lessO (l[k]'(by omega)) (l[k + 1]'h)) := fun k h hk => by
      by_cases e : k = i
      · subst e; subst hi; have h2 := of_decide_eq_true HLY.out; rw [HXY.out, HX.out] at h2; exact h2
      · exact hless.out k h (by omega)
    go_wp2
    refine wp_region_held_drew (S := fun w' => Below (wr.alloc (.cells #[.int .u8 (k : Int), .int .u32 (t : Int), .int .u8 (r : Int), .slice uo nu uc, .int .i64 p] 31)).heap.size (wr.alloc (.cells #[.int .u8 (k : Int), .int .u32 (t : Int), .int .u8 (r : Int), .slice uo nu uc, .int .i64 p] 31)) w' ∧ w'.cell? ⟨wr.heap.size, 0, none⟩ = some (.int .u8 (k : Int)) ∧ w'.cell? ⟨wr.heap.size, 1, none⟩ = some (.int .u32 (t : Int)) ∧ w'.cell? ⟨wr.heap.size, 2, none⟩ = some (.int .u8 (r : Int)) ∧ w'.cell? ⟨wr.heap.size, 3, none⟩ = some (.slice uo nu uc) ∧ w'.cell? ⟨wr.heap.size, 4, none⟩ = some (.int .i64 p) ∧ w'.cell? ⟨bb, oo + i * 5 + 1, none⟩ = some (.int .u32 (ty : Int)) ∧ w'.cell? ⟨bb, oo + i * 5 + 2, none⟩ = some (.int .u8 (ry : Int))) (by kernel_rfl) (SL.out _ (drew1 _)) (fun hHeld => ?_)
    refine wpAnyH_take (i := 0) (v := ?vd0) rfl (by kernel_rfl) (by kernel_rfl) (by kernel_rfl) (fun _ _ _ h => h) (Or.inl ⟨by rfl, ?yd0⟩) (by assumption) ?_
    case yd0 => intro w hSw; (try dsimp only at hSw); go_simp <;> with_reducible rfl
    try simp only [List.getElem_toArray, List.getElem_cons_zero, Act.put, List.setIfInBounds_toArray, List.set_cons_zero, List.set_cons_succ]
    refine wpAnyH_ready (rs := [1]) (by kernel_rfl) (by simp) ?_
    refine AllReadyH.cons rfl (fun K hK => ?_) ?zd1
    case zd1 => exact AllReadyH.nil
    go_simp
    refine (MA.out _ (bt BL.out hHeld.1)).mono ?_
    rintro e w9d1 ⟨rfl, b9⟩
    refine hK.out _ _ (SL.out _ (bt hHeld.1 b9)) (fun hNew => ?_)
    clear hHeld
    have hHeld := hNew
    clear hNew hK K
    try simp only [List.getElem_toArray, List.getElem_cons_succ, List.getElem_cons_zero, Act.put, List.setIfInBounds_toArray, List.set_cons_zero, List.set_cons_succ]
    refine wpAnyH_take (i := 2) (v := ?vd2) rfl (by kernel_rfl) (by kernel_rfl) (by kernel_rfl) (fun _ _ _ h => h) (Or.inl ⟨by rfl, ?yd2⟩) (by assumption) ?_
    case yd2 => intro w hSw; (try dsimp only at hSw); go_simp <;> with_reducible rfl
    try simp only [List.getElem_toArray, List.getElem_cons_succ, List.getElem_cons_zero, Act.put, List.setIfInBounds_toArray, List.set_cons_zero, List.set_cons_succ]
    refine wpAnyH_take (i := 3) (v := ?vd3) rfl (by kernel_rfl) (by kernel_rfl) (by kernel_rfl) (fun _ _ _ h => h) (Or.inl ⟨by rfl, ?yd3⟩) (by assumption) ?_
    case yd3 => intro w hSw; (try dsimp only at hSw); go_simp <;> with_reducible rfl
    try simp only [List.getElem_toArray, List.getElem_cons_succ, List.getElem_cons_zero, Act.put, List.setIfInBounds_toArray, List.set_cons_zero, List.set_cons_succ]
    refine wpAnyH_take (i := 4) (v := ?vd4) rfl (by kernel_rfl) (by kernel_rfl) (by kernel_rfl) (fun _ _ _ h => h) (Or.inl ⟨by rfl, ?yd4⟩) (by assumption) ?_
    case yd4 => intro w hSw; (try dsimp only at hSw); go_simp <;> with_reducible rfl
    try simp only [List.getElem_toArray, List.getElem_cons_succ, List.getElem_cons_zero, Act.put, List.setIfInBounds_toArray, List.set_cons_zero, List.set_cons_succ]
    refine wpAnyH_take (i := 5) (v := ?vd5) rfl (by kernel_rfl) (by kernel_rfl) (by kernel_rfl) (fun _ _ _ h => h) (Or.inl ⟨by rfl, ?yd5⟩) (by assumption) ?_
    case yd5 => intro w hSw; (try dsimp only at hSw); go_simp <;> with_reducible rfl
    try simp only [List.getElem_toArray, List.getElem_cons_succ, List.getElem_cons_zero, Act.put, List.setIfInBounds_toArray, List.set_cons_zero, List.set_cons_succ]
    refine wpAnyH_take (i := 6) (v := ?vd6) rfl (by kernel_rfl) (by kernel_rfl) (by kernel_rfl) (fun _ _ _ h => h) (Or.inl ⟨by rfl, ?yd6⟩) (by assumption) ?_
    case yd6 => intro w hSw; (try dsimp only at hSw); go_simp <;> with_reducible rfl
    try simp only [List.getElem_toArray, List.getElem_cons_succ, List.getElem_cons_zero, Act.put, List.setIfInBounds_toArray, List.set_cons_zero, List.set_cons_succ]
    refine wpAnyH_take (i := 7) (v := ?vd7) rfl (by kernel_rfl) (by kernel_rfl) (by kernel_rfl) (fun _ _ _ h => h) (Or.inl ⟨by rfl, ?yd7⟩) (by assumption) ?_
    case yd7 => intro w hSw; (try dsimp only at hSw); go_simp <;> with_reducible rfl
    try simp only [List.getElem_toArray, List.getElem_cons_succ, List.getElem_cons_zero, Act.put, List.setIfInBounds_toArray, List.set_cons_zero, List.set_cons_succ]
    refine wpAnyH_take (i := 8) (v := ?vd8) rfl (by kernel_rfl) (by kernel_rfl) (by kernel_rfl) (fun _ _ _ h => h) (Or.inl ⟨by rfl, ?yd8⟩) (by assumption) ?_
    case yd8 => intro w hSw; (try dsimp only at hSw); go_simp <;> with_reducible rfl
    try simp only [List.getElem_toArray, List.getElem_cons_succ, List.getElem_cons_zero, Act.put, List.setIfInBounds_toArray, List.set_cons_zero, List.set_cons_succ]
    refine wpAnyH_take (i := 9) (v := ?vd9) rfl (by kernel_rfl) (by kernel_rfl) (by kernel_rfl) (fun _ _ _ h => h) (Or.inl ⟨by rfl, ?yd9⟩) (by assumption) ?_
    case yd9 => intro w hSw; (try dsimp only at hSw); go_simp <;> with_reducible rfl
    try simp only [List.getElem_toArray, List.getElem_cons_succ, List.getElem_cons_zero, Act.put, List.setIfInBounds_toArray, List.set_cons_zero, List.set_cons_succ]
    refine wpAnyH_take (i := 10) (v := ?vd10) rfl (by kernel_rfl) (by kernel_rfl) (by kernel_rfl) (fun _ _ _ h => h) (Or.inl ⟨by rfl, ?yd10⟩) (by assumption) ?_
    case yd10 => intro w hSw; (try dsimp only at hSw); go_simp <;> with_reducible rfl
    try simp only [List.getElem_toArray, List.getElem_cons_succ, List.getElem_cons_zero, Act.put, List.setIfInBounds_toArray, List.set_cons_zero, List.set_cons_succ]
    refine wpAnyH_take (i := 11) (v := ?vd11) rfl (by kernel_rfl) (by kernel_rfl) (by kernel_rfl) (fun _ _ _ h => h) (Or.inl ⟨by rfl, ?yd11⟩) (by assumption) ?_
    case yd11 => intro w hSw; (try dsimp only at hSw); go_simp <;> with_reducible rfl
    try simp only [List.getElem_toArray, List.getElem_cons_succ, List.getElem_cons_zero, Act.put, List.setIfInBounds_toArray, List.set_cons_zero, List.set_cons_succ]
    refine wpAnyH_take (i := 12) (v := ?vd12) rfl (by kernel_rfl) (by kernel_rfl) (by kernel_rfl) (fun _ _ _ h => h) (Or.inl ⟨by rfl, ?yd12⟩) (by assumption) ?_
    case yd12 => intro w hSw; (try dsimp only at hSw); go_simp <;> with_reducible rfl
    try simp only [List.getElem_toArray, List.getElem_cons_succ, List.getElem_cons_zero, Act.put, List.setIfInBounds_toArray, List.set_cons_zero, List.set_cons_succ]
    refine wpAnyH_take (i := 13) (v := ?vd13) rfl (by kernel_rfl) (by kernel_rfl) (by kernel_rfl) (fun _ _ _ h => h) (Or.inl ⟨by rfl, ?yd13⟩) (by assumption) ?_
    case yd13 => intro w hSw; (try dsimp only at hSw); go_simp <;> with_reducible rfl
    try simp only [List.getElem_toArray, List.getElem_cons_succ, List.getElem_cons_zero, Act.put, List.setIfInBounds_toArray, List.set_cons_zero, List.set_cons_succ]
    refine wpAnyH_take (i := 14) (v := ?vd14) rfl (by kernel_rfl) (by kernel_rfl) (by kernel_rfl) (fun _ _ _ h => h) (Or.inl ⟨by rfl, ?yd14⟩) (by assumption) ?_
    case yd14 => intro w hSw; (try dsimp only at hSw); go_simp <;> with_reducible rfl
    try simp only [List.getElem_toArray, List.getElem_cons_succ, List.getElem_cons_zero, Act.put, List.setIfInBounds_toArray, List.set_cons_zero, List.set_cons_succ]
    refine wpAnyH_ready (rs := [15]) (by kernel_rfl) (by simp) ?_
    refine AllReadyH.cons rfl (fun K hK => ?_) ?zd15
    case zd15 => exact AllReadyH.nil
    go_simp
    refine (LY.out _).mono ?_
    rintro e w9d15 ⟨rfl, b9⟩
    refine hK.out _ _ (SL.out _ (bt hHeld.1 b9)) (fun hNew => ?_)
    clear hHeld
    have hHeld := hNew
    clear hNew hK K
    try simp only [List.getElem_toArray, List.getElem_cons_succ, List.getElem_cons_zero, Act.put, List.setIfInBounds_toArray, List.set_cons_zero, List.set_cons_succ]
    refine wpAnyH_take (i := 16) (v := ?vd16) rfl (by kernel_rfl) (by kernel_rfl) (by kernel_rfl) (fun _ _ _ h => h) (Or.inl ⟨by rfl, ?yd16⟩) (by assumption) ?_
    case yd16 => intro w hSw; (try dsimp only at hSw); go_simp <;> with_reducible rfl
    try simp only [List.getElem_toArray, List.getElem_cons_succ, List.getElem_cons_zero, Act.put, List.setIfInBounds_toArray, List.set_cons_zero, List.set_cons_succ]
    refine wpAnyH_take (i := 17) (v := ?vd17) rfl (by kernel_rfl) (by kernel_rfl) (by kernel_rfl) (fun _ _ _ h => h) (Or.inl ⟨by rfl, ?yd17⟩) (by assumption) ?_
    case yd17 => intro w hSw; (try dsimp only at hSw); go_simp <;> with_reducible rfl
    try simp only [List.getElem_toArray, List.getElem_cons_succ, List.getElem_cons_zero, Act.put, List.setIfInBounds_toArray, List.set_cons_zero, List.set_cons_succ]
    refine wpAnyH_take (i := 18) (v := ?vd18) rfl (by kernel_rfl) (by kernel_rfl) (by kernel_rfl) (fun _ _ _ h => h) (Or.inl ⟨by rfl, ?yd18⟩) (by assumption) ?_
    case yd18 => intro w hSw; (try dsimp only at hSw); go_simp <;> with_reducible rfl
    try simp only [List.getElem_toArray, List.getElem_cons_succ, List.getElem_cons_zero, Act.put, List.setIfInBounds_toArray, List.set_cons_zero, List.set_cons_succ]
    refine wpAnyH_done (by kernel_rfl) ?_ _
    go_wp2
    go_roundw
    case rel => exact ⟨j + 1, by omega, by go_num, MJ, LJ, Lib.hid (bt hbel.out (bt BL.out hHeld.1))⟩
    case measure => simp [intOf]; omega
end Go.Proofs.YtdackenaknieaaaGreat.Bags

/- Sets of times, cut off below a time; two of them gone through side by side, stretch by stretch. Conditions: the spans may be. -/
namespace Go.Proofs.YtdackenaknieaaaGreat.Spans

/-- The set, cut off below a time. -/
def low : List Sp → Nat → List Sp
  | [], _ => []
  | x :: l, n => if x.t < n then x :: low l n else if x.f < n then [mk x.f (n - 1)] else []
/-! ### A stretch behind spans -/

theorem nil_or_snoc {α : Type} (l : List α) : l = [] ∨ ∃ m x, l = m ++ [x] := by
  rcases List.eq_nil_or_concat l with h | ⟨m, x, h⟩
  · exact .inl h
  · exact .inr ⟨m, x, by rw [h, List.concat_eq_append]⟩
theorem fine_last : ∀ {l : List Sp} {x : Sp}, Fine (l ++ [x]) → ∀ a ∈ l, a.t + 2 ≤ x.f
  | [], _, _, a, ha => by simp at ha
  | y :: l, x, h, a, ha => by
    rw [List.cons_append] at h
    rw [List.mem_cons] at ha
    rcases ha with rfl | ha
    · exact h.far x (by simp)
    · exact fine_last h.tail a ha
theorem fine_snoc_ok {l : List Sp} {x : Sp} (h : Fine (l ++ [x])) : Ok x := h.all x (by simp)
/-! ### What is ahead of a time no more -/

def upf : List Sp → Nat → List Sp
  | [], _ => []
  | x :: l, n => if x.t < n then l else x :: l
def nxt : List Sp → Nat → Bool × Nat
  | [], _ => (false, 1073741824)
  | x :: _, n => if n < x.f then (false, x.f - 1) else (true, x.t)
theorem upf_cons (x : Sp) (l : List Sp) (n : Nat) : upf (x :: l) n = if x.t < n then l else x :: l := rfl
theorem nxt_cons (x : Sp) (l : List Sp) (n : Nat) : nxt (x :: l) n = if n < x.f then (false, x.f - 1) else (true, x.t) := rfl
/-- What of spans is left where all below a time has come: the last one that came may still be there. -/
def Rest (l p : List Sp) (n : Nat) : Prop := Fine p ∧ (∀ m, n ≤ m → (In l m ↔ In p m)) ∧ ∀ x ∈ p, n ≤ x.t + 1
def Rest1 (l p : List Sp) (n : Nat) : Prop := Fine p ∧ (∀ m, n ≤ m → (In l m ↔ In p m)) ∧ ∀ x ∈ p, n ≤ x.t
theorem Rest.up {l p : List Sp} {n : Nat} (h : Rest l p n) : Rest1 l (upf p n) n := by
  obtain ⟨h1, h2, h3⟩ := h
  cases p with
  | nil => exact ⟨trivial, h2, fun x hx => by simp [upf] at hx⟩
  | cons x p =>
    have hx := h1.head
    unfold Ok at hx
    have hn := h3 x (by simp)
    rw [upf_cons]
    by_cases g : x.t < n
    · rw [if_pos g]
      refine ⟨h1.tail, fun m hm => ?_, fun y hy => ?_⟩
      · rw [h2 m hm, in_cons]
        constructor
        · rintro (h4 | h4)
          · omega
          · exact h4
        · exact .inr
      · have h4 := h1.far y hy
        have h5 := h1.tail.all y hy
        unfold Ok at h5
        omega
    · rw [if_neg g]
      refine ⟨h1, h2, fun y hy => ?_⟩
      rw [List.mem_cons] at hy
      rcases hy with rfl | hy
      · omega
      · have h4 := h1.far y hy
        have h5 := h1.tail.all y hy
        unfold Ok at h5
        omega
theorem Rest1.next {l p : List Sp} {n : Nat} (h : Rest1 l p n) (hn : n ≤ 1073741824) : n ≤ (nxt p n).2 ∧ (nxt p n).2 ≤ 1073741824 ∧
    (∀ m, n ≤ m → m ≤ (nxt p n).2 → inB l m = (nxt p n).1) ∧ ∀ s, n ≤ s → s ≤ (nxt p n).2 → Rest l p (s + 1) := by
  obtain ⟨h1, h2, h3⟩ := h
  have hin : ∀ m, n ≤ m → (inB l m = true ↔ In p m) := fun m hm => (inB_iff l m).trans (h2 m hm)
  have hno : ∀ m, n ≤ m → ¬ In p m → inB l m = false := fun m hm h => by
    cases hb : inB l m
    · rfl
    · exact absurd ((hin m hm).1 hb) h
  cases p with
  | nil =>
    refine ⟨hn, Nat.le_refl _, fun m hm _ => hno m hm (in_nil m), fun s hs _ => ⟨trivial, fun m hm => h2 m (by omega), fun x hx => by simp at hx⟩⟩
  | cons x p =>
    have hx := h1.head
    unfold Ok at hx
    have hxn := h3 x (by simp)
    have hall : ∀ y ∈ x :: p, x.t ≤ y.t := fun y hy => by
      rw [List.mem_cons] at hy
      rcases hy with rfl | hy
      · exact Nat.le_refl _
      · have h4 := h1.far y hy
        have h5 := h1.tail.all y hy
        unfold Ok at h5
        omega
    rw [nxt_cons]
    by_cases g : n < x.f
    · rw [if_pos g]
      refine ⟨by simp only; omega, by simp only; omega, fun m hm h4 => hno m hm (fun h5 => ?_), fun s hs h4 => ⟨h1, fun m hm => h2 m (by omega), fun y hy => ?_⟩⟩
      · simp only at h4
        rcases in_cons.1 h5 with h6 | h6
        · omega
        · have := in_far h1 h6; omega
      · have := hall y hy
        simp only at h4
        omega
    · rw [if_neg g]
      refine ⟨hxn, hx.2.2, fun m hm h4 => (hin m hm).2 (in_cons.2 (.inl ⟨by omega, h4⟩)), fun s hs h4 => ⟨h1, fun m hm => h2 m (by omega), fun y hy => ?_⟩⟩
      have := hall y hy
      simp only at h4
      omega

/-! ### A stretch of two, chosen by which of them have it -/

/-! ### What is left, said of the whole -/
end Go.Proofs.YtdackenaknieaaaGreat.Spans

/- octavo/span: Check, Count, Twin, Same: what each answers. Conditions: the slices' cells are spans. -/
namespace Go.Proofs.YtdackenaknieaaaGreat.Spans
open Go.RowKit
attribute [local go_sem ↓] Go.wp_at_zero Go.wp_at_succ

theorem chk_no {l : List Sp} (h : ¬ (Fine l ∧ l.length ≤ 1024)) : chk l = 8 := by
  unfold chk
  rw [if_neg (fun hb => h ((mayB_iff l).1 hb))]
theorem chk_yes {l : List Sp} (h : Fine l ∧ l.length ≤ 1024) : chk l = 0 := by
  unfold chk
  rw [if_pos ((mayB_iff l).2 h)]
set_option maxRecDepth 100000 in
set_option maxHeartbeats 4000000 in
theorem pCheck_any {v : Value} {l : List Sp} {w : World} (hv : Sps w v l) :
    Calls Tryz.prog 68 #[v] w fun e w' => e = .returned (.int .i64 (chk l)) ∧ Below w.heap.size w w' := by
  obtain ⟨ao, cap, rfl⟩ := hv.shape
  obtain ⟨n, hn⟩ : ∃ n, n = l.length := ⟨_, rfl⟩
  have hm : n ≤ 9223372036854775807 := by rw [hn]; exact Sees.max hv
  have HV := Lib.hid hv
  have HN := Lib.hid hn
  have HBad := Lib.hid (chk_no (l := l))
  have HGood := Lib.hid (chk_yes (l := l))
  obtain ⟨c, hc⟩ : ∃ c, c = chk l := ⟨_, rfl⟩
  rw [← hc] at HBad HGood ⊢
  rw [← hn] at HBad HGood ⊢
  clear hv hn hc
  by_cases hbig : 1024 < n
  · have t1 : decide ((1024 : Int) < (n : Int)) = true := decide_eq_true (by omega)
    have t2 : decide (1024 < n) = true := decide_eq_true hbig
    obtain rfl : c = 8 := HBad.out (fun h => by omega)
    go_enter Tryz.func68, Tryz.ntmps68
    go_wp2
    go_ret
    exact ⟨rfl, Below.refl _ _⟩
  have t1 : decide ((1024 : Int) < (n : Int)) = false := decide_eq_false (by omega)
  have t2 : decide (1024 < n) = false := decide_eq_false hbig
  have B0 := Lib.hid (Below.refl w.heap.size w)
  go_enter Tryz.func68, Tryz.ntmps68
  go_wp2
  go_loopw [3, 11] (fun m i wr => ∃ k b : Nat, k ≤ n ∧ i = .int .i64 (k : Int) ∧ m = .int .u32 (b : Int) ∧ 1 ≤ b ∧ Hid ((k = 0 ∧ b = 1) ∨ ∃ j, k = j + 1 ∧ b = (l.getD j zsp).t + 2) ∧ Hid (Fine (l.take k)) ∧ Hid (Below w.heap.size w wr)) (fun _ i _ => n - (intOf i).toNat)
  case atStart => exact ⟨0, 1, by omega, rfl, rfl, by omega, Lib.hid (.inl ⟨rfl, rfl⟩), Lib.hid (by simp [Fine]), B0⟩
  case round =>
    obtain ⟨k, b, hk, rfl, rfl, hb1, hlast, hfin, hbel⟩ := hrel
    by_cases hkn : k < n
    · have q1 : decide (k < n) = true := by simpa using hkn
      have q2 : (0 : Int) ≤ (k : Int) := by omega
      have q3 : (k : Int) < (n : Int) := by omega
      obtain ⟨b1, o1, rfl, hb1', ha0, ha1⟩ := (HV.out.keeps hbel.out).at k (by rw [← HN.out]; exact hkn)
      obtain ⟨x, hx⟩ : ∃ x, x = l.getD k zsp := ⟨_, rfl⟩
      rw [← hx] at ha0 ha1
      have hno1 : ¬ Ok x → c = 8 := fun h => HBad.out (fun hF => h (by rw [hx]; exact fine_ok hF.1 (by rw [← HN.out]; exact hkn)))
      have hno2 : x.f < b → c = 8 := fun h => by
        rcases hlast.out with ⟨rfl, rfl⟩ | ⟨j, rfl, rfl⟩
        · exact hno1 (fun hok => by unfold Ok at hok; omega)
        · refine HBad.out (fun hF => ?_)
          have h3 := fine_next hF.1 (k := j) (by rw [← HN.out]; exact hkn)
          rw [← hx] at h3
          omega
      have hyes : Ok x → b ≤ x.f → Fine (l.take (k + 1)) := fun h1 h2 => by
        refine fine_take_succ (by rw [← HN.out]; exact hkn) hfin.out (by rw [← hx]; exact h1) ?_
        rcases hlast.out with ⟨h3, -⟩ | ⟨j, rfl, rfl⟩
        · exact .inl h3
        · refine .inr ?_
          rw [← hx]
          exact h2
      have HX := Lib.hid (congrArg Sp.t hx.symm)
      have HNo1 := Lib.hid hno1
      have HNo2 := Lib.hid hno2
      have HYes := Lib.hid hyes
      have XB := Lib.hid (fun o : Obj => hbel.out.alloc hbel.out.size o)
      obtain ⟨xf, xt, hxf, hxt⟩ := x
      simp only at ha0 ha1 HX HNo2 HYes
      clear hx hno1 hno2 hyes
      by_cases h1 : xf < b
      · have s1 : decide ((xf : Int) < (b : Int)) = true := decide_eq_true (by omega)
        have s2 : decide (xf < b) = true := decide_eq_true h1
        obtain rfl : c = 8 := HNo2.out h1
        go_wp2
        go_ret
        exact ⟨rfl, XB.out _⟩
      have s1 : decide ((xf : Int) < (b : Int)) = false := decide_eq_false (by omega)
      have s2 : decide (xf < b) = false := decide_eq_false h1
      by_cases h2 : xt < xf
      · have s3 : decide ((xt : Int) < (xf : Int)) = true := decide_eq_true (by omega)
        have s4 : decide (xt < xf) = true := decide_eq_true h2
        obtain rfl : c = 8 := HNo1.out (fun h => by unfold Ok at h; simp only at h; omega)
        go_wp2
        go_ret
        exact ⟨rfl, XB.out _⟩
      have s3 : decide ((xt : Int) < (xf : Int)) = false := decide_eq_false (by omega)
      have s4 : decide (xt < xf) = false := decide_eq_false h2
      by_cases h3 : 1073741824 < xt
      · have s5 : decide ((1073741824 : Int) < (xt : Int)) = true := decide_eq_true (by omega)
        have s6 : decide (1073741824 < xt) = true := decide_eq_true h3
        obtain rfl : c = 8 := HNo1.out (fun h => by unfold Ok at h; simp only at h; omega)
        go_wp2
        go_ret
        exact ⟨rfl, XB.out _⟩
      have s5 : decide ((1073741824 : Int) < (xt : Int)) = false := decide_eq_false (by omega)
      have s6 : decide (1073741824 < xt) = false := decide_eq_false h3
      have HF2 : Hid (Fine (l.take (k + 1))) := HYes.out (by unfold Ok; simp only; omega) (by omega)
      have eT : IntKind.u32.wrap ((xt : Int) + 2) = (xt : Int) + 2 := by rw [IntKind.wrap_u32]; omega
      have hb2 : 1 ≤ xt + 2 := by omega
      clear HNo1 HNo2 HYes
      go_wp2
      go_roundw
      case rel => exact ⟨k + 1, xt + 2, by omega, by go_num, by go_num, hb2, Lib.hid (.inr ⟨k, rfl, by rw [HX.out]⟩), HF2, Lib.hid (XB.out _)⟩
      case measure => simp [intOf]; omega
    · have q1 : decide (k < n) = false := by simpa using hkn
      have hkk : l.take k = l := List.take_of_length_le (by have := HN.out; omega)
      obtain rfl : c = 0 := HGood.out ⟨by have := hfin.out; rwa [hkk] at this, by omega⟩
      clear hkk
      go_wp2
      go_ret
      exact ⟨rfl, hbel.out⟩
theorem pCheck_is {v : Value} {l : List Sp} {w : World} (hv : Sps w v l) {c : Int} (h : chk l = c) :
    Calls Tryz.prog 68 #[v] w fun e w' => e = .returned (.int .i64 c) ∧ Below w.heap.size w w' := by
  rw [← h]; exact pCheck_any hv

set_option maxRecDepth 100000 in
set_option maxHeartbeats 4000000 in
theorem pCount_any {v : Value} {l : List Sp} {w : World} (hv : Sps w v l) :
    Calls Tryz.prog 35 #[v] w fun e w' => e = .returned (.int .i64 (count l : Int)) ∧ Below w.heap.size w w' := by
  obtain ⟨ao, cap, rfl⟩ := hv.shape
  obtain ⟨c, hc⟩ : ∃ c, chk l = c := ⟨_, rfl⟩
  have M := Lib.hid (pCheck_is hv hc)
  cases hb : mayB l
  · have hc8 : c = 8 := by rw [← hc]; unfold chk; rw [hb]; rfl
    have e0 : count l = 0 := by unfold count; rw [hb]; rfl
    rw [e0]
    subst hc8
    clear hb hv hc e0
    go_enter Tryz.func35, Tryz.ntmps35
    go_wp2_with fail
    refine M.out.mono ?_
    rintro e w1 ⟨rfl, b1⟩
    go_wp2
    go_ret
    exact ⟨rfl, b1⟩
  · have hc0 : c = 0 := by rw [← hc]; unfold chk; rw [hb]; rfl
    have e0 : count l = many l := by unfold count; rw [hb]; rfl
    have hF := (mayB_iff l).1 hb
    rw [e0]
    subst hc0
    have HV := Lib.hid hv
    have HF := Lib.hid hF.1
    obtain ⟨n, hn⟩ : ∃ n, n = l.length := ⟨_, rfl⟩
    have HN := Lib.hid hn
    have hl : n ≤ 1024 := by rw [hn]; exact hF.2
    rw [← hn] at M ⊢
    clear hb hv hc e0 hF hn
    go_enter Tryz.func35, Tryz.ntmps35
    go_wp2_with fail
    refine M.out.mono ?_
    rintro e w1 ⟨rfl, b1⟩
    have B1 := Lib.hid b1
    clear b1
    go_wp2
    go_loopw [3, 11] (fun s i wr => ∃ k m : Nat, k ≤ n ∧ i = .int .i64 (k : Int) ∧ s = .int .i64 (m : Int) ∧ m ≤ 1073741824 * k ∧ Hid (m = many (l.take k)) ∧ Hid (Below w.heap.size w wr)) (fun _ i _ => n - (intOf i).toNat)
    case atStart => exact ⟨0, 0, by omega, rfl, rfl, by omega, Lib.hid rfl, B1⟩
    case round =>
      obtain ⟨k, m, hk, rfl, rfl, hm, hmany, hbel⟩ := hrel
      by_cases hkn : k < n
      · have q1 : decide (k < n) = true := by simpa using hkn
        obtain ⟨b1, o1, rfl, hb1, ha0, ha1⟩ := (HV.out.keeps hbel.out).at k (by rw [← HN.out]; exact hkn)
        have hs := take_snoc l k (by rw [← HN.out]; exact hkn)
        have hok := fine_ok HF.out (k := k) (by rw [← HN.out]; exact hkn)
        obtain ⟨x, hx⟩ : ∃ x, x = l.getD k zsp := ⟨_, rfl⟩
        rw [← hx] at ha0 ha1 hs hok
        have hmn := many_snoc (l.take k) x
        rw [← hs, ← hmany.out] at hmn
        obtain ⟨xf, xt, _, _⟩ := x
        unfold Ok at hok
        simp only at ha0 ha1 hmn hok
        obtain ⟨o1', o2, o3⟩ := hok
        obtain ⟨d, hd⟩ : ∃ d : Nat, d = xt - xf := ⟨_, rfl⟩
        have e1 : (xt : Int) - (xf : Int) = (d : Int) := by omega
        have e2 : IntKind.u32.wrap (d : Int) = (d : Int) := by rw [IntKind.wrap_u32]; omega
        have e3 : IntKind.i64.wrap (d : Int) = (d : Int) := IntWalk.i64_in _ (by omega)
        have e4 : IntKind.i64.wrap ((d : Int) + 1) = (d : Int) + 1 := IntWalk.i64_in _ (by omega)
        have e5 : IntKind.i64.wrap ((m : Int) + ((d : Int) + 1)) = (m : Int) + ((d : Int) + 1) := IntWalk.i64_in _ (by omega)
        have HM2 : Hid (m + (d + 1) = many (l.take (k + 1))) := by show _ = _; rw [hmn, hd]
        have hb2 : m + (d + 1) ≤ 1073741824 * (k + 1) := by omega
        have q2 : (0 : Int) ≤ (k : Int) := by omega
        have q3 : (k : Int) < (n : Int) := by omega
        have XB := Lib.hid (fun o : Obj => hbel.out.alloc hbel.out.size o)
        clear hx hs hmn hd
        go_wp2
        go_roundw
        case rel => exact ⟨k + 1, m + (d + 1), by omega, by go_num, by go_num, hb2, HM2, Lib.hid (XB.out _)⟩
        case measure => simp [intOf]; omega
      · have q1 : decide (k < n) = false := by simpa using hkn
        have hkk : l.take k = l := List.take_of_length_le (by have := HN.out; omega)
        have hf : m = many l := by have := hmany.out; rwa [hkk] at this
        subst hf
        clear hkk
        go_wp2
        go_ret
        exact ⟨rfl, hbel.out⟩
end Go.Proofs.YtdackenaknieaaaGreat.Spans
