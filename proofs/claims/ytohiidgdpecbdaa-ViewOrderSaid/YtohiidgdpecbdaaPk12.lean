/- octavo/bag.Check: what it answers. Conditions: the slice's cells are operations. -/
import Derived.Deep.DrawnRows
import Derived.Deep.RegionHeld3
import Derived.Shelf.Abstract
import Derived.RangeFuncBox
import Derived.RangeFuncLeaves
import Derived.RangeFuncNested
import Derived.RangeFuncBound
import Derived.RangeFuncCalls
import Derived.OwnWalkIn
import Derived.TacticsInMore
import Derived.LoopNIn
import Derived.LoopIn
import Derived.Maps.Own
import Derived.Maps.OwnOps
import Derived.Maps.Views
import Derived.Test.YtohiidgdpecbdaaPk06
import Derived.Test.YtohiidgdpecbdaaPk02
import Derived.Test.YtohiidgdpecbdaaPk05
import Derived.Test.YtohiidgdpecbdaaPk01

namespace Go.Proofs.Ytohiidgdpecbdaa.Bags
open Go.RowKit Go.WideShapes Stamp Go.Proofs.Ytohiidgdpecbdaa.Place Ops Codes
attribute [local go_sem ↓] Go.wp_at_zero Go.wp_at_succ
attribute [local go_sem] yielded_undef

theorem chkL_no {l : List Opn} (h : ¬ Bag l) : chkL l = 8 := by unfold chkL; rw [bagB_no h]; rfl
theorem chkL_yes {l : List Opn} (h : Bag l) : chkL l = 0 := by unfold chkL; rw [(bagB_iff l).2 h]; rfl

set_option maxRecDepth 100000 in
set_option maxHeartbeats 16000000 in
theorem bCheck_any {v : Value} {l : List Opn} {w : World} (hv : OpL w v l) :
    Calls Try.prog 36 #[v] w fun e w' => e = .returned (.int .i64 (chkL l)) ∧ Below w.heap.size w w' := by
  obtain ⟨ao, cap, rfl⟩ := hv.shape
  obtain ⟨n, hn⟩ : ∃ n, n = l.length := ⟨_, rfl⟩
  have hmx : n ≤ 9223372036854775807 := by rw [hn]; exact hv.max
  have HV : Hid (∀ W : World, Below w.heap.size w W → OpL W (.slice ao l.length cap) l) := fun W h => hv.keeps h
  have HN := Lib.hid hn
  obtain ⟨q, hq⟩ : ∃ q, chkL l = q := ⟨_, rfl⟩
  have QN : Hid (¬ Bag l → q = 8) := fun h => by rw [← hq]; exact chkL_no h
  have QY : Hid (Bag l → q = 0) := fun h => by rw [← hq]; exact chkL_yes h
  rw [hq, ← hn]
  clear hv hn hq
  have B0 : Hid (Below w.heap.size w w) := Below.refl _ _
  go_enter Try.func36, Try.ntmps36
  by_cases hbig : 1024 < n
  · have q1 : decide (1024 < n) = true := decide_eq_true hbig
    have q2 : decide (1024 < (n : Int)) = true := decide_eq_true (by omega)
    obtain rfl : q = 8 := QN.out (fun h => by have := h.1; have := HN.out; omega)
    go_wp2
    go_ret
    exact ⟨rfl, B0.out⟩
  have q1 : decide (1024 < n) = false := decide_eq_false hbig
  have q2 : decide (1024 < (n : Int)) = false := decide_eq_false (by omega)
  go_wp2
  go_loopw [10] (fun i wr => ∃ j : Nat, j ≤ n ∧ i = .int .i64 (j : Int) ∧ Hid (∀ k (h : k < l.length), k < j → mayO (l[k]'h) = true) ∧ Hid (∀ k (h : k + 1 < l.length), k + 1 < j → lessO (l[k]'(by omega)) (l[k + 1]'h)) ∧ Hid (Below w.heap.size w wr)) (fun i _ => n - (intOf i).toNat)
  case atStart => exact ⟨0, by omega, rfl, fun k h hk => by omega, fun k h hk => by omega, B0⟩
  case round =>
    clear B0
    obtain ⟨j, hj, rfl, hmay, hless, hbel⟩ := hrel
    by_cases hjn : j < n
    rotate_left
    · have q3 : decide (j < n) = false := by simpa using hjn
      obtain rfl : q = 0 := QY.out (by
        refine ⟨by have := HN.out; omega, fun o ho => ?_, pw_adj (fun k h => hless.out k h (by have := HN.out; omega))⟩
        obtain ⟨i, hi, rfl⟩ := List.getElem_of_mem ho
        exact hmay.out i hi (by have := HN.out; omega))
      go_wp2
      go_ret
      exact ⟨rfl, hbel.out⟩
    have q3 : decide (j < n) = true := by simpa using hjn
    have q4 : (0 : Int) ≤ (j : Int) := by omega
    have q5 : (j : Int) < (n : Int) := by omega
    have hjl : j < l.length := by rw [← HN.out]; exact hjn
    obtain ⟨bb, oo, u, e, hbb, hru, h0, h1, h2, h3, h4⟩ := opl_at (HV.out wr hbel.out) j hjl
    subst e
    obtain ⟨x, hx⟩ : ∃ x, x = l[j]'hjl := ⟨_, rfl⟩
    rw [← hx] at hru h0 h1 h2 h4
    have HO : Hid (∀ v : Value, opv x v = .agg #[.int .u8 (x.k : Int), .int .u32 (x.t : Int), .int .u8 (x.r : Int), v, .int .i64 x.p]) := fun v => rfl
    obtain ⟨uo, uc, rfl⟩ := hru.shape
    obtain ⟨nu, hnu⟩ : ∃ n, n = x.pl.length := ⟨_, rfl⟩
    have HNU := Lib.hid hnu
    rw [← hnu] at hru h3
    clear hnu
    have MA : Hid (∀ W : World, Below wr.heap.size wr W → Calls Try.prog 56 #[opv x (.slice uo nu uc)] W fun e w' => e = .returned (.int .i64 (chkO x)) ∧ Below W.heap.size W w') := fun W h => oCheck_any (hru.keeps h)
    have HJ := Lib.hid hjl
    have HX : Hid (x = l[j]'hjl) := hx
    have LX : Hid (∀ (i : Nat) (hi : i + 1 = j) (W : World) (y : Opn), y = l[i]'(by omega) → Calls Try.prog 32 #[.agg #[.int .u32 (y.t : Int), .int .u8 (y.r : Int)], .agg #[.int .u32 (x.t : Int), .int .u8 (x.r : Int)]] W fun e w' => e = .returned (.bool (decide (lessO y x))) ∧ Below W.heap.size W w') := fun i hi W y hy => by
      have := less_any y.t y.r x.t x.r y.ht y.hr x.ht x.hr W
      rwa [show less y.t y.r x.t x.r = decide (lessO y x) from rfl] at this
    obtain ⟨my, hmy⟩ : ∃ b, mayO x = b := ⟨_, rfl⟩
    unfold chkO at MA
    rw [hmy] at MA
    have HMY := Lib.hid hmy
    clear hmy hx
    obtain ⟨k, hk⟩ : ∃ z, x.k = z := ⟨_, rfl⟩
    obtain ⟨t, ht⟩ : ∃ z, x.t = z := ⟨_, rfl⟩
    obtain ⟨r, hr⟩ : ∃ z, x.r = z := ⟨_, rfl⟩
    obtain ⟨p, hp⟩ : ∃ z, x.p = z := ⟨_, rfl⟩
    rw [hk, ht, hr, hp] at HO
    rw [hk] at h0
    rw [ht] at h1
    rw [hr] at h2
    rw [hp] at h4
    simp only [HO.out] at MA
    rw [ht, hr] at LX
    have BL : Hid (Below wr.heap.size wr (wr.alloc (.cells #[.int .u8 (k : Int), .int .u32 (t : Int), .int .u8 (r : Int), .slice uo nu uc, .int .i64 p] 54))) := (Below.refl _ _).alloc (Nat.le_refl _) _
    have SK : Hid (∀ w' : World, Below (wr.alloc (.cells #[.int .u8 (k : Int), .int .u32 (t : Int), .int .u8 (r : Int), .slice uo nu uc, .int .i64 p] 54)).heap.size (wr.alloc (.cells #[.int .u8 (k : Int), .int .u32 (t : Int), .int .u8 (r : Int), .slice uo nu uc, .int .i64 p] 54)) w' → Below (wr.alloc (.cells #[.int .u8 (k : Int), .int .u32 (t : Int), .int .u8 (r : Int), .slice uo nu uc, .int .i64 p] 54)).heap.size (wr.alloc (.cells #[.int .u8 (k : Int), .int .u32 (t : Int), .int .u8 (r : Int), .slice uo nu uc, .int .i64 p] 54)) w' ∧ w'.cell? ⟨wr.heap.size, 0, none⟩ = some (.int .u8 (k : Int)) ∧ w'.cell? ⟨wr.heap.size, 1, none⟩ = some (.int .u32 (t : Int)) ∧ w'.cell? ⟨wr.heap.size, 2, none⟩ = some (.int .u8 (r : Int)) ∧ w'.cell? ⟨wr.heap.size, 3, none⟩ = some (.slice uo nu uc) ∧ w'.cell? ⟨wr.heap.size, 4, none⟩ = some (.int .i64 p)) := fun W h => ⟨h, five_cells h⟩
    have SZ : wr.heap.size = wr.heap.size := rfl
    clear hk ht hr hp HO SZ
    cases my
    · obtain rfl : q = 8 := QN.out (fun h => by have := h.2.1 x (by rw [HX.out]; exact List.getElem_mem _); rw [HMY.out] at this; cases this)
      rw [if_neg (by simp)] at MA
      go_wp2
      refine wp_region_held_drew (S := fun w' => Below (wr.alloc (.cells #[.int .u8 (k : Int), .int .u32 (t : Int), .int .u8 (r : Int), .slice uo nu uc, .int .i64 p] 54)).heap.size (wr.alloc (.cells #[.int .u8 (k : Int), .int .u32 (t : Int), .int .u8 (r : Int), .slice uo nu uc, .int .i64 p] 54)) w' ∧ w'.cell? ⟨wr.heap.size, 0, none⟩ = some (.int .u8 (k : Int)) ∧ w'.cell? ⟨wr.heap.size, 1, none⟩ = some (.int .u32 (t : Int)) ∧ w'.cell? ⟨wr.heap.size, 2, none⟩ = some (.int .u8 (r : Int)) ∧ w'.cell? ⟨wr.heap.size, 3, none⟩ = some (.slice uo nu uc) ∧ w'.cell? ⟨wr.heap.size, 4, none⟩ = some (.int .i64 p)) (by kernel_rfl) (SK.out _ (drew1 _)) (fun hHeld => ?_)
      refine wpAnyH_take (i := 0) (v := ?va0) rfl (by kernel_rfl) (by kernel_rfl) (by kernel_rfl) (fun _ _ _ h => h) (Or.inl ⟨by rfl, ?ya0⟩) (by assumption) ?_
      case ya0 => intro w hSw; (try dsimp only at hSw); go_simp <;> with_reducible rfl
      try simp only [List.getElem_toArray, List.getElem_cons_zero, Act.put, List.setIfInBounds_toArray, List.set_cons_zero, List.set_cons_succ]
      refine wpAnyH_ready (rs := [1]) (by kernel_rfl) (by simp) ?_
      refine AllReadyH.cons rfl (fun K hK => ?_) ?za1
      case za1 => exact AllReadyH.nil
      go_simp
      refine (MA.out _ (bt BL.out hHeld.1)).mono ?_
      rintro e w9a1 ⟨rfl, b9⟩
      refine hK.out _ _ (SK.out _ (bt hHeld.1 b9)) (fun hNew => ?_)
      clear hHeld
      have hHeld := hNew
      clear hNew hK K
      try simp only [List.getElem_toArray, List.getElem_cons_succ, List.getElem_cons_zero, Act.put, List.setIfInBounds_toArray, List.set_cons_zero, List.set_cons_succ]
      refine wpAnyH_take (i := 2) (v := ?va2) rfl (by kernel_rfl) (by kernel_rfl) (by kernel_rfl) (fun _ _ _ h => h) (Or.inl ⟨by rfl, ?ya2⟩) (by assumption) ?_
      case ya2 => intro w hSw; (try dsimp only at hSw); go_simp <;> with_reducible rfl
      try simp only [List.getElem_toArray, List.getElem_cons_succ, List.getElem_cons_zero, Act.put, List.setIfInBounds_toArray, List.set_cons_zero, List.set_cons_succ]
      refine wpAnyH_take (i := 3) (v := ?va3) rfl (by kernel_rfl) (by kernel_rfl) (by kernel_rfl) (fun _ _ _ h => h) (Or.inl ⟨by rfl, ?ya3⟩) (by assumption) ?_
      case ya3 => intro w hSw; (try dsimp only at hSw); go_simp <;> with_reducible rfl
      try simp only [List.getElem_toArray, List.getElem_cons_succ, List.getElem_cons_zero, Act.put, List.setIfInBounds_toArray, List.set_cons_zero, List.set_cons_succ]
      refine wpAnyH_take (i := 4) (v := undef) rfl (by kernel_rfl) (by kernel_rfl) (by kernel_rfl) (fun _ _ _ h => h) (Or.inr ⟨by rfl, rfl⟩) (by assumption) ?_
      try simp only [List.getElem_toArray, List.getElem_cons_succ, List.getElem_cons_zero, Act.put, List.setIfInBounds_toArray, List.set_cons_zero, List.set_cons_succ]
      refine wpAnyH_take (i := 5) (v := undef) rfl (by kernel_rfl) (by kernel_rfl) (by kernel_rfl) (fun _ _ _ h => h) (Or.inr ⟨by rfl, rfl⟩) (by assumption) ?_
      try simp only [List.getElem_toArray, List.getElem_cons_succ, List.getElem_cons_zero, Act.put, List.setIfInBounds_toArray, List.set_cons_zero, List.set_cons_succ]
      refine wpAnyH_take (i := 6) (v := undef) rfl (by kernel_rfl) (by kernel_rfl) (by kernel_rfl) (fun _ _ _ h => h) (Or.inr ⟨by rfl, rfl⟩) (by assumption) ?_
      try simp only [List.getElem_toArray, List.getElem_cons_succ, List.getElem_cons_zero, Act.put, List.setIfInBounds_toArray, List.set_cons_zero, List.set_cons_succ]
      refine wpAnyH_take (i := 7) (v := undef) rfl (by kernel_rfl) (by kernel_rfl) (by kernel_rfl) (fun _ _ _ h => h) (Or.inr ⟨by rfl, rfl⟩) (by assumption) ?_
      try simp only [List.getElem_toArray, List.getElem_cons_succ, List.getElem_cons_zero, Act.put, List.setIfInBounds_toArray, List.set_cons_zero, List.set_cons_succ]
      refine wpAnyH_take (i := 8) (v := undef) rfl (by kernel_rfl) (by kernel_rfl) (by kernel_rfl) (fun _ _ _ h => h) (Or.inr ⟨by rfl, rfl⟩) (by assumption) ?_
      try simp only [List.getElem_toArray, List.getElem_cons_succ, List.getElem_cons_zero, Act.put, List.setIfInBounds_toArray, List.set_cons_zero, List.set_cons_succ]
      refine wpAnyH_take (i := 9) (v := undef) rfl (by kernel_rfl) (by kernel_rfl) (by kernel_rfl) (fun _ _ _ h => h) (Or.inr ⟨by rfl, rfl⟩) (by assumption) ?_
      try simp only [List.getElem_toArray, List.getElem_cons_succ, List.getElem_cons_zero, Act.put, List.setIfInBounds_toArray, List.set_cons_zero, List.set_cons_succ]
      refine wpAnyH_take (i := 10) (v := undef) rfl (by kernel_rfl) (by kernel_rfl) (by kernel_rfl) (fun _ _ _ h => h) (Or.inr ⟨by rfl, rfl⟩) (by assumption) ?_
      try simp only [List.getElem_toArray, List.getElem_cons_succ, List.getElem_cons_zero, Act.put, List.setIfInBounds_toArray, List.set_cons_zero, List.set_cons_succ]
      refine wpAnyH_take (i := 11) (v := undef) rfl (by kernel_rfl) (by kernel_rfl) (by kernel_rfl) (fun _ _ _ h => h) (Or.inr ⟨by rfl, rfl⟩) (by assumption) ?_
      try simp only [List.getElem_toArray, List.getElem_cons_succ, List.getElem_cons_zero, Act.put, List.setIfInBounds_toArray, List.set_cons_zero, List.set_cons_succ]
      refine wpAnyH_take (i := 12) (v := undef) rfl (by kernel_rfl) (by kernel_rfl) (by kernel_rfl) (fun _ _ _ h => h) (Or.inr ⟨by rfl, rfl⟩) (by assumption) ?_
      try simp only [List.getElem_toArray, List.getElem_cons_succ, List.getElem_cons_zero, Act.put, List.setIfInBounds_toArray, List.set_cons_zero, List.set_cons_succ]
      refine wpAnyH_take (i := 13) (v := undef) rfl (by kernel_rfl) (by kernel_rfl) (by kernel_rfl) (fun _ _ _ h => h) (Or.inr ⟨by rfl, rfl⟩) (by assumption) ?_
      try simp only [List.getElem_toArray, List.getElem_cons_succ, List.getElem_cons_zero, Act.put, List.setIfInBounds_toArray, List.set_cons_zero, List.set_cons_succ]
      refine wpAnyH_take (i := 14) (v := undef) rfl (by kernel_rfl) (by kernel_rfl) (by kernel_rfl) (fun _ _ _ h => h) (Or.inr ⟨by rfl, rfl⟩) (by assumption) ?_
      try simp only [List.getElem_toArray, List.getElem_cons_succ, List.getElem_cons_zero, Act.put, List.setIfInBounds_toArray, List.set_cons_zero, List.set_cons_succ]
      refine wpAnyH_take (i := 15) (v := undef) rfl (by kernel_rfl) (by kernel_rfl) (by kernel_rfl) (fun _ _ _ h => h) (Or.inr ⟨by rfl, rfl⟩) (by assumption) ?_
      try simp only [List.getElem_toArray, List.getElem_cons_succ, List.getElem_cons_zero, Act.put, List.setIfInBounds_toArray, List.set_cons_zero, List.set_cons_succ]
      refine wpAnyH_take (i := 16) (v := undef) rfl (by kernel_rfl) (by kernel_rfl) (by kernel_rfl) (fun _ _ _ h => h) (Or.inr ⟨by rfl, rfl⟩) (by assumption) ?_
      try simp only [List.getElem_toArray, List.getElem_cons_succ, List.getElem_cons_zero, Act.put, List.setIfInBounds_toArray, List.set_cons_zero, List.set_cons_succ]
      refine wpAnyH_take (i := 17) (v := undef) rfl (by kernel_rfl) (by kernel_rfl) (by kernel_rfl) (fun _ _ _ h => h) (Or.inr ⟨by rfl, rfl⟩) (by assumption) ?_
      try simp only [List.getElem_toArray, List.getElem_cons_succ, List.getElem_cons_zero, Act.put, List.setIfInBounds_toArray, List.set_cons_zero, List.set_cons_succ]
      refine wpAnyH_take (i := 18) (v := ?va18) rfl (by kernel_rfl) (by kernel_rfl) (by kernel_rfl) (fun _ _ _ h => h) (Or.inl ⟨by rfl, ?ya18⟩) (by assumption) ?_
      case ya18 => intro w hSw; (try dsimp only at hSw); go_simp <;> with_reducible rfl
      try simp only [List.getElem_toArray, List.getElem_cons_succ, List.getElem_cons_zero, Act.put, List.setIfInBounds_toArray, List.set_cons_zero, List.set_cons_succ]
      refine wpAnyH_done (by kernel_rfl) ?_ _
      go_wp2
      go_ret
      exact ⟨rfl, bt hbel.out (bt BL.out hHeld.1)⟩
    rw [if_pos rfl] at MA
    have MJ : Hid (∀ k (h : k < l.length), k < j + 1 → mayO (l[k]'h) = true) := fun i h hi => by
      by_cases e : i = j
      · subst e; rw [← HX.out]; exact HMY.out
      · exact hmay.out i h (by omega)
    by_cases hj0 : j = 0
    · have q8 : decide (0 < (j : Int)) = false := decide_eq_false (by omega)
      have q9 : decide (0 < j) = false := decide_eq_false (by omega)
      have LJ : Hid (∀ k (h : k + 1 < l.length), k + 1 < j + 1 → lessO (l[k]'(by omega)) (l[k + 1]'h)) := fun k h hk => by omega
      clear hj0
      go_wp2
      refine wp_region_held_drew (S := fun w' => Below (wr.alloc (.cells #[.int .u8 (k : Int), .int .u32 (t : Int), .int .u8 (r : Int), .slice uo nu uc, .int .i64 p] 54)).heap.size (wr.alloc (.cells #[.int .u8 (k : Int), .int .u32 (t : Int), .int .u8 (r : Int), .slice uo nu uc, .int .i64 p] 54)) w' ∧ w'.cell? ⟨wr.heap.size, 0, none⟩ = some (.int .u8 (k : Int)) ∧ w'.cell? ⟨wr.heap.size, 1, none⟩ = some (.int .u32 (t : Int)) ∧ w'.cell? ⟨wr.heap.size, 2, none⟩ = some (.int .u8 (r : Int)) ∧ w'.cell? ⟨wr.heap.size, 3, none⟩ = some (.slice uo nu uc) ∧ w'.cell? ⟨wr.heap.size, 4, none⟩ = some (.int .i64 p)) (by kernel_rfl) (SK.out _ (drew1 _)) (fun hHeld => ?_)
      refine wpAnyH_take (i := 0) (v := ?vb0) rfl (by kernel_rfl) (by kernel_rfl) (by kernel_rfl) (fun _ _ _ h => h) (Or.inl ⟨by rfl, ?yb0⟩) (by assumption) ?_
      case yb0 => intro w hSw; (try dsimp only at hSw); go_simp <;> with_reducible rfl
      try simp only [List.getElem_toArray, List.getElem_cons_zero, Act.put, List.setIfInBounds_toArray, List.set_cons_zero, List.set_cons_succ]
      refine wpAnyH_ready (rs := [1]) (by kernel_rfl) (by simp) ?_
      refine AllReadyH.cons rfl (fun K hK => ?_) ?zb1
      case zb1 => exact AllReadyH.nil
      go_simp
      refine (MA.out _ (bt BL.out hHeld.1)).mono ?_
      rintro e w9b1 ⟨rfl, b9⟩
      refine hK.out _ _ (SK.out _ (bt hHeld.1 b9)) (fun hNew => ?_)
      clear hHeld
      have hHeld := hNew
      clear hNew hK K
      try simp only [List.getElem_toArray, List.getElem_cons_succ, List.getElem_cons_zero, Act.put, List.setIfInBounds_toArray, List.set_cons_zero, List.set_cons_succ]
      refine wpAnyH_take (i := 2) (v := ?vb2) rfl (by kernel_rfl) (by kernel_rfl) (by kernel_rfl) (fun _ _ _ h => h) (Or.inl ⟨by rfl, ?yb2⟩) (by assumption) ?_
      case yb2 => intro w hSw; (try dsimp only at hSw); go_simp <;> with_reducible rfl
      try simp only [List.getElem_toArray, List.getElem_cons_succ, List.getElem_cons_zero, Act.put, List.setIfInBounds_toArray, List.set_cons_zero, List.set_cons_succ]
      refine wpAnyH_take (i := 3) (v := ?vb3) rfl (by kernel_rfl) (by kernel_rfl) (by kernel_rfl) (fun _ _ _ h => h) (Or.inl ⟨by rfl, ?yb3⟩) (by assumption) ?_
      case yb3 => intro w hSw; (try dsimp only at hSw); go_simp <;> with_reducible rfl
      try simp only [List.getElem_toArray, List.getElem_cons_succ, List.getElem_cons_zero, Act.put, List.setIfInBounds_toArray, List.set_cons_zero, List.set_cons_succ]
      refine wpAnyH_take (i := 4) (v := ?vb4) rfl (by kernel_rfl) (by kernel_rfl) (by kernel_rfl) (fun _ _ _ h => h) (Or.inl ⟨by rfl, ?yb4⟩) (by assumption) ?_
      case yb4 => intro w hSw; (try dsimp only at hSw); go_simp <;> with_reducible rfl
      try simp only [List.getElem_toArray, List.getElem_cons_succ, List.getElem_cons_zero, Act.put, List.setIfInBounds_toArray, List.set_cons_zero, List.set_cons_succ]
      refine wpAnyH_take (i := 5) (v := ?vb5) rfl (by kernel_rfl) (by kernel_rfl) (by kernel_rfl) (fun _ _ _ h => h) (Or.inl ⟨by rfl, ?yb5⟩) (by assumption) ?_
      case yb5 => intro w hSw; (try dsimp only at hSw); go_simp <;> with_reducible rfl
      try simp only [List.getElem_toArray, List.getElem_cons_succ, List.getElem_cons_zero, Act.put, List.setIfInBounds_toArray, List.set_cons_zero, List.set_cons_succ]
      refine wpAnyH_take (i := 6) (v := ?vb6) rfl (by kernel_rfl) (by kernel_rfl) (by kernel_rfl) (fun _ _ _ h => h) (Or.inl ⟨by rfl, ?yb6⟩) (by assumption) ?_
      case yb6 => intro w hSw; (try dsimp only at hSw); go_simp <;> with_reducible rfl
      try simp only [List.getElem_toArray, List.getElem_cons_succ, List.getElem_cons_zero, Act.put, List.setIfInBounds_toArray, List.set_cons_zero, List.set_cons_succ]
      refine wpAnyH_take (i := 7) (v := undef) rfl (by kernel_rfl) (by kernel_rfl) (by kernel_rfl) (fun _ _ _ h => h) (Or.inr ⟨by rfl, rfl⟩) (by assumption) ?_
      try simp only [List.getElem_toArray, List.getElem_cons_succ, List.getElem_cons_zero, Act.put, List.setIfInBounds_toArray, List.set_cons_zero, List.set_cons_succ]
      refine wpAnyH_take (i := 8) (v := undef) rfl (by kernel_rfl) (by kernel_rfl) (by kernel_rfl) (fun _ _ _ h => h) (Or.inr ⟨by rfl, rfl⟩) (by assumption) ?_
      try simp only [List.getElem_toArray, List.getElem_cons_succ, List.getElem_cons_zero, Act.put, List.setIfInBounds_toArray, List.set_cons_zero, List.set_cons_succ]
      refine wpAnyH_take (i := 9) (v := undef) rfl (by kernel_rfl) (by kernel_rfl) (by kernel_rfl) (fun _ _ _ h => h) (Or.inr ⟨by rfl, rfl⟩) (by assumption) ?_
      try simp only [List.getElem_toArray, List.getElem_cons_succ, List.getElem_cons_zero, Act.put, List.setIfInBounds_toArray, List.set_cons_zero, List.set_cons_succ]
      refine wpAnyH_take (i := 10) (v := undef) rfl (by kernel_rfl) (by kernel_rfl) (by kernel_rfl) (fun _ _ _ h => h) (Or.inr ⟨by rfl, rfl⟩) (by assumption) ?_
      try simp only [List.getElem_toArray, List.getElem_cons_succ, List.getElem_cons_zero, Act.put, List.setIfInBounds_toArray, List.set_cons_zero, List.set_cons_succ]
      refine wpAnyH_take (i := 11) (v := undef) rfl (by kernel_rfl) (by kernel_rfl) (by kernel_rfl) (fun _ _ _ h => h) (Or.inr ⟨by rfl, rfl⟩) (by assumption) ?_
      try simp only [List.getElem_toArray, List.getElem_cons_succ, List.getElem_cons_zero, Act.put, List.setIfInBounds_toArray, List.set_cons_zero, List.set_cons_succ]
      refine wpAnyH_take (i := 12) (v := undef) rfl (by kernel_rfl) (by kernel_rfl) (by kernel_rfl) (fun _ _ _ h => h) (Or.inr ⟨by rfl, rfl⟩) (by assumption) ?_
      try simp only [List.getElem_toArray, List.getElem_cons_succ, List.getElem_cons_zero, Act.put, List.setIfInBounds_toArray, List.set_cons_zero, List.set_cons_succ]
      refine wpAnyH_take (i := 13) (v := undef) rfl (by kernel_rfl) (by kernel_rfl) (by kernel_rfl) (fun _ _ _ h => h) (Or.inr ⟨by rfl, rfl⟩) (by assumption) ?_
      try simp only [List.getElem_toArray, List.getElem_cons_succ, List.getElem_cons_zero, Act.put, List.setIfInBounds_toArray, List.set_cons_zero, List.set_cons_succ]
      refine wpAnyH_take (i := 14) (v := undef) rfl (by kernel_rfl) (by kernel_rfl) (by kernel_rfl) (fun _ _ _ h => h) (Or.inr ⟨by rfl, rfl⟩) (by assumption) ?_
      try simp only [List.getElem_toArray, List.getElem_cons_succ, List.getElem_cons_zero, Act.put, List.setIfInBounds_toArray, List.set_cons_zero, List.set_cons_succ]
      refine wpAnyH_take (i := 15) (v := undef) rfl (by kernel_rfl) (by kernel_rfl) (by kernel_rfl) (fun _ _ _ h => h) (Or.inr ⟨by rfl, rfl⟩) (by assumption) ?_
      try simp only [List.getElem_toArray, List.getElem_cons_succ, List.getElem_cons_zero, Act.put, List.setIfInBounds_toArray, List.set_cons_zero, List.set_cons_succ]
      refine wpAnyH_take (i := 16) (v := undef) rfl (by kernel_rfl) (by kernel_rfl) (by kernel_rfl) (fun _ _ _ h => h) (Or.inr ⟨by rfl, rfl⟩) (by assumption) ?_
      try simp only [List.getElem_toArray, List.getElem_cons_succ, List.getElem_cons_zero, Act.put, List.setIfInBounds_toArray, List.set_cons_zero, List.set_cons_succ]
      refine wpAnyH_take (i := 17) (v := ?vb17) rfl (by kernel_rfl) (by kernel_rfl) (by kernel_rfl) (fun _ _ _ h => h) (Or.inl ⟨by rfl, ?yb17⟩) (by assumption) ?_
      case yb17 => intro w hSw; (try dsimp only at hSw); go_simp <;> with_reducible rfl
      try simp only [List.getElem_toArray, List.getElem_cons_succ, List.getElem_cons_zero, Act.put, List.setIfInBounds_toArray, List.set_cons_zero, List.set_cons_succ]
      refine wpAnyH_take (i := 18) (v := ?vb18) rfl (by kernel_rfl) (by kernel_rfl) (by kernel_rfl) (fun _ _ _ h => h) (Or.inl ⟨by rfl, ?yb18⟩) (by assumption) ?_
      case yb18 => intro w hSw; (try dsimp only at hSw); go_simp <;> with_reducible rfl
      try simp only [List.getElem_toArray, List.getElem_cons_succ, List.getElem_cons_zero, Act.put, List.setIfInBounds_toArray, List.set_cons_zero, List.set_cons_succ]
      refine wpAnyH_done (by kernel_rfl) ?_ _
      go_wp2
      go_roundw
      case rel => exact ⟨j + 1, by omega, by go_num, MJ, LJ, Lib.hid (bt hbel.out (bt BL.out hHeld.1))⟩
      case measure => simp [intOf]; omega
    obtain ⟨i, hi⟩ : ∃ i, i + 1 = j := ⟨j - 1, by omega⟩
    have hil : i < l.length := by omega
    obtain ⟨bby, ooy, uy, ey, hbby, hruy, h0y, h1y, h2y, h3y, h4y⟩ := opl_at (HV.out wr hbel.out) i hil
    cases ey
    obtain ⟨xy, hxy⟩ : ∃ x, x = l[i]'hil := ⟨_, rfl⟩
    rw [← hxy] at hruy h0y h1y h2y h4y
    have HOy : Hid (∀ v : Value, opv xy v = .agg #[.int .u8 (xy.k : Int), .int .u32 (xy.t : Int), .int .u8 (xy.r : Int), v, .int .i64 xy.p]) := fun v => rfl
    have LY := Lib.hid (fun W => LX.out i hi W xy hxy)
    have HXY : Hid (xy = l[i]'hil) := hxy
    clear hxy LX hruy
    obtain ⟨ly, hly⟩ : ∃ b, decide (lessO xy x) = b := ⟨_, rfl⟩
    rw [hly] at LY
    have HLY := Lib.hid hly
    clear hly
    obtain ⟨ky, hky⟩ : ∃ z, xy.k = z := ⟨_, rfl⟩
    obtain ⟨ty, hty⟩ : ∃ z, xy.t = z := ⟨_, rfl⟩
    obtain ⟨ry, hry⟩ : ∃ z, xy.r = z := ⟨_, rfl⟩
    obtain ⟨py, hpy⟩ : ∃ z, xy.p = z := ⟨_, rfl⟩
    rw [hky, hty, hry, hpy] at HOy
    rw [hky] at h0y
    rw [hty] at h1y
    rw [hry] at h2y
    rw [hpy] at h4y
    rw [hty, hry] at LY
    have SL : Hid (∀ w' : World, Below (wr.alloc (.cells #[.int .u8 (k : Int), .int .u32 (t : Int), .int .u8 (r : Int), .slice uo nu uc, .int .i64 p] 54)).heap.size (wr.alloc (.cells #[.int .u8 (k : Int), .int .u32 (t : Int), .int .u8 (r : Int), .slice uo nu uc, .int .i64 p] 54)) w' → Below (wr.alloc (.cells #[.int .u8 (k : Int), .int .u32 (t : Int), .int .u8 (r : Int), .slice uo nu uc, .int .i64 p] 54)).heap.size (wr.alloc (.cells #[.int .u8 (k : Int), .int .u32 (t : Int), .int .u8 (r : Int), .slice uo nu uc, .int .i64 p] 54)) w' ∧ w'.cell? ⟨wr.heap.size, 0, none⟩ = some (.int .u8 (k : Int)) ∧ w'.cell? ⟨wr.heap.size, 1, none⟩ = some (.int .u32 (t : Int)) ∧ w'.cell? ⟨wr.heap.size, 2, none⟩ = some (.int .u8 (r : Int)) ∧ w'.cell? ⟨wr.heap.size, 3, none⟩ = some (.slice uo nu uc) ∧ w'.cell? ⟨wr.heap.size, 4, none⟩ = some (.int .i64 p) ∧ w'.cell? ⟨bb, oo + i * 5 + 1, none⟩ = some (.int .u32 (ty : Int)) ∧ w'.cell? ⟨bb, oo + i * 5 + 2, none⟩ = some (.int .u8 (ry : Int))) := fun W h => by
      have a1 := five_cells h
      have b1 := bt BL.out h
      exact ⟨h, a1.1, a1.2.1, a1.2.2.1, a1.2.2.2.1, a1.2.2.2.2, (b1.cell (p := ⟨bb, oo + i * 5 + 1, none⟩) hbb).trans h1y, (b1.cell (p := ⟨bb, oo + i * 5 + 2, none⟩) hbb).trans h2y⟩
    have ej : (j : Int) - 1 = (i : Int) := by omega
    have ew : IntKind.i64.wrap (i : Int) = (i : Int) := IntWalk.i64_in _ (by omega)
    have q6 : (0 : Int) ≤ (i : Int) := by omega
    have q7 : (i : Int) < (n : Int) := by omega
    have q8 : decide (0 < (j : Int)) = true := decide_eq_true (by omega)
    have q9 : decide (0 < j) = true := decide_eq_true (by omega)
    clear hky hty hry hpy h0y h1y h2y h3y h4y HOy SK hbby
    cases ly
    · obtain rfl : q = 8 := QN.out (fun h => by have h2 := of_decide_eq_false HLY.out; rw [HXY.out, HX.out] at h2; exact h2 (List.pairwise_iff_getElem.1 h.2.2 i j hil HJ.out (by omega)))
      go_wp2
      refine wp_region_held_drew (S := fun w' => Below (wr.alloc (.cells #[.int .u8 (k : Int), .int .u32 (t : Int), .int .u8 (r : Int), .slice uo nu uc, .int .i64 p] 54)).heap.size (wr.alloc (.cells #[.int .u8 (k : Int), .int .u32 (t : Int), .int .u8 (r : Int), .slice uo nu uc, .int .i64 p] 54)) w' ∧ w'.cell? ⟨wr.heap.size, 0, none⟩ = some (.int .u8 (k : Int)) ∧ w'.cell? ⟨wr.heap.size, 1, none⟩ = some (.int .u32 (t : Int)) ∧ w'.cell? ⟨wr.heap.size, 2, none⟩ = some (.int .u8 (r : Int)) ∧ w'.cell? ⟨wr.heap.size, 3, none⟩ = some (.slice uo nu uc) ∧ w'.cell? ⟨wr.heap.size, 4, none⟩ = some (.int .i64 p) ∧ w'.cell? ⟨bb, oo + i * 5 + 1, none⟩ = some (.int .u32 (ty : Int)) ∧ w'.cell? ⟨bb, oo + i * 5 + 2, none⟩ = some (.int .u8 (ry : Int))) (by kernel_rfl) (SL.out _ (drew1 _)) (fun hHeld => ?_)
      refine wpAnyH_take (i := 0) (v := ?vc0) rfl (by kernel_rfl) (by kernel_rfl) (by kernel_rfl) (fun _ _ _ h => h) (Or.inl ⟨by rfl, ?yc0⟩) (by assumption) ?_
      case yc0 => intro w hSw; (try dsimp only at hSw); go_simp <;> with_reducible rfl
      try simp only [List.getElem_toArray, List.getElem_cons_zero, Act.put, List.setIfInBounds_toArray, List.set_cons_zero, List.set_cons_succ]
      refine wpAnyH_ready (rs := [1]) (by kernel_rfl) (by simp) ?_
      refine AllReadyH.cons rfl (fun K hK => ?_) ?zc1
      case zc1 => exact AllReadyH.nil
      go_simp
      refine (MA.out _ (bt BL.out hHeld.1)).mono ?_
      rintro e w9c1 ⟨rfl, b9⟩
      refine hK.out _ _ (SL.out _ (bt hHeld.1 b9)) (fun hNew => ?_)
      clear hHeld
      have hHeld := hNew
      clear hNew hK K
      try simp only [List.getElem_toArray, List.getElem_cons_succ, List.getElem_cons_zero, Act.put, List.setIfInBounds_toArray, List.set_cons_zero, List.set_cons_succ]
      refine wpAnyH_take (i := 2) (v := ?vc2) rfl (by kernel_rfl) (by kernel_rfl) (by kernel_rfl) (fun _ _ _ h => h) (Or.inl ⟨by rfl, ?yc2⟩) (by assumption) ?_
      case yc2 => intro w hSw; (try dsimp only at hSw); go_simp <;> with_reducible rfl
      try simp only [List.getElem_toArray, List.getElem_cons_succ, List.getElem_cons_zero, Act.put, List.setIfInBounds_toArray, List.set_cons_zero, List.set_cons_succ]
      refine wpAnyH_take (i := 3) (v := ?vc3) rfl (by kernel_rfl) (by kernel_rfl) (by kernel_rfl) (fun _ _ _ h => h) (Or.inl ⟨by rfl, ?yc3⟩) (by assumption) ?_
      case yc3 => intro w hSw; (try dsimp only at hSw); go_simp <;> with_reducible rfl
      try simp only [List.getElem_toArray, List.getElem_cons_succ, List.getElem_cons_zero, Act.put, List.setIfInBounds_toArray, List.set_cons_zero, List.set_cons_succ]
      refine wpAnyH_take (i := 4) (v := ?vc4) rfl (by kernel_rfl) (by kernel_rfl) (by kernel_rfl) (fun _ _ _ h => h) (Or.inl ⟨by rfl, ?yc4⟩) (by assumption) ?_
      case yc4 => intro w hSw; (try dsimp only at hSw); go_simp <;> with_reducible rfl
      try simp only [List.getElem_toArray, List.getElem_cons_succ, List.getElem_cons_zero, Act.put, List.setIfInBounds_toArray, List.set_cons_zero, List.set_cons_succ]
      refine wpAnyH_take (i := 5) (v := ?vc5) rfl (by kernel_rfl) (by kernel_rfl) (by kernel_rfl) (fun _ _ _ h => h) (Or.inl ⟨by rfl, ?yc5⟩) (by assumption) ?_
      case yc5 => intro w hSw; (try dsimp only at hSw); go_simp <;> with_reducible rfl
      try simp only [List.getElem_toArray, List.getElem_cons_succ, List.getElem_cons_zero, Act.put, List.setIfInBounds_toArray, List.set_cons_zero, List.set_cons_succ]
      refine wpAnyH_take (i := 6) (v := ?vc6) rfl (by kernel_rfl) (by kernel_rfl) (by kernel_rfl) (fun _ _ _ h => h) (Or.inl ⟨by rfl, ?yc6⟩) (by assumption) ?_
      case yc6 => intro w hSw; (try dsimp only at hSw); go_simp <;> with_reducible rfl
      try simp only [List.getElem_toArray, List.getElem_cons_succ, List.getElem_cons_zero, Act.put, List.setIfInBounds_toArray, List.set_cons_zero, List.set_cons_succ]
      refine wpAnyH_take (i := 7) (v := ?vc7) rfl (by kernel_rfl) (by kernel_rfl) (by kernel_rfl) (fun _ _ _ h => h) (Or.inl ⟨by rfl, ?yc7⟩) (by assumption) ?_
      case yc7 => intro w hSw; (try dsimp only at hSw); go_simp <;> with_reducible rfl
      try simp only [List.getElem_toArray, List.getElem_cons_succ, List.getElem_cons_zero, Act.put, List.setIfInBounds_toArray, List.set_cons_zero, List.set_cons_succ]
      refine wpAnyH_take (i := 8) (v := ?vc8) rfl (by kernel_rfl) (by kernel_rfl) (by kernel_rfl) (fun _ _ _ h => h) (Or.inl ⟨by rfl, ?yc8⟩) (by assumption) ?_
      case yc8 => intro w hSw; (try dsimp only at hSw); go_simp <;> with_reducible rfl
      try simp only [List.getElem_toArray, List.getElem_cons_succ, List.getElem_cons_zero, Act.put, List.setIfInBounds_toArray, List.set_cons_zero, List.set_cons_succ]
      refine wpAnyH_take (i := 9) (v := ?vc9) rfl (by kernel_rfl) (by kernel_rfl) (by kernel_rfl) (fun _ _ _ h => h) (Or.inl ⟨by rfl, ?yc9⟩) (by assumption) ?_
      case yc9 => intro w hSw; (try dsimp only at hSw); go_simp <;> with_reducible rfl
      try simp only [List.getElem_toArray, List.getElem_cons_succ, List.getElem_cons_zero, Act.put, List.setIfInBounds_toArray, List.set_cons_zero, List.set_cons_succ]
      refine wpAnyH_take (i := 10) (v := ?vc10) rfl (by kernel_rfl) (by kernel_rfl) (by kernel_rfl) (fun _ _ _ h => h) (Or.inl ⟨by rfl, ?yc10⟩) (by assumption) ?_
      case yc10 => intro w hSw; (try dsimp only at hSw); go_simp <;> with_reducible rfl
      try simp only [List.getElem_toArray, List.getElem_cons_succ, List.getElem_cons_zero, Act.put, List.setIfInBounds_toArray, List.set_cons_zero, List.set_cons_succ]
      refine wpAnyH_take (i := 11) (v := ?vc11) rfl (by kernel_rfl) (by kernel_rfl) (by kernel_rfl) (fun _ _ _ h => h) (Or.inl ⟨by rfl, ?yc11⟩) (by assumption) ?_
      case yc11 => intro w hSw; (try dsimp only at hSw); go_simp <;> with_reducible rfl
      try simp only [List.getElem_toArray, List.getElem_cons_succ, List.getElem_cons_zero, Act.put, List.setIfInBounds_toArray, List.set_cons_zero, List.set_cons_succ]
      refine wpAnyH_take (i := 12) (v := ?vc12) rfl (by kernel_rfl) (by kernel_rfl) (by kernel_rfl) (fun _ _ _ h => h) (Or.inl ⟨by rfl, ?yc12⟩) (by assumption) ?_
      case yc12 => intro w hSw; (try dsimp only at hSw); go_simp <;> with_reducible rfl
      try simp only [List.getElem_toArray, List.getElem_cons_succ, List.getElem_cons_zero, Act.put, List.setIfInBounds_toArray, List.set_cons_zero, List.set_cons_succ]
      refine wpAnyH_take (i := 13) (v := ?vc13) rfl (by kernel_rfl) (by kernel_rfl) (by kernel_rfl) (fun _ _ _ h => h) (Or.inl ⟨by rfl, ?yc13⟩) (by assumption) ?_
      case yc13 => intro w hSw; (try dsimp only at hSw); go_simp <;> with_reducible rfl
      try simp only [List.getElem_toArray, List.getElem_cons_succ, List.getElem_cons_zero, Act.put, List.setIfInBounds_toArray, List.set_cons_zero, List.set_cons_succ]
      refine wpAnyH_take (i := 14) (v := ?vc14) rfl (by kernel_rfl) (by kernel_rfl) (by kernel_rfl) (fun _ _ _ h => h) (Or.inl ⟨by rfl, ?yc14⟩) (by assumption) ?_
      case yc14 => intro w hSw; (try dsimp only at hSw); go_simp <;> with_reducible rfl
      try simp only [List.getElem_toArray, List.getElem_cons_succ, List.getElem_cons_zero, Act.put, List.setIfInBounds_toArray, List.set_cons_zero, List.set_cons_succ]
      refine wpAnyH_ready (rs := [15]) (by kernel_rfl) (by simp) ?_
      refine AllReadyH.cons rfl (fun K hK => ?_) ?zc15
      case zc15 => exact AllReadyH.nil
      go_simp
      refine (LY.out _).mono ?_
      rintro e w9c15 ⟨rfl, b9⟩
      refine hK.out _ _ (SL.out _ (bt hHeld.1 b9)) (fun hNew => ?_)
      clear hHeld
      have hHeld := hNew
      clear hNew hK K
      try simp only [List.getElem_toArray, List.getElem_cons_succ, List.getElem_cons_zero, Act.put, List.setIfInBounds_toArray, List.set_cons_zero, List.set_cons_succ]
      refine wpAnyH_take (i := 16) (v := ?vc16) rfl (by kernel_rfl) (by kernel_rfl) (by kernel_rfl) (fun _ _ _ h => h) (Or.inl ⟨by rfl, ?yc16⟩) (by assumption) ?_
      case yc16 => intro w hSw; (try dsimp only at hSw); go_simp <;> with_reducible rfl
      try simp only [List.getElem_toArray, List.getElem_cons_succ, List.getElem_cons_zero, Act.put, List.setIfInBounds_toArray, List.set_cons_zero, List.set_cons_succ]
      refine wpAnyH_take (i := 17) (v := ?vc17) rfl (by kernel_rfl) (by kernel_rfl) (by kernel_rfl) (fun _ _ _ h => h) (Or.inl ⟨by rfl, ?yc17⟩) (by assumption) ?_
      case yc17 => intro w hSw; (try dsimp only at hSw); go_simp <;> with_reducible rfl
      try simp only [List.getElem_toArray, List.getElem_cons_succ, List.getElem_cons_zero, Act.put, List.setIfInBounds_toArray, List.set_cons_zero, List.set_cons_succ]
      refine wpAnyH_take (i := 18) (v := ?vc18) rfl (by kernel_rfl) (by kernel_rfl) (by kernel_rfl) (fun _ _ _ h => h) (Or.inl ⟨by rfl, ?yc18⟩) (by assumption) ?_
      case yc18 => intro w hSw; (try dsimp only at hSw); go_simp <;> with_reducible rfl
      try simp only [List.getElem_toArray, List.getElem_cons_succ, List.getElem_cons_zero, Act.put, List.setIfInBounds_toArray, List.set_cons_zero, List.set_cons_succ]
      refine wpAnyH_done (by kernel_rfl) ?_ _
      go_wp2
      go_ret
      exact ⟨rfl, bt hbel.out (bt BL.out hHeld.1)⟩
    have LJ : Hid (∀ k (h : k + 1 < l.length), k + 1 < j + 1 → lessO (l[k]'(by omega)) (l[k + 1]'h)) := fun k h hk => by
      by_cases e : k = i
      · subst e; subst hi; have h2 := of_decide_eq_true HLY.out; rw [HXY.out, HX.out] at h2; exact h2
      · exact hless.out k h (by omega)
    go_wp2
    refine wp_region_held_drew (S := fun w' => Below (wr.alloc (.cells #[.int .u8 (k : Int), .int .u32 (t : Int), .int .u8 (r : Int), .slice uo nu uc, .int .i64 p] 54)).heap.size (wr.alloc (.cells #[.int .u8 (k : Int), .int .u32 (t : Int), .int .u8 (r : Int), .slice uo nu uc, .int .i64 p] 54)) w' ∧ w'.cell? ⟨wr.heap.size, 0, none⟩ = some (.int .u8 (k : Int)) ∧ w'.cell? ⟨wr.heap.size, 1, none⟩ = some (.int .u32 (t : Int)) ∧ w'.cell? ⟨wr.heap.size, 2, none⟩ = some (.int .u8 (r : Int)) ∧ w'.cell? ⟨wr.heap.size, 3, none⟩ = some (.slice uo nu uc) ∧ w'.cell? ⟨wr.heap.size, 4, none⟩ = some (.int .i64 p) ∧ w'.cell? ⟨bb, oo + i * 5 + 1, none⟩ = some (.int .u32 (ty : Int)) ∧ w'.cell? ⟨bb, oo + i * 5 + 2, none⟩ = some (.int .u8 (ry : Int))) (by kernel_rfl) (SL.out _ (drew1 _)) (fun hHeld => ?_)
    refine wpAnyH_take (i := 0) (v := ?vd0) rfl (by kernel_rfl) (by kernel_rfl) (by kernel_rfl) (fun _ _ _ h => h) (Or.inl ⟨by rfl, ?yd0⟩) (by assumption) ?_
    case yd0 => intro w hSw; (try dsimp only at hSw); go_simp <;> with_reducible rfl
    try simp only [List.getElem_toArray, List.getElem_cons_zero, Act.put, List.setIfInBounds_toArray, List.set_cons_zero, List.set_cons_succ]
    refine wpAnyH_ready (rs := [1]) (by kernel_rfl) (by simp) ?_
    refine AllReadyH.cons rfl (fun K hK => ?_) ?zd1
    case zd1 => exact AllReadyH.nil
    go_simp
    refine (MA.out _ (bt BL.out hHeld.1)).mono ?_
    rintro e w9d1 ⟨rfl, b9⟩
    refine hK.out _ _ (SL.out _ (bt hHeld.1 b9)) (fun hNew => ?_)
    clear hHeld
    have hHeld := hNew
    clear hNew hK K
    try simp only [List.getElem_toArray, List.getElem_cons_succ, List.getElem_cons_zero, Act.put, List.setIfInBounds_toArray, List.set_cons_zero, List.set_cons_succ]
    refine wpAnyH_take (i := 2) (v := ?vd2) rfl (by kernel_rfl) (by kernel_rfl) (by kernel_rfl) (fun _ _ _ h => h) (Or.inl ⟨by rfl, ?yd2⟩) (by assumption) ?_
    case yd2 => intro w hSw; (try dsimp only at hSw); go_simp <;> with_reducible rfl
    try simp only [List.getElem_toArray, List.getElem_cons_succ, List.getElem_cons_zero, Act.put, List.setIfInBounds_toArray, List.set_cons_zero, List.set_cons_succ]
    refine wpAnyH_take (i := 3) (v := ?vd3) rfl (by kernel_rfl) (by kernel_rfl) (by kernel_rfl) (fun _ _ _ h => h) (Or.inl ⟨by rfl, ?yd3⟩) (by assumption) ?_
    case yd3 => intro w hSw; (try dsimp only at hSw); go_simp <;> with_reducible rfl
    try simp only [List.getElem_toArray, List.getElem_cons_succ, List.getElem_cons_zero, Act.put, List.setIfInBounds_toArray, List.set_cons_zero, List.set_cons_succ]
    refine wpAnyH_take (i := 4) (v := ?vd4) rfl (by kernel_rfl) (by kernel_rfl) (by kernel_rfl) (fun _ _ _ h => h) (Or.inl ⟨by rfl, ?yd4⟩) (by assumption) ?_
    case yd4 => intro w hSw; (try dsimp only at hSw); go_simp <;> with_reducible rfl
    try simp only [List.getElem_toArray, List.getElem_cons_succ, List.getElem_cons_zero, Act.put, List.setIfInBounds_toArray, List.set_cons_zero, List.set_cons_succ]
    refine wpAnyH_take (i := 5) (v := ?vd5) rfl (by kernel_rfl) (by kernel_rfl) (by kernel_rfl) (fun _ _ _ h => h) (Or.inl ⟨by rfl, ?yd5⟩) (by assumption) ?_
    case yd5 => intro w hSw; (try dsimp only at hSw); go_simp <;> with_reducible rfl
    try simp only [List.getElem_toArray, List.getElem_cons_succ, List.getElem_cons_zero, Act.put, List.setIfInBounds_toArray, List.set_cons_zero, List.set_cons_succ]
    refine wpAnyH_take (i := 6) (v := ?vd6) rfl (by kernel_rfl) (by kernel_rfl) (by kernel_rfl) (fun _ _ _ h => h) (Or.inl ⟨by rfl, ?yd6⟩) (by assumption) ?_
    case yd6 => intro w hSw; (try dsimp only at hSw); go_simp <;> with_reducible rfl
    try simp only [List.getElem_toArray, List.getElem_cons_succ, List.getElem_cons_zero, Act.put, List.setIfInBounds_toArray, List.set_cons_zero, List.set_cons_succ]
    refine wpAnyH_take (i := 7) (v := ?vd7) rfl (by kernel_rfl) (by kernel_rfl) (by kernel_rfl) (fun _ _ _ h => h) (Or.inl ⟨by rfl, ?yd7⟩) (by assumption) ?_
    case yd7 => intro w hSw; (try dsimp only at hSw); go_simp <;> with_reducible rfl
    try simp only [List.getElem_toArray, List.getElem_cons_succ, List.getElem_cons_zero, Act.put, List.setIfInBounds_toArray, List.set_cons_zero, List.set_cons_succ]
    refine wpAnyH_take (i := 8) (v := ?vd8) rfl (by kernel_rfl) (by kernel_rfl) (by kernel_rfl) (fun _ _ _ h => h) (Or.inl ⟨by rfl, ?yd8⟩) (by assumption) ?_
    case yd8 => intro w hSw; (try dsimp only at hSw); go_simp <;> with_reducible rfl
    try simp only [List.getElem_toArray, List.getElem_cons_succ, List.getElem_cons_zero, Act.put, List.setIfInBounds_toArray, List.set_cons_zero, List.set_cons_succ]
    refine wpAnyH_take (i := 9) (v := ?vd9) rfl (by kernel_rfl) (by kernel_rfl) (by kernel_rfl) (fun _ _ _ h => h) (Or.inl ⟨by rfl, ?yd9⟩) (by assumption) ?_
    case yd9 => intro w hSw; (try dsimp only at hSw); go_simp <;> with_reducible rfl
    try simp only [List.getElem_toArray, List.getElem_cons_succ, List.getElem_cons_zero, Act.put, List.setIfInBounds_toArray, List.set_cons_zero, List.set_cons_succ]
    refine wpAnyH_take (i := 10) (v := ?vd10) rfl (by kernel_rfl) (by kernel_rfl) (by kernel_rfl) (fun _ _ _ h => h) (Or.inl ⟨by rfl, ?yd10⟩) (by assumption) ?_
    case yd10 => intro w hSw; (try dsimp only at hSw); go_simp <;> with_reducible rfl
    try simp only [List.getElem_toArray, List.getElem_cons_succ, List.getElem_cons_zero, Act.put, List.setIfInBounds_toArray, List.set_cons_zero, List.set_cons_succ]
    refine wpAnyH_take (i := 11) (v := ?vd11) rfl (by kernel_rfl) (by kernel_rfl) (by kernel_rfl) (fun _ _ _ h => h) (Or.inl ⟨by rfl, ?yd11⟩) (by assumption) ?_
    case yd11 => intro w hSw; (try dsimp only at hSw); go_simp <;> with_reducible rfl
    try simp only [List.getElem_toArray, List.getElem_cons_succ, List.getElem_cons_zero, Act.put, List.setIfInBounds_toArray, List.set_cons_zero, List.set_cons_succ]
    refine wpAnyH_take (i := 12) (v := ?vd12) rfl (by kernel_rfl) (by kernel_rfl) (by kernel_rfl) (fun _ _ _ h => h) (Or.inl ⟨by rfl, ?yd12⟩) (by assumption) ?_
    case yd12 => intro w hSw; (try dsimp only at hSw); go_simp <;> with_reducible rfl
    try simp only [List.getElem_toArray, List.getElem_cons_succ, List.getElem_cons_zero, Act.put, List.setIfInBounds_toArray, List.set_cons_zero, List.set_cons_succ]
    refine wpAnyH_take (i := 13) (v := ?vd13) rfl (by kernel_rfl) (by kernel_rfl) (by kernel_rfl) (fun _ _ _ h => h) (Or.inl ⟨by rfl, ?yd13⟩) (by assumption) ?_
    case yd13 => intro w hSw; (try dsimp only at hSw); go_simp <;> with_reducible rfl
    try simp only [List.getElem_toArray, List.getElem_cons_succ, List.getElem_cons_zero, Act.put, List.setIfInBounds_toArray, List.set_cons_zero, List.set_cons_succ]
    refine wpAnyH_take (i := 14) (v := ?vd14) rfl (by kernel_rfl) (by kernel_rfl) (by kernel_rfl) (fun _ _ _ h => h) (Or.inl ⟨by rfl, ?yd14⟩) (by assumption) ?_
    case yd14 => intro w hSw; (try dsimp only at hSw); go_simp <;> with_reducible rfl
    try simp only [List.getElem_toArray, List.getElem_cons_succ, List.getElem_cons_zero, Act.put, List.setIfInBounds_toArray, List.set_cons_zero, List.set_cons_succ]
    refine wpAnyH_ready (rs := [15]) (by kernel_rfl) (by simp) ?_
    refine AllReadyH.cons rfl (fun K hK => ?_) ?zd15
    case zd15 => exact AllReadyH.nil
    go_simp
    refine (LY.out _).mono ?_
    rintro e w9d15 ⟨rfl, b9⟩
    refine hK.out _ _ (SL.out _ (bt hHeld.1 b9)) (fun hNew => ?_)
    clear hHeld
    have hHeld := hNew
    clear hNew hK K
    try simp only [List.getElem_toArray, List.getElem_cons_succ, List.getElem_cons_zero, Act.put, List.setIfInBounds_toArray, List.set_cons_zero, List.set_cons_succ]
    refine wpAnyH_take (i := 16) (v := ?vd16) rfl (by kernel_rfl) (by kernel_rfl) (by kernel_rfl) (fun _ _ _ h => h) (Or.inl ⟨by rfl, ?yd16⟩) (by assumption) ?_
    case yd16 => intro w hSw; (try dsimp only at hSw); go_simp <;> with_reducible rfl
    try simp only [List.getElem_toArray, List.getElem_cons_succ, List.getElem_cons_zero, Act.put, List.setIfInBounds_toArray, List.set_cons_zero, List.set_cons_succ]
    refine wpAnyH_take (i := 17) (v := ?vd17) rfl (by kernel_rfl) (by kernel_rfl) (by kernel_rfl) (fun _ _ _ h => h) (Or.inl ⟨by rfl, ?yd17⟩) (by assumption) ?_
    case yd17 => intro w hSw; (try dsimp only at hSw); go_simp <;> with_reducible rfl
    try simp only [List.getElem_toArray, List.getElem_cons_succ, List.getElem_cons_zero, Act.put, List.setIfInBounds_toArray, List.set_cons_zero, List.set_cons_succ]
    refine wpAnyH_take (i := 18) (v := ?vd18) rfl (by kernel_rfl) (by kernel_rfl) (by kernel_rfl) (fun _ _ _ h => h) (Or.inl ⟨by rfl, ?yd18⟩) (by assumption) ?_
    case yd18 => intro w hSw; (try dsimp only at hSw); go_simp <;> with_reducible rfl
    try simp only [List.getElem_toArray, List.getElem_cons_succ, List.getElem_cons_zero, Act.put, List.setIfInBounds_toArray, List.set_cons_zero, List.set_cons_succ]
    refine wpAnyH_done (by kernel_rfl) ?_ _
    go_wp2
    go_roundw
    case rel => exact ⟨j + 1, by omega, by go_num, MJ, LJ, Lib.hid (bt hbel.out (bt BL.out hHeld.1))⟩
    case measure => simp [intOf]; omega
end Go.Proofs.Ytohiidgdpecbdaa.Bags

/- Sets of times, cut off below a time; two of them gone through side by side, stretch by stretch. Conditions: the spans may be. -/
namespace Go.Proofs.Ytohiidgdpecbdaa.Spans

/-! ### A stretch behind spans -/

/-! ### What is ahead of a time no more -/

def upf : List Sp → Nat → List Sp
  | [], _ => []
  | x :: l, n => if x.t < n then l else x :: l
def nxt : List Sp → Nat → Bool × Nat
  | [], _ => (false, 1073741824)
  | x :: _, n => if n < x.f then (false, x.f - 1) else (true, x.t)
theorem upf_cons (x : Sp) (l : List Sp) (n : Nat) : upf (x :: l) n = if x.t < n then l else x :: l := rfl
theorem nxt_cons (x : Sp) (l : List Sp) (n : Nat) : nxt (x :: l) n = if n < x.f then (false, x.f - 1) else (true, x.t) := rfl
/-- What of spans is left where all below a time has come: the last one that came may still be there. -/
def Rest (l p : List Sp) (n : Nat) : Prop := Fine p ∧ (∀ m, n ≤ m → (In l m ↔ In p m)) ∧ ∀ x ∈ p, n ≤ x.t + 1
def Rest1 (l p : List Sp) (n : Nat) : Prop := Fine p ∧ (∀ m, n ≤ m → (In l m ↔ In p m)) ∧ ∀ x ∈ p, n ≤ x.t
theorem Rest.up {l p : List Sp} {n : Nat} (h : Rest l p n) : Rest1 l (upf p n) n := by
  obtain ⟨h1, h2, h3⟩ := h
  cases p with
  | nil => exact ⟨trivial, h2, fun x hx => by simp [upf] at hx⟩
  | cons x p =>
    have hx := h1.head
    unfold Ok at hx
    have hn := h3 x (by simp)
    rw [upf_cons]
    by_cases g : x.t < n
    · rw [if_pos g]
      refine ⟨h1.tail, fun m hm => ?_, fun y hy => ?_⟩
      · rw [h2 m hm, in_cons]
        constructor
        · rintro (h4 | h4)
          · omega
          · exact h4
        · exact .inr
      · have h4 := h1.far y hy
        have h5 := h1.tail.all y hy
        unfold Ok at h5
        omega
    · rw [if_neg g]
      refine ⟨h1, h2, fun y hy => ?_⟩
      rw [List.mem_cons] at hy
      rcases hy with rfl | hy
      · omega
      · have h4 := h1.far y hy
        have h5 := h1.tail.all y hy
        unfold Ok at h5
        omega
theorem Rest1.next {l p : List Sp} {n : Nat} (h : Rest1 l p n) (hn : n ≤ 1073741824) : n ≤ (nxt p n).2 ∧ (nxt p n).2 ≤ 1073741824 ∧
    (∀ m, n ≤ m → m ≤ (nxt p n).2 → inB l m = (nxt p n).1) ∧ ∀ s, n ≤ s → s ≤ (nxt p n).2 → Rest l p (s + 1) := by
  obtain ⟨h1, h2, h3⟩ := h
  have hin : ∀ m, n ≤ m → (inB l m = true ↔ In p m) := fun m hm => (inB_iff l m).trans (h2 m hm)
  have hno : ∀ m, n ≤ m → ¬ In p m → inB l m = false := fun m hm h => by
    cases hb : inB l m
    · rfl
    · exact absurd ((hin m hm).1 hb) h
  cases p with
  | nil =>
    refine ⟨hn, Nat.le_refl _, fun m hm _ => hno m hm (in_nil m), fun s hs _ => ⟨trivial, fun m hm => h2 m (by omega), fun x hx => by simp at hx⟩⟩
  | cons x p =>
    have hx := h1.head
    unfold Ok at hx
    have hxn := h3 x (by simp)
    have hall : ∀ y ∈ x :: p, x.t ≤ y.t := fun y hy => by
      rw [List.mem_cons] at hy
      rcases hy with rfl | hy
      · exact Nat.le_refl _
      · have h4 := h1.far y hy
        have h5 := h1.tail.all y hy
        unfold Ok at h5
        omega
    rw [nxt_cons]
    by_cases g : n < x.f
    · rw [if_pos g]
      refine ⟨by simp only; omega, by simp only; omega, fun m hm h4 => hno m hm (fun h5 => ?_), fun s hs h4 => ⟨h1, fun m hm => h2 m (by omega), fun y hy => ?_⟩⟩
      · simp only at h4
        rcases in_cons.1 h5 with h6 | h6
        · omega
        · have := in_far h1 h6; omega
      · have := hall y hy
        simp only at h4
        omega
    · rw [if_neg g]
      refine ⟨hxn, hx.2.2, fun m hm h4 => (hin m hm).2 (in_cons.2 (.inl ⟨by omega, h4⟩)), fun s hs h4 => ⟨h1, fun m hm => h2 m (by omega), fun y hy => ?_⟩⟩
      have := hall y hy
      simp only at h4
      omega

/-! ### A stretch of two, chosen by which of them have it -/

/-! ### What is left, said of the whole -/
end Go.Proofs.Ytohiidgdpecbdaa.Spans

/- octavo/span: Check, Count, Twin, Same: what each answers. Conditions: the slices' cells are spans. -/
namespace Go.Proofs.Ytohiidgdpecbdaa.Spans
open Go.RowKit
attribute [local go_sem ↓] Go.wp_at_zero Go.wp_at_succ

end Go.Proofs.Ytohiidgdpecbdaa.Spans

/- octavo/span: Has with what it calls, the two choosers, upFrom, next, with, stretches: what each answers. Conditions: the slices' cells are spans. -/
namespace Go.Proofs.Ytohiidgdpecbdaa.Spans
open Go.RowKit Go.Shelf
attribute [local go_sem ↓] Go.wp_at_zero Go.wp_at_succ

/-! ### Has -/
/-! ### The choosers -/
/-! ### What is left, and the next stretch of one -/
end Go.Proofs.Ytohiidgdpecbdaa.Spans

/- octavo/span.with: what it answers. Conditions: the row is the call's own and holds spans that end at MaxTime at the most. -/
namespace Go.Proofs.Ytohiidgdpecbdaa.Spans
open Go.RowKit Go.Shelf
attribute [local go_sem ↓] Go.wp_at_zero Go.wp_at_succ

end Go.Proofs.Ytohiidgdpecbdaa.Spans

/- A range over a function whose iterator has cells of its own in one block, laid when it is called: the caller's side. Conditions: the loop's body goes on, or returns; it turns neither the loop's two blocks nor the iterator's one. -/
namespace Go.Proofs.Ytohiidgdpecbdaa
open Go Go.RowKit Go.Shelf

/-- What is said of a world that stays so where one of three blocks side by side turns, and where new ones come. -/
def Rides (H : Nat) (I : World → Prop) : Prop := ∀ A B r, I A → H ≤ r → r ≤ H + 2 → A.grownBy B (some r) → I B
theorem Rides.put {H : Nat} {I : World → Prop} (h : Rides H I) {W : World} {r : Nat} (o : Obj) (hi : I W) (h1 : H ≤ r) (h2 : r ≤ H + 2) : I (W.putObj r o) := h _ _ r hi h1 h2 (grownBy_putObj' W r o)
theorem Rides.new {H : Nat} {I : World → Prop} (h : Rides H I) {W : World} (o : Obj) (hi : I W) : I (W.alloc o) := h _ _ H hi (Nat.le_refl _) (by omega) (World.grownBy_alloc W o _)

end Go.Proofs.Ytohiidgdpecbdaa

/- octavo/span.stretches, its iterator: what it hands to each round, and in which order. Conditions: the spans may be; the rounds leave the iterator's own block. -/
namespace Go.Proofs.Ytohiidgdpecbdaa.Spans
open Go.RowKit Go.Shelf
attribute [local go_sem ↓] Go.wp_at_zero Go.wp_at_succ

/-- Spans in memory that was there ahead. -/
def Low (B : Nat) (w : World) (v : Value) (l : List Sp) : Prop := Sps w v l ∧ (l = [] ∨ ∀ b, v.ownBlock = some b → b < B)
theorem Low.keeps {B : Nat} {w w' : World} {v : Value} {l : List Sp} (h : Low B w v l) (hb : Below B w w') : Low B w' v l := by
  refine ⟨?_, h.2⟩
  rcases h.2 with rfl | h2
  · obtain ⟨⟨h1, ao, cap, h3, h4, h5, h6, _⟩, _⟩ := h
    exact ⟨h1, ao, cap, h3, h4, h5, h6, .inl rfl⟩
  · exact Sees.stays h.1 hb.size (fun _ _ _ he => World.cell?_of_block (hb.block _ (h2 _ he)))
end Go.Proofs.Ytohiidgdpecbdaa.Spans

/- octavo/span.chosen: what it answers. Conditions: the chooser answers what it is asked for; the slices' cells are spans. -/
namespace Go.Proofs.Ytohiidgdpecbdaa.Spans
open Go.RowKit Go.Shelf
attribute [local go_sem ↓] Go.wp_at_zero Go.wp_at_succ
attribute [local go_sem] Oper.semAt_some

end Go.Proofs.Ytohiidgdpecbdaa.Spans

/- octavo/span: what each answers. Conditions: the slices' cells are spans. -/
namespace Go.Proofs.Ytohiidgdpecbdaa.Spans
open Go.RowKit Go.Shelf
attribute [local go_sem ↓] Go.wp_at_zero Go.wp_at_succ

end Go.Proofs.Ytohiidgdpecbdaa.Spans

/- octavo/clock: Check, Count, Top, and stamp.Check: what each answers. Conditions: the slices' cells are replicas' spans. -/
namespace Go.Proofs.Ytohiidgdpecbdaa.Clocks
open Go.RowKit Go.Proofs.Ytohiidgdpecbdaa.Spans
attribute [local go_sem ↓] Go.wp_at_zero Go.wp_at_succ

end Go.Proofs.Ytohiidgdpecbdaa.Clocks

/- A map from bytes to values of any type, as a function from numbers to values. Conditions: none. -/
namespace Go.Proofs.Ytohiidgdpecbdaa
open Go.RowKit Go.WideShapes
open Go.Maps (Keyed int_keyed IsMap keyOf_int_mk)

/-- A value as a token: every value reads so. -/
def tokR (v : Value) : Option (DataW Value × List MemPlace) := some (.held v, [])
theorem u8law : Keyed Try.prog 5 := int_keyed Try.underlying5
theorem u8wf {r : Nat} (h : r < 256) : (Lit.int .u8 (r : Int)).wf = true := by
  have h1 : IntKind.u8.min = 0 := by decide
  have h2 : IntKind.u8.max = 255 := by decide
  simp [Lit.wf, h1, h2]
  omega
theorem u8key {r : Nat} (h : r < 256) : keyOf Try.prog 5 (.int .u8 (r : Int)) = some (.int .u8 (r : Int)) := keyOf_int_mk Try.underlying5 (u8wf h)
/-- Block b is a map of at most n entries; where M is none it has no entry. -/
def MapV (w : World) (b n : Nat) (M : Nat → Option Value) : Prop :=
  ∃ D : DataW Value, w.ownsMap Try.prog 5 tokR b n D ∧ IsMap D ∧ ∀ r : Nat, r < 256 → ∀ z, D.atKey (.int .u8 (r : Int)) (.held z) = .held ((M r).getD z)
theorem MapV.made (w : World) : MapV (w.alloc (.map #[] 0)) w.heap.size 0 (fun _ => none) := ⟨_, World.ownsMap_made w _ _ _, Maps.isMap_empty, fun _ _ _ => rfl⟩
theorem MapV.keeps {w w' : World} {b n : Nat} {M : Nat → Option Value} (h : MapV w b n M) (hb : Below w.heap.size w w') : MapV w' b n M := by
  obtain ⟨D, ⟨es, clock, h1, h2, h3, h4⟩, h5, h6⟩ := h
  exact ⟨D, ⟨es, clock, (hb.block b (Array.getElem?_eq_some_iff.1 h1).1).trans h1, h2, h3, h4⟩, h5, h6⟩
theorem MapV.lt {w : World} {b n : Nat} {M : Nat → Option Value} (h : MapV w b n M) : b < w.heap.size := by
  obtain ⟨D, h1, _⟩ := h
  exact h1.lt
theorem MapV.run {w : World} {b n : Nat} {M : Nat → Option Value} (h : MapV w b n M) {t e : TypeId} (ht : Try.prog.underlying t = some (.map 5 e)) {z : Value} (hz : (zeroValue e).run Try.prog w = .ok z w) {r : Nat} (hr : r < 256) :
    (Instr.lookup t (.map (some b)) (.int .u8 (r : Int)) false).run Try.prog w = .ok ((M r).getD z) w := by
  obtain ⟨D, h1, h2, h3⟩ := h
  obtain ⟨v, ps, hrun, hv⟩ := h1.lookup u8law ht hz (zd := .held z) (zp := []) rfl (u8key hr)
  rw [h3 r hr] at hv
  have : v = (M r).getD z := by
    have := (Prod.mk.inj (Option.some.inj hv)).1
    exact DataW.held.inj this
  rw [← this]
  exact hrun
theorem MapV.put {w' : World} {b n : Nat} {M : Nat → Option Value} {D : DataW Value} {r : Nat} {v : Value} (hD : IsMap D) (hat : ∀ r : Nat, r < 256 → ∀ z, D.atKey (.int .u8 (r : Int)) (.held z) = .held ((M r).getD z))
    (h : w'.ownsMap Try.prog 5 tokR b n (D.put (.int .u8 (r : Int)) (.held v))) : MapV w' b n (fun k => if k = r then some v else M k) := by
  refine ⟨_, h, hD.put _ _, fun k hk z => ?_⟩
  by_cases hkr : k = r
  · subst hkr
    rw [Maps.atKey_put_same hD (show WideAt.IsKeyLit (.int .u8 (k : Int)) from trivial)]
    simp
  · rw [Maps.atKey_put_other (by intro h; injection h with _ h; omega), hat k hk]
    simp [hkr]
end Go.Proofs.Ytohiidgdpecbdaa

/- octavo/clock: byReplica and told: what each answers. Conditions: the clock may be; the function that is told answers spans of its own. -/
namespace Go.Proofs.Ytohiidgdpecbdaa.Clocks
open Go.RowKit Go.Proofs.Ytohiidgdpecbdaa.Spans
attribute [local go_sem ↓] Go.wp_at_zero Go.wp_at_succ

/-! ### told -/
/-- What lies below B stays, and what has come from H on. -/
def Apart (B H : Nat) (w w' : World) : Prop := Below B w w' ∧ ∀ j, H ≤ j → j < w.heap.size → w'.heap[j]? = w.heap[j]?
theorem Apart.of {B H : Nat} {w w' : World} (h : Below w.heap.size w w') (hB : B ≤ w.heap.size) : Apart B H w w' := ⟨h.mono hB, fun j _ hj => h.block j hj⟩
theorem own_apart {B H sz n : Nat} {w w' : World} {e : TypeId} {v : Value} {cs : List Value} (h : w.ownsRow H e sz v n cs) (ha : Apart B H w w') : w'.ownsRow H e sz v n cs := by
  refine ⟨h.1, ?_⟩
  rcases h.2 with h0 | ⟨g, cap, cur, rfl, h1, hg, h2⟩
  · exact .inl h0
  · exact .inr ⟨g, cap, cur, rfl, h1, (ha.2 g h1 (Array.getElem?_eq_some_iff.1 hg).1).trans hg, h2⟩
end Go.Proofs.Ytohiidgdpecbdaa.Clocks
