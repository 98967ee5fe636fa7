/- octavoref11.May, Check, Of, Has, Find: what each answers. Conditions: the slice's cells are operations. octavoref11.Of, Has, Find: what each answers. Conditions: the slice's cells are operations. Rows of the call's own whose elements may hold slices that were there ahead of it; append of one. Conditions: none. octavoref11.With: what it answers. Conditions: the slice's cells are operations, not too many. octavoref11.Left, Less, Stamps, Ids, Find: what each answers. Conditions: the slices' cells are operations, replicas' times; those of Left, Stamps not too many. octavoref10.Great, Same, Twin: what each answers. Conditions: the slices' cells are operations; Twin's: they are not more than memory holds. octavoref10.Twin: what it answers. Conditions: the slice's cells are operations, not more than memory holds. octavoref11.Find, Same, Twin: what each answers. Conditions: the slices' cells are -/
import Derived.Test.YtmiepnnpccpicaaGreatChecked
import Derived.WalkKit
import Derived.WalkSpells
import Derived.WalkLawsBesides
import Derived.Laws.BytesArg
import Derived.Lib.Hide
import Derived.Deep.LoopGhost
import Derived.Laws.AppendOwnNone
import Derived.Laws.OwnMore
import Derived.WideShapes
import Derived.Maps.AppendAt
import Derived.RegionTactic
import Derived.Deep.RegionHeld3
import Derived.Deep.DrawnRows
import Derived.Deep.QuietTactic
import Derived.BigQuiet
import Derived.IntWalk
import Derived.Deep.DeepCutAuto
import Derived.ScopeJumps
import Derived.Test.YtmiepnnpccpicaaGreatProg
import Derived.LoopTactic
import Derived.Laws.EntriesVeiled
import Derived.RowKit
import Derived.Lib.DecodeN
import Derived.Lib.RuneBytes
import Derived.Test.YtmiepnnpccpicaaGreatRw
import Derived.Test.YtmiepnnpccpicaaGreatPk04
import Derived.Test.YtmiepnnpccpicaaGreatPk16
import Derived.Test.YtmiepnnpccpicaaGreatPk03
import Derived.Test.YtmiepnnpccpicaaGreatPk02
import Derived.Test.YtmiepnnpccpicaaGreatPk15
import Derived.Test.YtmiepnnpccpicaaGreatPk01
import Derived.Test.YtmiepnnpccpicaaGreatPk05

namespace Go.Proofs.YtmiepnnpccpicaaGreat.Bags
open Go.RowKit Go.WideShapes Stamp Go.Proofs.YtmiepnnpccpicaaGreat.Place Ops Codes
attribute [local go_sem ↓] Go.wp_at_zero Go.wp_at_succ
attribute [local go_sem] yielded_undef
set_option maxRecDepth 100000 in
set_option maxHeartbeats 8000000 in
theorem refMayL_any {v : Value} {l : List Opn} {w : World} (hv : OpL w v l) :
    Calls Tryz.prog 26 #[v] w fun e w' => e = .returned (.bool (bagB l)) ∧ Below w.heap.size w w' := by
  obtain ⟨ao, cap, rfl⟩ := hv.shape
  obtain ⟨n, hn⟩ : ∃ n, n = l.length := ⟨_, rfl⟩
  have hmx : n ≤ 9223372036854775807 := by rw [hn]; exact hv.max
  have HV : Hid (∀ W : World, Below w.heap.size w W → OpL W (.slice ao l.length cap) l) := fun W h => hv.keeps h
  have HN := Lib.hid hn
  obtain ⟨q, hq⟩ : ∃ q, bagB l = q := ⟨_, rfl⟩
  have HQ := Lib.hid hq
  rw [hq, ← hn]
  clear hv hn hq
  have B0 : Hid (Below w.heap.size w w) := Below.refl _ _
  go_enter Tryz.func26, Tryz.ntmps26
  go_wp2
  go_loopw [3] (fun i wr => ∃ j : Nat, j ≤ n ∧ i = .int .i64 (j : Int) ∧ Hid (∀ k (h : k < l.length), k < j → mayO (l[k]'h) = true) ∧ Hid (∀ k (h : k + 1 < l.length), k + 1 < j → lessO (l[k]'(by omega)) (l[k + 1]'h)) ∧ Hid (Below w.heap.size w wr)) (fun i _ => n - (intOf i).toNat)
  case atStart => exact ⟨0, by omega, rfl, fun k h hk => by omega, fun k h hk => by omega, B0⟩
  case round =>
    clear B0
    obtain ⟨j, hj, rfl, hmay, hless, hbel⟩ := hrel
    by_cases hbig : 1024 < n
    · have q1 : decide (n ≤ 1024) = false := decide_eq_false (by omega)
      have q2 : decide ((n : Int) ≤ 1024) = false := decide_eq_false (by omega)
      obtain rfl : q = false := by rw [← HQ.out]; exact bagB_no (fun h => by have := h.1; have := HN.out; omega)
      by_cases hjn : j < n
      · have q3 : decide (j < n) = true := by simpa using hjn
        go_wp2
        go_ret
        exact ⟨rfl, hbel.out⟩
      · have q3 : decide (j < n) = false := by simpa using hjn
        go_wp2
        go_ret
        exact ⟨rfl, hbel.out⟩
    have q1 : decide (n ≤ 1024) = true := decide_eq_true (by omega)
    have q2 : decide ((n : Int) ≤ 1024) = true := decide_eq_true (by omega)
    by_cases hjn : j < n
    rotate_left
    · have q3 : decide (j < n) = false := by simpa using hjn
      obtain rfl : q = true := by
        rw [← HQ.out, bagB_iff]
        refine ⟨by have := HN.out; omega, fun o ho => ?_, pw_adj (fun k h => hless.out k h (by have := HN.out; omega))⟩
        obtain ⟨i, hi, rfl⟩ := List.getElem_of_mem ho
        exact hmay.out i hi (by have := HN.out; omega)
      go_wp2
      go_ret
      exact ⟨rfl, hbel.out⟩
    have q3 : decide (j < n) = true := by simpa using hjn
    have q4 : (0 : Int) ≤ (j : Int) := by omega
    have q5 : (j : Int) < (n : Int) := by omega
    have hjl : j < l.length := by rw [← HN.out]; exact hjn
    obtain ⟨bb, oo, u, e, hbb, hru, h0, h1, h2, h3, h4⟩ := opl_at (HV.out wr hbel.out) j hjl
    subst e
    obtain ⟨x, hx⟩ : ∃ x, x = l[j]'hjl := ⟨_, rfl⟩
    rw [← hx] at hru h0 h1 h2 h4
    have HO : Hid (∀ v : Value, opv x v = .agg #[.int .u8 (x.k : Int), .int .u32 (x.t : Int), .int .u8 (x.r : Int), v, .int .i64 x.p]) := fun v => rfl
    have MA : Hid (∀ W : World, Below wr.heap.size wr W → Calls Tryz.prog 61 #[opv x u] W fun e w' => e = .returned (.bool (mayO x)) ∧ Below W.heap.size W w') := fun W h => refMayO_any (hru.keeps h)
    have HJ := Lib.hid hjl
    have HX : Hid (x = l[j]'hjl) := hx
    have LX : Hid (∀ (i : Nat) (hi : i + 1 = j) (W : World) (y : Opn), y = l[i]'(by omega) → Calls Tryz.prog 62 #[.agg #[.int .u32 (y.t : Int), .int .u8 (y.r : Int)], .agg #[.int .u32 (x.t : Int), .int .u8 (x.r : Int)]] W fun e w' => e = .returned (.bool (decide (lessO y x))) ∧ Below W.heap.size W w') := fun i hi W y hy => by
      have := refLess_any y.t y.r x.t x.r W
      rwa [show less y.t y.r x.t x.r = decide (lessO y x) from rfl] at this
    obtain ⟨my, hmy⟩ : ∃ b, mayO x = b := ⟨_, rfl⟩
    rw [hmy] at MA
    have HMY := Lib.hid hmy
    clear hmy hx hru
    obtain ⟨k, hk⟩ : ∃ z, x.k = z := ⟨_, rfl⟩
    obtain ⟨t, ht⟩ : ∃ z, x.t = z := ⟨_, rfl⟩
    obtain ⟨r, hr⟩ : ∃ z, x.r = z := ⟨_, rfl⟩
    obtain ⟨p, hp⟩ : ∃ z, x.p = z := ⟨_, rfl⟩
    rw [hk, ht, hr, hp] at HO
    rw [hk] at h0
    rw [ht] at h1
    rw [hr] at h2
    rw [hp] at h4
    simp only [HO.out] at MA
    rw [ht, hr] at LX
    have F1 : Hid (FiveAt wr bb (oo + j * 5) (.int .u8 (k : Int)) (.int .u32 (t : Int)) (.int .u8 (r : Int)) u (.int .i64 p)) := ⟨hbb, h0, h1, h2, h3, h4⟩
    have SK : Hid (∀ w' : World, Below wr.heap.size wr w' → Below wr.heap.size wr w' ∧ w'.cell? ⟨bb, oo + j * 5, none⟩ = some (.int .u8 (k : Int)) ∧ w'.cell? ⟨bb, oo + j * 5 + 1, none⟩ = some (.int .u32 (t : Int)) ∧ w'.cell? ⟨bb, oo + j * 5 + 2, none⟩ = some (.int .u8 (r : Int)) ∧ w'.cell? ⟨bb, oo + j * 5 + 3, none⟩ = some (u) ∧ w'.cell? ⟨bb, oo + j * 5 + 4, none⟩ = some (.int .i64 p)) := fun W h => ⟨h, (F1.out.keeps h).2⟩
    clear hk ht hr hp h0 h1 h2 h3 h4 HO
    cases my
    · obtain rfl : q = false := by rw [← HQ.out]; exact bagB_no (fun h => by have := h.2.1 x (by rw [HX.out]; exact List.getElem_mem _); rw [HMY.out] at this; cases this)
      go_wp2
      refine wp_region_held_drew (S := fun w' => Below wr.heap.size wr w' ∧ w'.cell? ⟨bb, oo + j * 5, none⟩ = some (.int .u8 (k : Int)) ∧ w'.cell? ⟨bb, oo + j * 5 + 1, none⟩ = some (.int .u32 (t : Int)) ∧ w'.cell? ⟨bb, oo + j * 5 + 2, none⟩ = some (.int .u8 (r : Int)) ∧ w'.cell? ⟨bb, oo + j * 5 + 3, none⟩ = some (u) ∧ w'.cell? ⟨bb, oo + j * 5 + 4, none⟩ = some (.int .i64 p)) (by kernel_rfl) (SK.out _ (drew1 _)) (fun hHeld => ?_)
      refine rN 0 ?_
      refine rN 1 ?_
      refine rN 2 ?_
      refine rN 3 ?_
      refine wpAnyH_ready (rs := [4]) (by kernel_rfl) (by simp) ?_
      refine AllReadyH.cons rfl (fun K hK => ?_) ?za4
      case za4 => exact AllReadyH.nil
      go_simp
      refine (MA.out _ hHeld.1).mono ?_
      rintro e w9a4 ⟨rfl, b9⟩
      refine hK.out _ _ (SK.out _ (bt hHeld.1 b9)) (fun hNew => ?_)
      clear hHeld
      have hHeld := hNew
      clear hNew hK K
      refine rX ?_
      refine rN 5 ?_
      refine rN 6 ?_
      refine rV 7 ?_
      refine rV 8 ?_
      refine rV 9 ?_
      refine rV 10 ?_
      refine rV 11 ?_
      refine rV 12 ?_
      refine rV 13 ?_
      refine rV 14 ?_
      refine rV 15 ?_
      refine rV 16 ?_
      refine rV 17 ?_
      refine rV 18 ?_
      refine rV 19 ?_
      refine rV 20 ?_
      refine rV 21 ?_
      refine rV 22 ?_
      refine rV 23 ?_
      refine rN 24 ?_
      refine wpAnyH_done (by kernel_rfl) ?_ _
      go_wp2
      go_ret
      exact ⟨rfl, bt hbel.out hHeld.1⟩
    have MJ : Hid (∀ k (h : k < l.length), k < j + 1 → mayO (l[k]'h) = true) := fun i h hi => by
      by_cases e : i = j
      · subst e; rw [← HX.out]; exact HMY.out
      · exact hmay.out i h (by omega)
    by_cases hj0 : j = 0
    · have q8 : decide (0 < (j : Int)) = false := decide_eq_false (by omega)
      have q9 : decide (0 < j) = false := decide_eq_false (by omega)
      have LJ : Hid (∀ k (h : k + 1 < l.length), k + 1 < j + 1 → lessO (l[k]'(by omega)) (l[k + 1]'h)) := fun k h hk => by omega
      clear hj0
      go_wp2
      refine wp_region_held_drew (S := fun w' => Below wr.heap.size wr w' ∧ w'.cell? ⟨bb, oo + j * 5, none⟩ = some (.int .u8 (k : Int)) ∧ w'.cell? ⟨bb, oo + j * 5 + 1, none⟩ = some (.int .u32 (t : Int)) ∧ w'.cell? ⟨bb, oo + j * 5 + 2, none⟩ = some (.int .u8 (r : Int)) ∧ w'.cell? ⟨bb, oo + j * 5 + 3, none⟩ = some (u) ∧ w'.cell? ⟨bb, oo + j * 5 + 4, none⟩ = some (.int .i64 p)) (by kernel_rfl) (SK.out _ (drew1 _)) (fun hHeld => ?_)
      refine rN 0 ?_
      refine rN 1 ?_
      refine rN 2 ?_
      refine rN 3 ?_
      refine wpAnyH_ready (rs := [4]) (by kernel_rfl) (by simp) ?_
      refine AllReadyH.cons rfl (fun K hK => ?_) ?zb4
      case zb4 => exact AllReadyH.nil
      go_simp
      refine (MA.out _ hHeld.1).mono ?_
      rintro e w9b4 ⟨rfl, b9⟩
      refine hK.out _ _ (SK.out _ (bt hHeld.1 b9)) (fun hNew => ?_)
      clear hHeld
      have hHeld := hNew
      clear hNew hK K
      refine rX ?_
      refine rN 5 ?_
      refine rN 6 ?_
      refine rN 7 ?_
      refine rN 8 ?_
      refine rN 9 ?_
      refine rV 10 ?_
      refine rV 11 ?_
      refine rV 12 ?_
      refine rV 13 ?_
      refine rV 14 ?_
      refine rV 15 ?_
      refine rV 16 ?_
      refine rV 17 ?_
      refine rV 18 ?_
      refine rV 19 ?_
      refine rV 20 ?_
      refine rV 21 ?_
      refine rV 22 ?_
      refine rN 23 ?_
      refine rN 24 ?_
      refine wpAnyH_done (by kernel_rfl) ?_ _
      go_wp2
      go_roundw
      case rel => exact ⟨j + 1, by omega, by go_num, MJ, LJ, Lib.hid (bt hbel.out hHeld.1)⟩
      case measure => simp [intOf]; omega
    obtain ⟨i, hi⟩ : ∃ i, i + 1 = j := ⟨j - 1, by omega⟩
    have hil : i < l.length := by omega
    obtain ⟨bby, ooy, uy, ey, hbby, hruy, h0y, h1y, h2y, h3y, h4y⟩ := opl_at (HV.out wr hbel.out) i hil
    cases ey
    obtain ⟨xy, hxy⟩ : ∃ x, x = l[i]'hil := ⟨_, rfl⟩
    rw [← hxy] at hruy h0y h1y h2y h4y
    have HOy : Hid (∀ v : Value, opv xy v = .agg #[.int .u8 (xy.k : Int), .int .u32 (xy.t : Int), .int .u8 (xy.r : Int), v, .int .i64 xy.p]) := fun v => rfl
    have LY := Lib.hid (fun W => LX.out i hi W xy hxy)
    have HXY : Hid (xy = l[i]'hil) := hxy
    clear hxy LX hruy
    obtain ⟨ly, hly⟩ : ∃ b, decide (lessO xy x) = b := ⟨_, rfl⟩
    rw [hly] at LY
    have HLY := Lib.hid hly
    clear hly
    obtain ⟨ky, hky⟩ : ∃ z, xy.k = z := ⟨_, rfl⟩
    obtain ⟨ty, hty⟩ : ∃ z, xy.t = z := ⟨_, rfl⟩
    obtain ⟨ry, hry⟩ : ∃ z, xy.r = z := ⟨_, rfl⟩
    obtain ⟨py, hpy⟩ : ∃ z, xy.p = z := ⟨_, rfl⟩
    rw [hky, hty, hry, hpy] at HOy
    rw [hky] at h0y
    rw [hty] at h1y
    rw [hry] at h2y
    rw [hpy] at h4y
    rw [hty, hry] at LY
    have SL : Hid (∀ w' : World, Below wr.heap.size wr w' → Below wr.heap.size wr w' ∧ w'.cell? ⟨bb, oo + j * 5, none⟩ = some (.int .u8 (k : Int)) ∧ w'.cell? ⟨bb, oo + j * 5 + 1, none⟩ = some (.int .u32 (t : Int)) ∧ w'.cell? ⟨bb, oo + j * 5 + 2, none⟩ = some (.int .u8 (r : Int)) ∧ w'.cell? ⟨bb, oo + j * 5 + 3, none⟩ = some (u) ∧ w'.cell? ⟨bb, oo + j * 5 + 4, none⟩ = some (.int .i64 p) ∧ w'.cell? ⟨bb, oo + i * 5 + 1, none⟩ = some (.int .u32 (ty : Int)) ∧ w'.cell? ⟨bb, oo + i * 5 + 2, none⟩ = some (.int .u8 (ry : Int))) := fun W h => by
      have a1 := (F1.out.keeps h).2
      exact ⟨h, a1.1, a1.2.1, a1.2.2.1, a1.2.2.2.1, a1.2.2.2.2, (h.cell (p := ⟨bb, oo + i * 5 + 1, none⟩) F1.out.1).trans h1y, (h.cell (p := ⟨bb, oo + i * 5 + 2, none⟩) F1.out.1).trans h2y⟩
    have ej : (j : Int) - 1 = (i : Int) := by omega
    have ew : IntKind.i64.wrap (i : Int) = (i : Int) := IntWalk.i64_in _ (by omega)
    have q6 : (0 : Int) ≤ (i : Int) := by omega
    have q7 : (i : Int) < (n : Int) := by omega
    have q8 : decide (0 < (j : Int)) = true := decide_eq_true (by omega)
    have q9 : decide (0 < j) = true := decide_eq_true (by omega)
    clear hky hty hry hpy h0y h1y h2y h3y h4y HOy F1 SK hbby
    cases ly
    · obtain rfl : q = false := by rw [← HQ.out]; exact bagB_no (fun h => by have h2 := of_decide_eq_false HLY.out; rw [HXY.out, HX.out] at h2; exact h2 (List.pairwise_iff_getElem.1 h.2.2 i j hil HJ.out (by omega)))
      go_wp2
      refine wp_region_held_drew (S := fun w' => Below wr.heap.size wr w' ∧ w'.cell? ⟨bb, oo + j * 5, none⟩ = some (.int .u8 (k : Int)) ∧ w'.cell? ⟨bb, oo + j * 5 + 1, none⟩ = some (.int .u32 (t : Int)) ∧ w'.cell? ⟨bb, oo + j * 5 + 2, none⟩ = some (.int .u8 (r : Int)) ∧ w'.cell? ⟨bb, oo + j * 5 + 3, none⟩ = some (u) ∧ w'.cell? ⟨bb, oo + j * 5 + 4, none⟩ = some (.int .i64 p) ∧ w'.cell? ⟨bb, oo + i * 5 + 1, none⟩ = some (.int .u32 (ty : Int)) ∧ w'.cell? ⟨bb, oo + i * 5 + 2, none⟩ = some (.int .u8 (ry : Int))) (by kernel_rfl) (SL.out _ (drew1 _)) (fun hHeld => ?_)
      refine rN 0 ?_
      refine rN 1 ?_
      refine rN 2 ?_
      refine rN 3 ?_
      refine wpAnyH_ready (rs := [4]) (by kernel_rfl) (by simp) ?_
      refine AllReadyH.cons rfl (fun K hK => ?_) ?zc4
      case zc4 => exact AllReadyH.nil
      go_simp
      refine (MA.out _ hHeld.1).mono ?_
      rintro e w9c4 ⟨rfl, b9⟩
      refine hK.out _ _ (SL.out _ (bt hHeld.1 b9)) (fun hNew => ?_)
      clear hHeld
      have hHeld := hNew
      clear hNew hK K
      refine rX ?_
      refine rN 5 ?_
      refine rN 6 ?_
      refine rN 7 ?_
      refine rN 8 ?_
      refine rN 9 ?_
      refine rN 10 ?_
      refine rN 11 ?_
      refine rN 12 ?_
      refine rN 13 ?_
      refine rN 14 ?_
      refine rN 15 ?_
      refine rN 16 ?_
      refine rN 17 ?_
      refine rN 18 ?_
      refine rN 19 ?_
      refine rN 20 ?_
      refine wpAnyH_ready (rs := [21]) (by kernel_rfl) (by simp) ?_
      refine AllReadyH.cons rfl (fun K hK => ?_) ?zc21
      case zc21 => exact AllReadyH.nil
      go_simp
      refine (LY.out _).mono ?_
      rintro e w9c21 ⟨rfl, b9⟩
      refine hK.out _ _ (SL.out _ (bt hHeld.1 b9)) (fun hNew => ?_)
      clear hHeld
      have hHeld := hNew
      clear hNew hK K
      refine rX ?_
      refine rN 22 ?_
      refine rN 23 ?_
      refine rN 24 ?_
      refine wpAnyH_done (by kernel_rfl) ?_ _
      go_wp2
      go_ret
      exact ⟨rfl, bt hbel.out hHeld.1⟩
    have LJ : Hid (∀ k (h : k + 1 < l.length), k + 1 < j + 1 → lessO (l[k]'(by omega)) (l[k + 1]'h)) := fun k h hk => by
      by_cases e : k = i
      · subst e; subst hi; have h2 := of_decide_eq_true HLY.out; rw [HXY.out, HX.out] at h2; exact h2
      · exact hless.out k h (by omega)
    go_wp2
    refine wp_region_held_drew (S := fun w' => Below wr.heap.size wr w' ∧ w'.cell? ⟨bb, oo + j * 5, none⟩ = some (.int .u8 (k : Int)) ∧ w'.cell? ⟨bb, oo + j * 5 + 1, none⟩ = some (.int .u32 (t : Int)) ∧ w'.cell? ⟨bb, oo + j * 5 + 2, none⟩ = some (.int .u8 (r : Int)) ∧ w'.cell? ⟨bb, oo + j * 5 + 3, none⟩ = some (u) ∧ w'.cell? ⟨bb, oo + j * 5 + 4, none⟩ = some (.int .i64 p) ∧ w'.cell? ⟨bb, oo + i * 5 + 1, none⟩ = some (.int .u32 (ty : Int)) ∧ w'.cell? ⟨bb, oo + i * 5 + 2, none⟩ = some (.int .u8 (ry : Int))) (by kernel_rfl) (SL.out _ (drew1 _)) (fun hHeld => ?_)
    refine rN 0 ?_
    refine rN 1 ?_
    refine rN 2 ?_
    refine rN 3 ?_
    refine wpAnyH_ready (rs := [4]) (by kernel_rfl) (by simp) ?_
    refine AllReadyH.cons rfl (fun K hK => ?_) ?zd4
    case zd4 => exact AllReadyH.nil
    go_simp
    refine (MA.out _ hHeld.1).mono ?_
    rintro e w9d4 ⟨rfl, b9⟩
    refine hK.out _ _ (SL.out _ (bt hHeld.1 b9)) (fun hNew => ?_)
    clear hHeld
    have hHeld := hNew
    clear hNew hK K
    refine rX ?_
    refine rN 5 ?_
    refine rN 6 ?_
    refine rN 7 ?_
    refine rN 8 ?_
    refine rN 9 ?_
    refine rN 10 ?_
    refine rN 11 ?_
    refine rN 12 ?_
    refine rN 13 ?_
    refine rN 14 ?_
    refine rN 15 ?_
    refine rN 16 ?_
    refine rN 17 ?_
    refine rN 18 ?_
    refine rN 19 ?_
    refine rN 20 ?_
    refine wpAnyH_ready (rs := [21]) (by kernel_rfl) (by simp) ?_
    refine AllReadyH.cons rfl (fun K hK => ?_) ?zd21
    case zd21 => exact AllReadyH.nil
    go_simp
    refine (LY.out _).mono ?_
    rintro e w9d21 ⟨rfl, b9⟩
    refine hK.out _ _ (SL.out _ (bt hHeld.1 b9)) (fun hNew => ?_)
    clear hHeld
    have hHeld := hNew
    clear hNew hK K
    refine rX ?_
    refine rN 22 ?_
    refine rN 23 ?_
    refine rN 24 ?_
    refine wpAnyH_done (by kernel_rfl) ?_ _
    go_wp2
    go_roundw
    case rel => exact ⟨j + 1, by omega, by go_num, MJ, LJ, Lib.hid (bt hbel.out hHeld.1)⟩
    case measure => simp [intOf]; omega
end Go.Proofs.YtmiepnnpccpicaaGreat.Bags

namespace Go.Proofs.YtmiepnnpccpicaaGreat.Bags
open Go.RowKit Go.WideShapes Stamp Go.Proofs.YtmiepnnpccpicaaGreat.Place Ops Codes
attribute [local go_sem ↓] Go.wp_at_zero Go.wp_at_succ
attribute [local go_sem] yielded_undef
/-- What is found of a stamp. -/
def FoundO (q : Option Opn) (v0 : Value) (l : List Opn) (w : World) (e : Ending) (w' : World) : Prop := ∃ v, e = .returned (.tuple #[opv (q.getD zop) v, .bool q.isSome]) ∧ (∀ W : World, Below W.heap.size W w → OpL W v0 l → Runs W v (q.getD zop).pl) ∧ Below w.heap.size w w'
set_option maxRecDepth 100000 in
set_option maxHeartbeats 8000000 in
theorem refOfO_any {v : Value} {l : List Opn} (a : Id) {w : World} (hv : OpL w v l) :
    Calls Tryz.prog 147 #[v, .agg #[.int .u32 (a.t : Int), .int .u8 (a.r : Int)]] w (FoundO (findO l a) v l w) := by
  obtain ⟨ao, cap, rfl⟩ := hv.shape
  obtain ⟨n, hn⟩ : ∃ n, n = l.length := ⟨_, rfl⟩
  have hmx : n ≤ 9223372036854775807 := by rw [hn]; exact hv.max
  have HV : Hid (∀ W : World, Below w.heap.size w W → OpL W (.slice ao l.length cap) l) := fun W h => hv.keeps h
  have HN := Lib.hid hn
  obtain ⟨q, hq⟩ : ∃ q, findO l a = q := ⟨_, rfl⟩
  have HQ : Hid (∀ (k : Nat) (hk : k < l.length), (∀ j (h : j < l.length), j < k → idO (l[j]'h) ≠ a) → idO (l[k]'hk) = a → q = some (l[k]'hk)) := fun k hk h1 h2 => by rw [← hq]; exact findO_at k hk h1 h2
  have HZ : Hid ((∀ j (h : j < l.length), idO (l[j]'h) ≠ a) → q = none) := fun h => by
    rw [← hq]; refine findO_none.2 (fun o ho => ?_)
    obtain ⟨i, hi, rfl⟩ := List.getElem_of_mem ho
    exact h i hi
  rw [hq, ← hn]
  obtain ⟨A, hA⟩ : ∃ A, A = a := ⟨_, rfl⟩
  rw [← hA] at HQ HZ
  have HA : Hid (∀ x : Opn, idO x = A ↔ x.t = a.t ∧ x.r = a.r) := fun x => by rw [hA, Id.eq_iff]; rfl
  obtain ⟨ta, ra, hta, hra⟩ := a
  simp only at HA ⊢
  obtain ⟨wl, hwl⟩ : ∃ x, x = (w.alloc (.cells #[.int .u32 (ta : Int), .int .u8 (ra : Int)] 25)).alloc (.cells #[.int .u8 0, .int .u32 0, .int .u8 0, .slice none 0 0, .int .i64 0] 47) := ⟨_, rfl⟩
  have XI : Hid (wl.heap[w.heap.size]? = some (.cells #[.int .u32 (ta : Int), .int .u8 (ra : Int)] 25)) := by rw [hwl]; exact blk_old (blk_new rfl)
  have XO : Hid (wl.heap[w.heap.size + 1]? = some (.cells #[.int .u8 0, .int .u32 0, .int .u8 0, .slice none 0 0, .int .i64 0] 47)) := by rw [hwl]; exact blk_new (by simp)
  have BL : Hid (Below w.heap.size w wl) := by rw [hwl]; exact ((Below.refl _ _).alloc (Nat.le_refl _) _).alloc (by simp) _
  have B0 : Hid (Below wl.heap.size wl ((w.alloc (.cells #[.int .u32 (ta : Int), .int .u8 (ra : Int)] 25)).alloc (.cells #[.int .u8 0, .int .u32 0, .int .u8 0, .slice none 0 0, .int .i64 0] 47))) := by rw [← hwl]; exact Below.refl _ _
  clear hv hn hq hA hwl
  go_enter Tryz.func147, Tryz.ntmps147
  go_wp2
  go_loopw [6] (fun i wr => ∃ j : Nat, j ≤ n ∧ i = .int .i64 (j : Int) ∧ Hid (∀ k (h : k < l.length), k < j → idO (l[k]'h) ≠ A) ∧ Hid (Below wl.heap.size wl wr)) (fun i _ => n - (intOf i).toNat)
  case atStart => exact ⟨0, by omega, rfl, fun k h hk => by omega, B0⟩
  case round =>
    clear B0
    obtain ⟨j, hj, rfl, hno, hbel⟩ := hrel
    have XI2 := Lib.hid (blk_below hbel.out XI.out)
    have XO2 := Lib.hid (blk_below hbel.out XO.out)
    have BW := Lib.hid (bt BL.out hbel.out)
    by_cases hjn : j < n
    rotate_left
    · have q3 : decide (j < n) = false := by simpa using hjn
      obtain rfl := HZ.out (fun i h => hno.out i h (by have := HN.out; omega))
      obtain ⟨x0, x1, x2, x3, x4⟩ := cells5 XO2.out
      have f0 : ∀ o, wr.frozen? ⟨w.heap.size + 1, o, none⟩ = false := fun o => free5 XO2.out o
      go_wp2_with fail
      obtain ⟨WF, hWF⟩ : ∃ WF, WF = put5 wr (w.heap.size + 1) (.int .u8 0) (.int .u32 0) (.int .u8 0) (.slice none 0 0) (.int .i64 0) := ⟨_, rfl⟩
      have HF := put5_same (.int .u8 0) (.int .u32 0) (.int .u8 0) (.slice none 0 0) (.int .i64 0) XO2.out
      have BF := put5_below (.int .u8 0) (.int .u32 0) (.int .u8 0) (.slice none 0 0) (.int .i64 0) (show w.heap.size ≤ w.heap.size + 1 by omega) BW.out
      rw [← hWF] at HF BF
      unfold put5 at hWF
      rw [← hWF]
      obtain ⟨e0, e1, e2, e3, e4⟩ := cells5 HF
      exact bodyPost_ret (v := .tuple #[.agg #[.int .u8 0, .int .u32 0, .int .u8 0, .slice none 0 0, .int .i64 0], .bool false]) (by simp [results, Tryz.results147, go_sem, e0, e1, e2, e3, e4]) rfl ⟨.slice none 0 0, rfl, fun _ _ _ => Runs.nil _, BF⟩
    have q3 : decide (j < n) = true := by simpa using hjn
    have q4 : (0 : Int) ≤ (j : Int) := by omega
    have q5 : (j : Int) < (n : Int) := by omega
    have hjl : j < l.length := by rw [← HN.out]; exact hjn
    obtain ⟨bb, oo, u, e, hbb, hru, h0, h1, h2, h3, h4⟩ := opl_at (HV.out w (Below.refl _ _)) j hjl
    subst e
    obtain ⟨x, hx⟩ : ∃ x, x = l[j]'hjl := ⟨_, rfl⟩
    rw [← hx] at hru h0 h1 h2 h4
    have HO : Hid (∀ v : Value, opv x v = .agg #[.int .u8 (x.k : Int), .int .u32 (x.t : Int), .int .u8 (x.r : Int), v, .int .i64 x.p]) := fun v => rfl
    obtain ⟨uo, uc, rfl⟩ := hru.shape
    obtain ⟨nu, hnu⟩ : ∃ n, n = x.pl.length := ⟨_, rfl⟩
    have HNU := Lib.hid hnu
    rw [← hnu] at hru h3
    clear hnu
    have HRU : Hid (∀ W : World, Below W.heap.size W w → OpL W (.slice (some ⟨bb, oo, none⟩) n cap) l → Runs W (.slice uo nu uc) x.pl) := fun W hb h => by
      have hn9 := HN.out
      rw [hn9] at h
      obtain ⟨b9, o9, u9, e9, hlt9, hr9, _, _, _, h9, _⟩ := opl_at h j hjl
      cases e9
      have e9 := (hb.cell (p := ⟨bb, oo + j * 5 + 3, none⟩) hlt9).trans h9
      rw [h3] at e9
      cases e9
      rw [hx]; exact hr9
    replace h0 := ((BW.out).cell (p := ⟨bb, oo + j * 5, none⟩) hbb).trans h0
    replace h1 := ((BW.out).cell (p := ⟨bb, oo + j * 5 + 1, none⟩) hbb).trans h1
    replace h2 := ((BW.out).cell (p := ⟨bb, oo + j * 5 + 2, none⟩) hbb).trans h2
    replace h3 := ((BW.out).cell (p := ⟨bb, oo + j * 5 + 3, none⟩) hbb).trans h3
    replace h4 := ((BW.out).cell (p := ⟨bb, oo + j * 5 + 4, none⟩) hbb).trans h4
    have hbo := hbb
    replace hbb := Nat.lt_of_lt_of_le hbb (BW.out).size
    have HX : Hid (x = l[j]'hjl) := hx
    have HE := Lib.hid (HA.out x)
    have HG := Lib.hid (HQ.out j hjl (fun i h hi => hno.out i h hi))
    have hxx := hx
    clear hx hru
    obtain ⟨k, hk⟩ : ∃ z, x.k = z := ⟨_, rfl⟩
    obtain ⟨t, ht⟩ : ∃ z, x.t = z := ⟨_, rfl⟩
    obtain ⟨r, hr⟩ : ∃ z, x.r = z := ⟨_, rfl⟩
    obtain ⟨p, hp⟩ : ∃ z, x.p = z := ⟨_, rfl⟩
    rw [hk, ht, hr, hp] at HO
    rw [hk] at h0
    rw [ht] at h1
    rw [hr] at h2
    rw [hp] at h4
    obtain ⟨f0, f1⟩ : wr.cell? ⟨w.heap.size, 0, none⟩ = some (.int .u32 (ta : Int)) ∧ wr.cell? ⟨w.heap.size, 1, none⟩ = some (.int .u8 (ra : Int)) := ⟨cell_of_row _ _ 0 _ _ _ XI2.out, cell_of_row _ _ 1 _ _ _ XI2.out⟩
    have hlt := World.block_lt_of_cell? _ _ f0
    have SK : Hid (∀ w' : World, Below wr.heap.size wr w' → Below wr.heap.size wr w' ∧ w'.cell? ⟨bb, oo + j * 5 + 1, none⟩ = some (.int .u32 (t : Int)) ∧ w'.cell? ⟨bb, oo + j * 5 + 2, none⟩ = some (.int .u8 (r : Int)) ∧ w'.cell? ⟨w.heap.size, 0, none⟩ = some (.int .u32 (ta : Int)) ∧ w'.cell? ⟨w.heap.size, 1, none⟩ = some (.int .u8 (ra : Int))) := fun W h => ⟨h, (h.cell (p := ⟨bb, oo + j * 5 + 1, none⟩) hbb).trans h1, (h.cell (p := ⟨bb, oo + j * 5 + 2, none⟩) hbb).trans h2, (h.cell (p := ⟨w.heap.size, 0, none⟩) hlt).trans f0, (h.cell (p := ⟨w.heap.size, 1, none⟩) hlt).trans f1⟩
    have F1 : Hid (FiveAt wr bb (oo + j * 5) (.int .u8 (k : Int)) (.int .u32 (t : Int)) (.int .u8 (r : Int)) (.slice uo nu uc) (.int .i64 p)) := ⟨hbb, h0, h1, h2, h3, h4⟩
    rw [ht, hr] at HE
    have HFV : Hid (∀ v : Value, Value.agg #[.int .u8 (k : Int), .int .u32 (t : Int), .int .u8 (r : Int), v, .int .i64 p] = opv x v) := fun v => (HO.out v).symm
    clear hk ht hr hp h0 h1 h2 h3 h4 f0 f1 hlt HO hbb
    obtain ⟨b1, hb1⟩ : ∃ b, decide (t = ta) = b := ⟨_, rfl⟩
    obtain ⟨b2, hb2⟩ : ∃ b, decide (r = ra) = b := ⟨_, rfl⟩
    have hb1' : ((t : Int) == (ta : Int)) = b1 := by rw [← hb1]; by_cases h : t = ta <;> simp [h] <;> omega
    have hb2' : ((r : Int) == (ra : Int)) = b2 := by rw [← hb2]; by_cases h : r = ra <;> simp [h] <;> omega
    have HM : Hid ((b1 && b2) = true → q = some (l[j]'hjl)) := fun h => HG.out (by rw [← HX.out, HE.out]; rw [Bool.and_eq_true, ← hb1, ← hb2, decide_eq_true_eq, decide_eq_true_eq] at h; exact h)
    have HNM : Hid ((b1 && b2) = false → ∀ i (h : i < l.length), i < j + 1 → idO (l[i]'h) ≠ A) := fun h i hi hij => by
      by_cases e : i = j
      · subst e; rw [← HX.out, Ne, HE.out]; rintro ⟨h1, h2⟩; rw [← hb1, ← hb2, decide_eq_true h1, decide_eq_true h2] at h; cases h
      · exact hno.out i hi (by omega)
    clear HE HG
    cases b1
    · cases b2
      · go_wp2
        refine wp_region_held_drew (S := fun w' => Below wr.heap.size wr w' ∧ w'.cell? ⟨bb, oo + j * 5 + 1, none⟩ = some (.int .u32 (t : Int)) ∧ w'.cell? ⟨bb, oo + j * 5 + 2, none⟩ = some (.int .u8 (r : Int)) ∧ w'.cell? ⟨w.heap.size, 0, none⟩ = some (.int .u32 (ta : Int)) ∧ w'.cell? ⟨w.heap.size, 1, none⟩ = some (.int .u8 (ra : Int))) (by kernel_rfl) (SK.out _ (drew1 _)) (fun hHeld => ?_)
        refine rN 0 ?_
        refine rN 1 ?_
        refine rN 2 ?_
        refine rN 3 ?_
        refine rN 4 ?_
        refine rN 5 ?_
        refine rN 6 ?_
        refine wpAnyH_done (by kernel_rfl) ?_ _
        have NJ := Lib.hid (HNM.out rfl)
        go_wp2
        go_roundw
        case rel => exact ⟨j + 1, by omega, by go_num, NJ, Lib.hid (bt hbel.out hHeld.1)⟩
        case measure => simp [intOf]; omega
      · go_wp2
        refine wp_region_held_drew (S := fun w' => Below wr.heap.size wr w' ∧ w'.cell? ⟨bb, oo + j * 5 + 1, none⟩ = some (.int .u32 (t : Int)) ∧ w'.cell? ⟨bb, oo + j * 5 + 2, none⟩ = some (.int .u8 (r : Int)) ∧ w'.cell? ⟨w.heap.size, 0, none⟩ = some (.int .u32 (ta : Int)) ∧ w'.cell? ⟨w.heap.size, 1, none⟩ = some (.int .u8 (ra : Int))) (by kernel_rfl) (SK.out _ (drew1 _)) (fun hHeld => ?_)
        refine rN 0 ?_
        refine rN 1 ?_
        refine rN 2 ?_
        refine rN 3 ?_
        refine rN 4 ?_
        refine rN 5 ?_
        refine rN 6 ?_
        refine wpAnyH_done (by kernel_rfl) ?_ _
        have NJ := Lib.hid (HNM.out rfl)
        go_wp2
        go_roundw
        case rel => exact ⟨j + 1, by omega, by go_num, NJ, Lib.hid (bt hbel.out hHeld.1)⟩
        case measure => simp [intOf]; omega
    · cases b2
      · go_wp2
        refine wp_region_held_drew (S := fun w' => Below wr.heap.size wr w' ∧ w'.cell? ⟨bb, oo + j * 5 + 1, none⟩ = some (.int .u32 (t : Int)) ∧ w'.cell? ⟨bb, oo + j * 5 + 2, none⟩ = some (.int .u8 (r : Int)) ∧ w'.cell? ⟨w.heap.size, 0, none⟩ = some (.int .u32 (ta : Int)) ∧ w'.cell? ⟨w.heap.size, 1, none⟩ = some (.int .u8 (ra : Int))) (by kernel_rfl) (SK.out _ (drew1 _)) (fun hHeld => ?_)
        refine rN 0 ?_
        refine rN 1 ?_
        refine rN 2 ?_
        refine rN 3 ?_
        refine rN 4 ?_
        refine rN 5 ?_
        refine rN 6 ?_
        refine wpAnyH_done (by kernel_rfl) ?_ _
        have NJ := Lib.hid (HNM.out rfl)
        go_wp2
        go_roundw
        case rel => exact ⟨j + 1, by omega, by go_num, NJ, Lib.hid (bt hbel.out hHeld.1)⟩
        case measure => simp [intOf]; omega
      · obtain rfl := HM.out rfl
        go_wp2
        refine wp_region_held_drew (S := fun w' => Below wr.heap.size wr w' ∧ w'.cell? ⟨bb, oo + j * 5 + 1, none⟩ = some (.int .u32 (t : Int)) ∧ w'.cell? ⟨bb, oo + j * 5 + 2, none⟩ = some (.int .u8 (r : Int)) ∧ w'.cell? ⟨w.heap.size, 0, none⟩ = some (.int .u32 (ta : Int)) ∧ w'.cell? ⟨w.heap.size, 1, none⟩ = some (.int .u8 (ra : Int))) (by kernel_rfl) (SK.out _ (drew1 _)) (fun hHeld => ?_)
        refine rN 0 ?_
        refine rN 1 ?_
        refine rN 2 ?_
        refine rN 3 ?_
        refine rN 4 ?_
        refine rN 5 ?_
        refine rN 6 ?_
        refine wpAnyH_done (by kernel_rfl) ?_ _
        have XO3 := Lib.hid (blk_below hHeld.1 XO2.out)
        have F3 := (F1.out.keeps hHeld.1).2
        have B3 := Lib.hid (bt BW.out hHeld.1)
        clear hHeld
        generalize wr.drew = we at XO3 F3 B3 ⊢
        obtain ⟨F30, F31, F32, F33, F34⟩ := F3
        obtain ⟨x0, x1, x2, x3, x4⟩ := cells5 XO3.out
        have f0 : ∀ o, we.frozen? ⟨w.heap.size + 1, o, none⟩ = false := fun o => free5 XO3.out o
        go_wp2_with fail
        obtain ⟨WF, hWF⟩ : ∃ WF, WF = put5 we (w.heap.size + 1) (.int .u8 (k : Int)) (.int .u32 (t : Int)) (.int .u8 (r : Int)) (.slice uo nu uc) (.int .i64 p) := ⟨_, rfl⟩
        have HF := put5_same (.int .u8 (k : Int)) (.int .u32 (t : Int)) (.int .u8 (r : Int)) (.slice uo nu uc) (.int .i64 p) XO3.out
        have BF := put5_below (.int .u8 (k : Int)) (.int .u32 (t : Int)) (.int .u8 (r : Int)) (.slice uo nu uc) (.int .i64 p) (show w.heap.size ≤ w.heap.size + 1 by omega) B3.out
        rw [← hWF] at HF BF
        unfold put5 at hWF
        rw [← hWF]
        obtain ⟨e0, e1, e2, e3, e4⟩ := cells5 HF
        refine bodyPost_ret (v := .tuple #[.agg #[.int .u8 (k : Int), .int .u32 (t : Int), .int .u8 (r : Int), .slice uo nu uc, .int .i64 p], .bool true]) (by simp [results, Tryz.results147, go_sem, e0, e1, e2, e3, e4]) rfl ⟨.slice uo nu uc, ?_, ?_, BF⟩
        · rw [HFV.out, HX.out]; rfl
        · intro W hb h
          have := HRU.out W hb h
          rw [HX.out] at this
          exact this
theorem refHasO_any {v : Value} {l : List Opn} (a : Id) {w : World} (hv : OpL w v l) :
    Calls Tryz.prog 129 #[v, .agg #[.int .u32 (a.t : Int), .int .u8 (a.r : Int)]] w fun e w' => e = .returned (.bool (hasO l a)) ∧ Below w.heap.size w w' := by
  have C : Hid (∀ W : World, Below w.heap.size w W → Calls Tryz.prog 147 #[v, .agg #[.int .u32 (a.t : Int), .int .u8 (a.r : Int)]] W (FoundO (findO l a) v l W)) := fun W h => refOfO_any a (hv.keeps h)
  have HVV : Hid (∀ W : World, Below w.heap.size w W → OpL W v l) := fun W h => hv.keeps h
  unfold hasO
  obtain ⟨q, hq⟩ : ∃ q, findO l a = q := ⟨_, rfl⟩
  rw [hq] at C ⊢
  obtain ⟨ta, ra, hta, hra⟩ := a
  simp only at C ⊢
  have B0 : Hid (Below w.heap.size w (w.alloc (.cells #[.int .u32 (ta : Int), .int .u8 (ra : Int)] 25))) := (Below.refl _ _).alloc (Nat.le_refl _) _
  clear hv hq
  go_enter Tryz.func129, Tryz.ntmps129
  go_wp2_with fail
  refine (C.out _ B0.out).mono ?_
  rintro e w1 ⟨v1, rfl, r1, b1⟩
  have B1 := Lib.hid (bt B0.out b1)
  obtain ⟨uo, uc, rfl⟩ := (r1 _ (Below.refl _ _) (HVV.out _ B0.out)).shape
  generalize (q.getD zop).pl.length = nu
  clear r1 b1
  unfold opv
  go_wp2
  go_ret
  exact ⟨rfl, B1.out.alloc B1.out.size _⟩
end Go.Proofs.YtmiepnnpccpicaaGreat.Bags

namespace Go.Proofs.YtmiepnnpccpicaaGreat
open Go.RowKit Go.WideShapes
/-- A row of the call's own (since the world w0), what its elements hold lies in w0. -/
def Shr {α : Type} (E : Enc α) (te : TypeId) (w0 w : World) (v : Value) (l : List α) : Prop := ∃ cs, w.ownsRow w0.heap.size te E.sz v l.length cs ∧ E.rows w0 cs l
theorem Shr.nil {α : Type} (E : Enc α) (te : TypeId) (w0 w : World) : Shr E te w0 w (.slice none 0 0) [] := ⟨[], World.ownsRow_nil _ _ _ _, rfl⟩
theorem Shr.keeps {α : Type} {E : Enc α} {te : TypeId} {w0 w w' : World} {v : Value} {l : List α} (h : Shr E te w0 w v l) (hb : Below w.heap.size w w') : Shr E te w0 w' v l := by
  obtain ⟨cs, h1, h2⟩ := h
  exact ⟨cs, own_stays h1 hb, h2⟩
theorem Shr.seq {α : Type} {E : Enc α} {te : TypeId} {w0 w : World} {v : Value} {l : List α} (h : Shr E te w0 w v l) (hb : Below w0.heap.size w0 w) : Seq E w v l := by
  obtain ⟨cs, h1, h2⟩ := h
  exact ⟨cs, Sees.own h1, Enc.rows_keep hb h2⟩
theorem wpList_append_enc {α : Type} {E : Enc α} {ts te : TypeId} (ht : Tryz.prog.underlying ts = some (.slice te)) {z : Value} {bytes : Nat}
    (hi : (Tryz.prog.info? te).map (fun i => (i.zero, i.size, i.bytes)) = some (some z, E.sz, bytes)) (hzs : z.cells.size = E.sz)
    {w0 wp : World} {ops : Array Oper} {rest : List Oper} {o : Oper} {a : Act} {Q : Exit → Act → World → Prop} (hgd : o.guard = none) (s x : Operand)
    (ho : o.op = .call { callee := .builtin .append, args := #[s, x], argTypes := #[ts, ts] }) {v : Value} {L : List α} (hs : a.eval s = v) (hv : Shr E te w0 wp v L)
    {G : Nat} (hx : a.eval x = .slice (some ⟨G, 0, none⟩) 1 1) (hG : wp.heap.size = G) {c : Array Value} {y : α} (hin : E.inn w0 c.toList y) {m : Nat} (hm : m = L.length) (h47 : (m + 1) * bytes ≤ 140737488355328) (hl : m ≤ 1000000000000) (hbase : w0.heap.size ≤ wp.heap.size)
    (h : ∀ v' w', Shr E te w0 w' v' (L ++ [y]) → (∃ ao cap, v' = .slice ao (m + 1) cap) → Below w0.heap.size wp w' → wpList Tryz.prog ops Q rest (a.put o.dst v') w') :
    wpList Tryz.prog ops Q (o :: rest) a (wp.alloc (.cells c te)) := by
  subst hG
  subst hm
  obtain ⟨cs, h1, h2⟩ := hv
  have hlen : c.toList.length = 1 * E.sz := by rw [E.len hin]; omega
  have hse := sees_new wp c.toList E.sz 1 hlen (by omega) te (0, 0)
  rw [Array.toArray_toList] at hse
  have hb := (Below.refl wp.heap.size wp).alloc (Nat.le_refl _) (.cells c te)
  refine wpList_append_sees hgd s x ts te ho ht hi hzs E.pos w0.heap.size v L.length cs hs (own_stays h1 hb) _ 1 c.toList hx hse (E.one hin) h47 (by omega) (Nat.le_trans hbase hb.size) ?_
  intro v' w' o6 _ b6
  refine h v' w' ⟨cs ++ c.toList, by rw [List.length_append]; exact o6, Enc.rows_snoc h2 hin⟩ (Sees.shape (Sees.own o6)) (((Below.refl _ _).alloc hbase _).trans b6)
end Go.Proofs.YtmiepnnpccpicaaGreat

namespace Go.Proofs.YtmiepnnpccpicaaGreat.Bags
open Go.RowKit Go.WideShapes Stamp Go.Proofs.YtmiepnnpccpicaaGreat.Place Ops Codes
attribute [local go_sem ↓] Go.wp_at_zero Go.wp_at_succ
attribute [local go_sem] yielded_undef
/-- Rows of operations of the call's own, their places shared. -/
abbrev ShrO (w0 w : World) (v : Value) (l : List Opn) : Prop := Shr opE 47 w0 w v l
theorem filter_take {P : Opn → Bool} {l : List Opn} {j : Nat} (h : j < l.length) : (l.take (j + 1)).filter P = (l.take j).filter P ++ (if P (l[j]'h) = true then [l[j]'h] else []) := by
  rw [List.take_succ_eq_append_getElem h, List.filter_append]
  by_cases hp : P (l[j]'h) = true
  · rw [if_pos hp]; simp [hp]
  · rw [if_neg hp]; simp [hp]
theorem filter_take_len {P : Opn → Bool} {l : List Opn} (j : Nat) : ((l.take j).filter P).length ≤ l.length :=
  Nat.le_trans (List.length_filter_le _ _) (by rw [List.length_take]; omega)
end Go.Proofs.YtmiepnnpccpicaaGreat.Bags

namespace Go.Proofs.YtmiepnnpccpicaaGreat.Bags
open Go.RowKit Go.WideShapes Stamp Go.Proofs.YtmiepnnpccpicaaGreat.Place Ops Codes
attribute [local go_sem ↓] Go.wp_at_zero Go.wp_at_succ
attribute [local go_sem] yielded_undef
def idE : Enc Id where
  sz := 2
  pos := by decide
  inn _ cs x := cs = [.int .u32 (x.t : Int), .int .u8 (x.r : Int)]
  len := by rintro w cs x rfl; rfl
  one := by
    rintro w cs x rfl u hu
    simp only [List.mem_cons, List.not_mem_nil, or_false] at hu
    rcases hu with rfl | rfl <;> rfl
  keep := by rintro w w' cs x _ h; exact h
theorem idE_rows {w : World} : ∀ {cs : List Value} {l : List Id}, idE.rows w cs l → cs = ids l
  | _, [], h => h
  | _, _ :: _, ⟨c, d, h1, h2, h3⟩ => by
    rw [h1, show c = _ from h2, idE_rows h3]
    rfl
end Go.Proofs.YtmiepnnpccpicaaGreat.Bags

namespace Go.Proofs.YtmiepnnpccpicaaGreat.Codes
open Go.RowKit Go.WideShapes Go.Proofs.YtmiepnnpccpicaaGreat.Place Ops
attribute [local go_sem ↓] Go.wp_at_zero Go.wp_at_succ
set_option maxRecDepth 100000 in
set_option maxHeartbeats 4000000 in
theorem sameL_any {u v : Value} {l m : List Opn} {w : World} (hu : OpL w u l) (hv : OpL w v m) :
    Calls Tryz.prog 32 #[u, v] w fun e w' => e = .returned (.bool (decide (l = m))) ∧ Below w.heap.size w w' := by
  obtain ⟨ao, cap, rfl⟩ := hu.shape
  obtain ⟨bo, cab, rfl⟩ := hv.shape
  obtain ⟨n, hn⟩ : ∃ n, n = l.length := ⟨_, rfl⟩
  obtain ⟨n', hn'⟩ : ∃ n, n = m.length := ⟨_, rfl⟩
  have hm : n ≤ 9223372036854775807 := by rw [hn]; exact hu.max
  have hm' : n' ≤ 9223372036854775807 := by rw [hn']; exact hv.max
  have HU : Hid (∀ W : World, Below w.heap.size w W → OpL W (.slice ao l.length cap) l) := fun W h => hu.keeps h
  have HV : Hid (∀ W : World, Below w.heap.size w W → OpL W (.slice bo m.length cab) m) := fun W h => hv.keeps h
  have HN := Lib.hid hn
  have HN' := Lib.hid hn'
  obtain ⟨q, hq⟩ : ∃ q, decide (l = m) = q := ⟨_, rfl⟩
  have HQ := Lib.hid hq
  rw [hq, ← hn, ← hn']
  clear hu hv hn hn' hq
  go_enter Tryz.func32, Tryz.ntmps32
  by_cases he : n = n'
  rotate_left
  · have t1 : ((n : Int) != (n' : Int)) = true := by simp; omega
    have t2 : (n == n') = false := by simpa using he
    obtain rfl : q = false := by rw [← HQ.out]; exact decide_eq_false (fun h => he (by rw [HN.out, HN'.out, h]))
    go_wp2
    go_ret
    exact ⟨rfl, Below.refl _ _⟩
  subst he
  have t1 : ((n : Int) != (n : Int)) = false := by simp
  go_wp2
  go_loopw [5] (fun i wr => ∃ j : Nat, j ≤ n ∧ i = .int .i64 (j : Int) ∧ Hid (∀ k (h : k < l.length) (h' : k < m.length), k < j → l[k]'h = m[k]'h') ∧ Hid (Below w.heap.size w wr)) (fun i _ => n - (intOf i).toNat)
  case atStart => exact ⟨0, by omega, rfl, fun k h h' hk => by omega, Below.refl _ _⟩
  case round =>
    obtain ⟨j, hj, rfl, hall, hbel⟩ := hrel
    by_cases hjn : j < n
    · have q3 : decide (j < n) = true := by simpa using hjn
      have q4 : (0 : Int) ≤ (j : Int) := by omega
      have q5 : (j : Int) < (n : Int) := by omega
      have hjl : j < l.length := by rw [← HN.out]; exact hjn
      have hjm : j < m.length := by rw [← HN'.out]; exact hjn
      obtain ⟨bb, oo, u, rfl, hbb, hru, h0, h1, h2, h3, h4⟩ := opl_at (HU.out wr hbel.out) j hjl
      obtain ⟨bb', oo', u', rfl, hbb', hru', h0', h1', h2', h3', h4'⟩ := opl_at (HV.out wr hbel.out) j hjm
      obtain ⟨x, hx⟩ : ∃ x, x = l[j]'hjl := ⟨_, rfl⟩
      obtain ⟨y, hy⟩ : ∃ x, x = m[j]'hjm := ⟨_, rfl⟩
      rw [← hx] at hru h0 h1 h2 h4
      rw [← hy] at hru' h0' h1' h2' h4'
      have SM : Hid (∀ W : World, Below wr.heap.size wr W → Calls Tryz.prog 70 #[opv x u, opv y u'] W fun e w' => e = .returned (.bool (sameB x y)) ∧ Below W.heap.size W w') := fun W h => Ops.refSame_any (hru.keeps h) (hru'.keeps h)
      have HO : Hid (∀ v : Value, opv x v = .agg #[.int .u8 (x.k : Int), .int .u32 (x.t : Int), .int .u8 (x.r : Int), v, .int .i64 x.p]) := fun v => rfl
      have HO' : Hid (∀ v : Value, opv y v = .agg #[.int .u8 (y.k : Int), .int .u32 (y.t : Int), .int .u8 (y.r : Int), v, .int .i64 y.p]) := fun v => rfl
      have HNO : Hid (sameB x y = false → q = false) := fun h => by
        rw [← HQ.out]
        refine decide_eq_false (fun e => ?_)
        have : x = y := by rw [hx, hy]; subst e; rfl
        rw [(sameB_iff x y).2 this] at h; cases h
      have HYES : Hid (sameB x y = true → ∀ k (h : k < l.length) (h' : k < m.length), k < j + 1 → l[k]'h = m[k]'h') := fun e k h h' hk => by
        by_cases ek : k = j
        · subst ek; rw [← hx, ← hy]; exact (sameB_iff x y).1 e
        · exact hall.out k h h' (by omega)
      obtain ⟨k, hk⟩ : ∃ k, x.k = k := ⟨_, rfl⟩
      obtain ⟨t, ht⟩ : ∃ k, x.t = k := ⟨_, rfl⟩
      obtain ⟨r, hr⟩ : ∃ k, x.r = k := ⟨_, rfl⟩
      obtain ⟨p, hp⟩ : ∃ k, x.p = k := ⟨_, rfl⟩
      rw [hk, ht, hr, hp] at HO
      rw [hk] at h0
      rw [ht] at h1
      rw [hr] at h2
      rw [hp] at h4
      obtain ⟨k', hk'⟩ : ∃ k, y.k = k := ⟨_, rfl⟩
      obtain ⟨t', ht'⟩ : ∃ k, y.t = k := ⟨_, rfl⟩
      obtain ⟨r', hr'⟩ : ∃ k, y.r = k := ⟨_, rfl⟩
      obtain ⟨p', hp'⟩ : ∃ k, y.p = k := ⟨_, rfl⟩
      rw [hk', ht', hr', hp'] at HO'
      rw [hk'] at h0'
      rw [ht'] at h1'
      rw [hr'] at h2'
      rw [hp'] at h4'
      simp only [HO.out, HO'.out] at SM
      obtain ⟨my, hmy⟩ : ∃ b, sameB x y = b := ⟨_, rfl⟩
      rw [hmy] at SM HNO HYES
      have F1 : Hid (FiveAt wr bb (oo + j * 5) (.int .u8 (k : Int)) (.int .u32 (t : Int)) (.int .u8 (r : Int)) u (.int .i64 p)) := ⟨hbb, h0, h1, h2, h3, h4⟩
      have F2 : Hid (FiveAt wr bb' (oo' + j * 5) (.int .u8 (k' : Int)) (.int .u32 (t' : Int)) (.int .u8 (r' : Int)) u' (.int .i64 p')) := ⟨hbb', h0', h1', h2', h3', h4'⟩
      have SK : Hid (∀ w' : World, Below wr.heap.size wr w' → Below wr.heap.size wr w' ∧ w'.cell? ⟨bb, oo + j * 5, none⟩ = some (.int .u8 (k : Int)) ∧ w'.cell? ⟨bb, oo + j * 5 + 1, none⟩ = some (.int .u32 (t : Int)) ∧ w'.cell? ⟨bb, oo + j * 5 + 2, none⟩ = some (.int .u8 (r : Int)) ∧ w'.cell? ⟨bb, oo + j * 5 + 3, none⟩ = some (u) ∧ w'.cell? ⟨bb, oo + j * 5 + 4, none⟩ = some (.int .i64 p) ∧ w'.cell? ⟨bb', oo' + j * 5, none⟩ = some (.int .u8 (k' : Int)) ∧ w'.cell? ⟨bb', oo' + j * 5 + 1, none⟩ = some (.int .u32 (t' : Int)) ∧ w'.cell? ⟨bb', oo' + j * 5 + 2, none⟩ = some (.int .u8 (r' : Int)) ∧ w'.cell? ⟨bb', oo' + j * 5 + 3, none⟩ = some (u') ∧ w'.cell? ⟨bb', oo' + j * 5 + 4, none⟩ = some (.int .i64 p')) := fun W h => by
        have a1 := (F1.out.keeps h).2
        have a2 := (F2.out.keeps h).2
        exact ⟨h, a1.1, a1.2.1, a1.2.2.1, a1.2.2.2.1, a1.2.2.2.2, a2.1, a2.2.1, a2.2.2.1, a2.2.2.2.1, a2.2.2.2.2⟩
      clear hru hru' hx hy hk ht hr hp hk' ht' hr' hp' hmy hall HO HO' h0 h1 h2 h3 h4 h0' h1' h2' h3' h4' F1 F2
      cases my
      · obtain rfl := HNO.out rfl
        go_wp2
        go_region_held3 (fun w' => Below wr.heap.size wr w' ∧ w'.cell? ⟨bb, oo + j * 5, none⟩ = some (.int .u8 (k : Int)) ∧ w'.cell? ⟨bb, oo + j * 5 + 1, none⟩ = some (.int .u32 (t : Int)) ∧ w'.cell? ⟨bb, oo + j * 5 + 2, none⟩ = some (.int .u8 (r : Int)) ∧ w'.cell? ⟨bb, oo + j * 5 + 3, none⟩ = some (u) ∧ w'.cell? ⟨bb, oo + j * 5 + 4, none⟩ = some (.int .i64 p) ∧ w'.cell? ⟨bb', oo' + j * 5, none⟩ = some (.int .u8 (k' : Int)) ∧ w'.cell? ⟨bb', oo' + j * 5 + 1, none⟩ = some (.int .u32 (t' : Int)) ∧ w'.cell? ⟨bb', oo' + j * 5 + 2, none⟩ = some (.int .u8 (r' : Int)) ∧ w'.cell? ⟨bb', oo' + j * 5 + 3, none⟩ = some (u') ∧ w'.cell? ⟨bb', oo' + j * 5 + 4, none⟩ = some (.int .i64 p'))
          (first | exact SK.out _ (drew1 _) | (go_split_ands; exact SK.out _ (bt (by assumption) (by assumption))) | (go_split_ands; refine SK.out _ (bt ?_ ?_) <;> assumption))
          ((go_at_call 70; go_split_ands; (with_reducible refine (SM.out _ (by assumption)).mono ?_); rintro e w9 ⟨rfl, b9⟩))
        go_wp2
        go_ret
        go_split_ands
        exact ⟨rfl, bt hbel.out (by assumption)⟩
      · have HY := Lib.hid (HYES.out rfl)
        clear HYES HNO
        go_wp2
        go_region_held3 (fun w' => Below wr.heap.size wr w' ∧ w'.cell? ⟨bb, oo + j * 5, none⟩ = some (.int .u8 (k : Int)) ∧ w'.cell? ⟨bb, oo + j * 5 + 1, none⟩ = some (.int .u32 (t : Int)) ∧ w'.cell? ⟨bb, oo + j * 5 + 2, none⟩ = some (.int .u8 (r : Int)) ∧ w'.cell? ⟨bb, oo + j * 5 + 3, none⟩ = some (u) ∧ w'.cell? ⟨bb, oo + j * 5 + 4, none⟩ = some (.int .i64 p) ∧ w'.cell? ⟨bb', oo' + j * 5, none⟩ = some (.int .u8 (k' : Int)) ∧ w'.cell? ⟨bb', oo' + j * 5 + 1, none⟩ = some (.int .u32 (t' : Int)) ∧ w'.cell? ⟨bb', oo' + j * 5 + 2, none⟩ = some (.int .u8 (r' : Int)) ∧ w'.cell? ⟨bb', oo' + j * 5 + 3, none⟩ = some (u') ∧ w'.cell? ⟨bb', oo' + j * 5 + 4, none⟩ = some (.int .i64 p'))
          (first | exact SK.out _ (drew1 _) | (go_split_ands; exact SK.out _ (bt (by assumption) (by assumption))) | (go_split_ands; refine SK.out _ (bt ?_ ?_) <;> assumption))
          ((go_at_call 70; go_split_ands; (with_reducible refine (SM.out _ (by assumption)).mono ?_); rintro e w9 ⟨rfl, b9⟩))
        go_wp2
        go_split_ands
        go_roundw
        case rel => exact ⟨j + 1, by omega, by go_num, HY, Lib.hid (bt hbel.out (by assumption))⟩
        case measure => simp [intOf]; omega
    · have q3 : decide (j < n) = false := by simpa using hjn
      obtain rfl : q = true := by
        rw [← HQ.out]
        refine decide_eq_true (List.ext_getElem (by rw [← HN.out, ← HN'.out]) (fun k h h' => hall.out k h h' (by have := HN.out; omega)))
      go_wp2
      go_ret
      exact ⟨rfl, hbel.out⟩
end Go.Proofs.YtmiepnnpccpicaaGreat.Codes

namespace Go.Proofs.YtmiepnnpccpicaaGreat.Codes
open Go.RowKit Go.WideShapes Go.Proofs.YtmiepnnpccpicaaGreat.Place Ops
attribute [local go_sem ↓] Go.wp_at_zero Go.wp_at_succ
set_option maxRecDepth 100000 in
set_option maxHeartbeats 4000000 in
theorem twinL_any {v : Value} {l : List Opn} {w : World} (hv : OpL w v l) (hl : l.length ≤ 1000000000) (hp : ∀ o ∈ l, o.pl.length ≤ 8796093022208) :
    Calls Tryz.prog 17 #[v] w fun e w' => ∃ v', e = .returned v' ∧ OwnL w' w.heap.size v' l ∧ Below w.heap.size w w' := by
  obtain ⟨ao, cap, rfl⟩ := hv.shape
  obtain ⟨n, hn⟩ : ∃ n, n = l.length := ⟨_, rfl⟩
  have HV : Hid (∀ W : World, Below w.heap.size w W → OpL W (.slice ao l.length cap) l) := fun W h => hv.keeps h
  have HN := Lib.hid hn
  have HP := Lib.hid hp
  rw [← hn] at hl ⊢
  have L0 : Hid (OwnL w w.heap.size (.slice none 0 0) (l.take 0)) := OwnL.nil _ _
  have B0 : Hid (Below w.heap.size w w) := Below.refl _ _
  clear hv hn hp
  go_enter Tryz.func17, Tryz.ntmps17
  go_wp2
  go_loopw [3, 4] (fun v i wr => ∃ j : Nat, j ≤ n ∧ i = .int .i64 (j : Int) ∧ (∃ ao cap, v = .slice ao j cap) ∧ Hid (OwnL wr w.heap.size v (l.take j)) ∧ Hid (Below w.heap.size w wr)) (fun _ i _ => n - (intOf i).toNat)
  case atStart => exact ⟨0, by omega, rfl, ⟨none, 0, rfl⟩, L0, B0⟩
  case round =>
    clear L0 B0
    obtain ⟨j, hj, rfl, ⟨aoL, capL, rfl⟩, hown, hbel⟩ := hrel
    by_cases hjn : j < n
    · have q3 : decide (j < n) = true := by simpa using hjn
      have q4 : (0 : Int) ≤ (j : Int) := by omega
      have q5 : (j : Int) < (n : Int) := by omega
      have hjl : j < l.length := by rw [← HN.out]; exact hjn
      obtain ⟨bb, oo, u, rfl, hbb, hru, h0, h1, h2, h3, h4⟩ := opl_at (HV.out wr hbel.out) j hjl
      obtain ⟨x, hx⟩ : ∃ x, x = l[j]'hjl := ⟨_, rfl⟩
      have hst : l.take (j + 1) = l.take j ++ [x] := by rw [List.take_succ_eq_append_getElem hjl, hx]
      have hpx : x.pl.length ≤ 8796093022208 := HP.out x (by rw [hx]; exact List.getElem_mem hjl)
      rw [← hx] at hru h0 h1 h2 h4
      have HST := Lib.hid hst
      have TW : Hid (Calls Tryz.prog 51 #[opv x u] wr fun e w' => ∃ ao cap, e = .returned (opv x (.slice ao x.pl.length cap)) ∧ w'.ownsRow wr.heap.size 40 3 (.slice ao x.pl.length cap) x.pl.length (runs x.pl) ∧ Below wr.heap.size wr w') := by
        refine (refTwin_any hru hpx).mono ?_
        rintro e w' ⟨v', rfl, ho, hb⟩
        obtain ⟨ao', cap', rfl⟩ : ∃ ao cap, v' = .slice ao x.pl.length cap := Sees.shape (Sees.own ho)
        exact ⟨ao', cap', rfl, ho, hb⟩
      have HO : Hid (∀ v : Value, opv x v = .agg #[.int .u8 (x.k : Int), .int .u32 (x.t : Int), .int .u8 (x.r : Int), v, .int .i64 x.p]) := fun v => rfl
      obtain ⟨k, hk⟩ : ∃ k, x.k = k := ⟨_, rfl⟩
      obtain ⟨t, ht⟩ : ∃ k, x.t = k := ⟨_, rfl⟩
      obtain ⟨r, hr⟩ : ∃ k, x.r = k := ⟨_, rfl⟩
      obtain ⟨p, hp⟩ : ∃ k, x.p = k := ⟨_, rfl⟩
      have HFV : Hid (∀ v : Value, [.int .u8 (k : Int), .int .u32 (t : Int), .int .u8 (r : Int), v, .int .i64 p] = [Value.int .u8 (x.k : Int), .int .u32 (x.t : Int), .int .u8 (x.r : Int), v, .int .i64 x.p]) := fun v => by rw [hk, ht, hr, hp]
      rw [hk, ht, hr, hp] at HO
      rw [hk] at h0
      rw [ht] at h1
      rw [hr] at h2
      rw [hp] at h4
      obtain ⟨no, hno⟩ : ∃ n, n = x.pl.length := ⟨_, rfl⟩
      have HNO := Lib.hid hno
      rw [← hno] at TW
      simp only [HO.out] at TW
      have HLT : Hid ((l.take j).length = j) := by unfold Hid; rw [List.length_take, ← HN.out]; omega
      have hsz : w.heap.size ≤ wr.heap.size := hbel.out.size
      have HSZ := Lib.hid hsz
      clear hru hx hk ht hr hp hno hst hpx hsz
      go_wp2_with fail
      refine TW.out.mono ?_
      rintro e w5 ⟨aoO, capO, rfl, o5, b5⟩
      have L5 := Lib.hid (hown.out.keeps b5)
      have B5 := Lib.hid (bt hbel.out b5)
      obtain ⟨cs, lo, lh⟩ := L5.out
      rw [HLT.out] at lo
      have LO := Lib.hid lo
      have LH := Lib.hid lh
      have PO : Hid (w5.ownsRow w.heap.size 40 3 (.slice aoO no capO) no (runs x.pl)) := op_base o5 HSZ.out
      have SE : Hid (Sees (w5.alloc (.cells #[.int .u8 (k : Int), .int .u32 (t : Int), .int .u8 (r : Int), .slice aoO no capO, .int .i64 p] 47)) (.slice (some ⟨w5.heap.size, 0, none⟩) 1 1) 5 1 [.int .u8 (k : Int), .int .u32 (t : Int), .int .u8 (r : Int), .slice aoO no capO, .int .i64 p]) := sees_new w5 [.int .u8 (k : Int), .int .u32 (t : Int), .int .u8 (r : Int), .slice aoO no capO, .int .i64 p] 5 1 rfl (by omega) 47 (0, 0)
      have OA : Hid ((w5.alloc (.cells #[.int .u8 (k : Int), .int .u32 (t : Int), .int .u8 (r : Int), .slice aoO no capO, .int .i64 p] 47)).ownsRow w.heap.size 47 5 (.slice aoL j capL) j cs) := own_stays LO.out ((Below.refl _ _).alloc (Nat.le_refl _) _)
      have FO : ∀ z ∈ [Value.int .u8 (k : Int), .int .u32 (t : Int), .int .u8 (r : Int), .slice aoO no capO, .int .i64 p], z.oneCell' = true := by rw [HFV.out]; exact five_one x _ ⟨_, _, _, rfl⟩
      have FO2 := Lib.hid FO
      have bz : w.heap.size ≤ (w5.alloc (.cells #[.int .u8 (k : Int), .int .u32 (t : Int), .int .u8 (r : Int), .slice aoO no capO, .int .i64 p] 47)).heap.size := by have := B5.out.size; simp; omega
      clear o5 b5 lo lh FO hown hbel L5
      go_wp2_with (at_builtin; refine wpList_append_sees rfl (.tmp 11) (.tmp 17) 22 47 rfl Tryz.underlying22 op_info rfl (by decide) w.heap.size _ j cs rfl OA.out _ 1 [.int .u8 (k : Int), .int .u32 (t : Int), .int .u8 (r : Int), .slice aoO no capO, .int .i64 p] rfl SE.out FO2.out ?k1 ?k2 ?k3 ?_)
      case k1 => omega
      case k2 => omega
      case k3 => exact bz
      rintro v6 w6 o6 g6 b6
      have L6 : Hid (OwnL w6 w.heap.size v6 (l.take (j + 1))) := by
        have lo2 := LO.out
        have o7 := o6
        rw [HFV.out] at o7
        have po := own_stays (PO.out) ((Below.refl _ _).alloc (Nat.le_refl _) (.cells #[.int .u8 (k : Int), .int .u32 (t : Int), .int .u8 (r : Int), .slice aoO no capO, .int .i64 p] 47))
        have gx := g6
        unfold Hid
        rw [HST.out]
        rw [← HLT.out] at lo2 gx
        rw [HNO.out] at po o7
        refine OwnL.snoc (W := w5) (W8 := w5.alloc (.cells #[.int .u8 (k : Int), .int .u32 (t : Int), .int .u8 (r : Int), .slice aoO no capO, .int .i64 p] 47)) (m := j + 1) lo2 LH.out ((Below.refl _ _).alloc (Nat.le_refl _) _) ?_ gx o7 (by rw [HLT.out])
        rw [HNO.out]
        exact po
      have B6 : Hid (Below w.heap.size w w6) := (B5.out.alloc B5.out.size _).trans b6
      obtain ⟨va, vc, rfl⟩ : ∃ ao cap, v6 = .slice ao (j + 1) cap := Sees.shape (Sees.own o6)
      clear o6 g6 b6 OA SE LO LH PO B5 bz
      go_wp2
      go_roundw
      case rel => exact ⟨j + 1, by omega, by go_num, ⟨va, vc, rfl⟩, L6, B6⟩
      case measure => simp [intOf]; omega
    · have q3 : decide (j < n) = false := by simpa using hjn
      have hkk : l.take j = l := List.take_of_length_le (by have := HN.out; omega)
      rw [hkk] at hown
      clear hkk
      go_wp2
      go_ret
      exact ⟨_, rfl, hown.out, hbel.out⟩
end Go.Proofs.YtmiepnnpccpicaaGreat.Codes

namespace Go.Proofs.YtmiepnnpccpicaaGreat.Bags
open Go.RowKit Go.WideShapes Stamp Go.Proofs.YtmiepnnpccpicaaGreat.Place Ops Codes
attribute [local go_sem ↓] Go.wp_at_zero Go.wp_at_succ
attribute [local go_sem] yielded_undef
theorem refSameL_any {u v : Value} {l m : List Opn} {w : World} (hu : OpL w u l) (hv : OpL w v m) :
    Calls Tryz.prog 12 #[u, v] w fun e w' => e = .returned (.bool (decide (l = m))) ∧ Below w.heap.size w w' := by
  have C := Lib.hid (sameL_any hu hv)
  obtain ⟨q, hq⟩ : ∃ q, decide (l = m) = q := ⟨_, rfl⟩
  rw [hq] at C ⊢
  clear hu hv hq
  go_enter Tryz.func12, Tryz.ntmps12
  go_wp2_with fail
  refine C.out.mono ?_
  rintro e w1 ⟨rfl, b1⟩
  have B1 := Lib.hid b1
  clear b1
  go_wp2
  go_ret
  exact ⟨rfl, B1.out⟩
theorem refTwinL_any {v : Value} {l : List Opn} {w : World} (hv : OpL w v l) (hl : l.length ≤ 1000000000) (hp : ∀ o ∈ l, o.pl.length ≤ 8796093022208) :
    Calls Tryz.prog 6 #[v] w fun e w' => ∃ v', e = .returned v' ∧ OwnL w' w.heap.size v' l ∧ Below w.heap.size w w' := by
  have C := Lib.hid (twinL_any hv hl hp)
  clear hv hl hp
  go_enter Tryz.func6, Tryz.ntmps6
  go_wp2_with fail
  refine C.out.mono ?_
  rintro e w1 ⟨v1, rfl, o1, b1⟩
  have B1 := Lib.hid b1
  have O1 := Lib.hid o1
  clear b1 o1
  go_wp2
  go_ret
  exact ⟨_, rfl, O1.out, B1.out⟩
end Go.Proofs.YtmiepnnpccpicaaGreat.Bags

namespace Go.Proofs.YtmiepnnpccpicaaGreat.Marks
open Ops Stamp Bags Go.Proofs.YtmiepnnpccpicaaGreat.Place
theorem ended_iff {l : List Opn} {a : Id} : ended l a = true ↔ ∃ o ∈ l, o.k = 4 ∧ tgt o = a := by simp [ended]
theorem ended_no {l : List Opn} {a : Id} : ended l a = false ↔ ∀ o ∈ l, o.k = 4 → tgt o ≠ a := by
  rw [← Bool.not_eq_true, ended_iff]
  exact ⟨fun h o ho hk he => h ⟨o, ho, hk, he⟩, fun h ⟨o, ho, hk, he⟩ => h o ho hk he⟩
theorem atM_is {out : List Opn} {x : Opn} {k : Nat} (hk : k ≤ out.length) (h1 : ∀ i (h : i < out.length), i < k → ahead (out[i]'h) x = true) (h2 : ∀ h : k < out.length, ahead (out[k]'h) x = false) : atM out x = k := by
  unfold atM
  induction out generalizing k with
  | nil => simp at hk; subst hk; rfl
  | cons y out ih =>
    cases k with
    | zero =>
      have := h2 (by simp)
      rw [List.takeWhile_cons_of_neg (by simpa using this)]
      rfl
    | succ k =>
      have := h1 0 (by simp) (by omega)
      rw [List.takeWhile_cons_of_pos (by simpa using this), List.length_cons, ih (k := k) (by simpa using hk) (fun i h hi => h1 (i + 1) (by simpa using h) (by omega)) (fun h => h2 (by simpa using h))]
end Go.Proofs.YtmiepnnpccpicaaGreat.Marks

namespace Go.Proofs.YtmiepnnpccpicaaGreat.Ops
open Go.RowKit Stamp Go.Proofs.YtmiepnnpccpicaaGreat.Place
attribute [local go_sem ↓] Go.wp_at_zero Go.wp_at_succ
theorem refMany_any {v : Value} {o : Opn} {w : World} (hv : Runs w v o.pl) (hm : mayB o.pl = true) :
    Calls Tryz.prog 127 #[opv o v] w fun e w' => e = .returned (.int .i64 (((all o.pl).length - offs o : Nat) : Int)) ∧ Below w.heap.size w w' := by
  have hM := (mayB_iff o.pl).1 hm
  have hpos := all_pos hm
  have L : Hid (∀ W : World, Below w.heap.size w W → Calls Tryz.prog 65 #[v] W fun e w' => e = .returned (.int .i64 ((all o.pl).length : Int)) ∧ W = w') := fun W hW => by
    rw [hpos.2.2]
    exact long_any (hv.keeps hW) (by have := hM.2.1; omega) (fun j hj => by have := chain_one hM.2.2.1 hj; unfold Place.One at this; omega)
  have O : Hid (∀ W : World, Calls Tryz.prog 100 #[opv o v] W fun e w' => e = .returned (.bool (ownB o)) ∧ Below W.heap.size W w') := fun W => refOwn_any W
  obtain ⟨n, hn⟩ : ∃ n, n = (all o.pl).length := ⟨_, rfl⟩
  obtain ⟨hp1, hp2, -⟩ := hpos
  obtain ⟨b, hb⟩ : ∃ b, ownB o = b := ⟨_, rfl⟩
  have hof : offs o = if b = true then 1 else 0 := by unfold offs; rw [hb]
  rw [← hn] at hp1 hp2 L ⊢
  rw [hb] at O
  rw [hof]
  obtain ⟨k, t, r, l, p, hk, ht, hr, hp⟩ := o
  unfold opv at O ⊢
  simp only at hv O ⊢
  have B0 : Hid (Below w.heap.size w (w.alloc (.cells #[.int .u8 (k : Int), .int .u32 (t : Int), .int .u8 (r : Int), v, .int .i64 p] 47))) := (Below.refl _ _).alloc (Nat.le_refl _) _
  clear hv hm hM hn hb hof
  cases b
  · simp only [Bool.false_eq_true, if_false, Nat.sub_zero]
    go_enter Tryz.func127, Tryz.ntmps127
    go_wp2_with fail
    refine (L.out _ B0.out).mono ?_
    rintro e w1 ⟨rfl, rfl⟩
    go_wp2_with fail
    refine (O.out _).mono ?_
    rintro e w2 ⟨rfl, b2⟩
    have B2 := Lib.hid (bt B0.out b2)
    clear b2
    go_wp2
    go_ret
    exact ⟨rfl, B2.out⟩
  · simp only [if_true]
    have e1 : IntKind.i64.wrap ((n : Int) - 1) = (n : Int) - 1 := IntWalk.i64_in _ (by omega)
    have e2 : ((n - 1 : Nat) : Int) = (n : Int) - 1 := by omega
    rw [e2]
    clear e2
    go_enter Tryz.func127, Tryz.ntmps127
    go_wp2_with fail
    refine (L.out _ B0.out).mono ?_
    rintro e w1 ⟨rfl, rfl⟩
    go_wp2_with fail
    refine (O.out _).mono ?_
    rintro e w2 ⟨rfl, b2⟩
    have B2 := Lib.hid (bt B0.out b2)
    clear b2
    go_wp2
    go_ret
    exact ⟨rfl, B2.out⟩
end Go.Proofs.YtmiepnnpccpicaaGreat.Ops

namespace Go.Proofs.YtmiepnnpccpicaaGreat.Homes
open Ops Stamp Bags Marks Go.Proofs.YtmiepnnpccpicaaGreat.Place
theorem homeM_snoc (live : List Opn) (o : Opn) (p : List Run) : homeM (live ++ [o]) p = if notBehind o p = true then idO o else homeM live p := by
  unfold homeM; rw [List.foldl_append]; rfl
end Go.Proofs.YtmiepnnpccpicaaGreat.Homes

namespace Go.Proofs.YtmiepnnpccpicaaGreat.Views
open Ops Stamp Bags Marks Homes Covers Go.Proofs.YtmiepnnpccpicaaGreat.Place
theorem goneM_iff {c : List Opn} {a : Id} : goneM c a = true ↔ ∃ o ∈ c, o.k = 3 ∧ tgt o = a := by simp [goneM]
end Go.Proofs.YtmiepnnpccpicaaGreat.Views
