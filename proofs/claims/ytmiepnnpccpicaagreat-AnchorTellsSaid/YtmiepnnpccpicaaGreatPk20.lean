/- octavoref15.gone: what it answers. Conditions: operations that may be. octavoref15.Seen: what it answers. Conditions: operations that may be, not more than a million. octavoref06.Cut: what it answers. Conditions: the slice's cells are runs that may be, one behind the other. octavoref14.In: what it answers. Conditions: operations that may be, not more than a million; live marks that may be. -/
import Derived.Test.YtmiepnnpccpicaaGreatChecked
import Derived.WalkKit
import Derived.WalkSpells
import Derived.WalkLawsBesides
import Derived.Laws.BytesArg
import Derived.Lib.Hide
import Derived.Deep.LoopGhost
import Derived.Laws.AppendOwnNone
import Derived.Laws.OwnMore
import Derived.WideShapes
import Derived.Maps.AppendAt
import Derived.RegionTactic
import Derived.Deep.RegionHeld3
import Derived.Deep.DrawnRows
import Derived.Deep.QuietTactic
import Derived.BigQuiet
import Derived.IntWalk
import Derived.Deep.DeepCutAuto
import Derived.ScopeJumps
import Derived.Test.YtmiepnnpccpicaaGreatProg
import Derived.LoopTactic
import Derived.Laws.EntriesVeiled
import Derived.RowKit
import Derived.Lib.DecodeN
import Derived.Lib.RuneBytes
import Derived.Test.YtmiepnnpccpicaaGreatRw
import Derived.Test.YtmiepnnpccpicaaGreatPk05
import Derived.Test.YtmiepnnpccpicaaGreatPk17
import Derived.Test.YtmiepnnpccpicaaGreatPk04
import Derived.Test.YtmiepnnpccpicaaGreatPk16
import Derived.Test.YtmiepnnpccpicaaGreatPk03
import Derived.Test.YtmiepnnpccpicaaGreatPk02
import Derived.Test.YtmiepnnpccpicaaGreatPk15
import Derived.Test.YtmiepnnpccpicaaGreatPk01
import Derived.Test.YtmiepnnpccpicaaGreatPk18
import Derived.Test.YtmiepnnpccpicaaGreatPk19

namespace Go.Proofs.YtmiepnnpccpicaaGreat.Views
open Go.RowKit Go.WideShapes Stamp Go.Proofs.YtmiepnnpccpicaaGreat.Place Ops Codes Bags Marks Homes Covers
attribute [local go_sem ↓] Go.wp_at_zero Go.wp_at_succ
attribute [local go_sem] yielded_undef
theorem goneM_no {l : List Opn} {a : Id} : goneM l a = false ↔ ∀ o ∈ l, o.k = 3 → tgt o ≠ a := by
  rw [← Bool.not_eq_true, goneM_iff]
  exact ⟨fun h o ho hk he => h ⟨o, ho, hk, he⟩, fun h ⟨o, ho, hk, he⟩ => h o ho hk he⟩
set_option maxRecDepth 100000 in
set_option maxHeartbeats 8000000 in
theorem refGone_any {v : Value} {l : List Opn} (a : Id) {w : World} (hv : OpL w v l) (hm : ∀ o ∈ l, mayO o = true) :
    Calls Tryz.prog 104 #[v, .agg #[.int .u32 (a.t : Int), .int .u8 (a.r : Int)]] w fun e w' => e = .returned (.bool (goneM l a)) ∧ Below w.heap.size w w' := by
  obtain ⟨ao, cap, rfl⟩ := hv.shape
  obtain ⟨n, hn⟩ : ∃ n, n = l.length := ⟨_, rfl⟩
  have hmx : n ≤ 9223372036854775807 := by rw [hn]; exact hv.max
  have HV : Hid (∀ W : World, Below w.heap.size w W → OpL W (.slice ao l.length cap) l) := fun W h => hv.keeps h
  have HN := Lib.hid hn
  have HMY := Lib.hid hm
  obtain ⟨q, hq⟩ : ∃ q, goneM l a = q := ⟨_, rfl⟩
  have HQ : Hid (∀ o ∈ l, o.k = 3 → tgt o = a → q = true) := fun o ho h4 he => by rw [← hq, goneM_iff]; exact ⟨o, ho, h4, he⟩
  have HZ : Hid ((∀ j (h : j < l.length), (l[j]'h).k = 3 → tgt (l[j]'h) ≠ a) → q = false) := fun h => by
    rw [← hq, goneM_no]
    intro o ho
    obtain ⟨i, hi, rfl⟩ := List.getElem_of_mem ho
    exact h i hi
  rw [hq, ← hn]
  obtain ⟨A, hA⟩ : ∃ A, A = a := ⟨_, rfl⟩
  rw [← hA] at HQ HZ
  have HA : Hid (∀ x : Id, x = A ↔ x.t = a.t ∧ x.r = a.r) := fun x => by rw [hA, Id.eq_iff]
  obtain ⟨ta, ra, hta, hra⟩ := a
  simp only at HA ⊢
  obtain ⟨wl, hwl⟩ : ∃ x, x = w.alloc (.cells #[.int .u32 (ta : Int), .int .u8 (ra : Int)] 25) := ⟨_, rfl⟩
  have XI : Hid (wl.heap[w.heap.size]? = some (.cells #[.int .u32 (ta : Int), .int .u8 (ra : Int)] 25)) := by rw [hwl]; exact blk_new rfl
  have BL : Hid (Below w.heap.size w wl) := by rw [hwl]; exact (Below.refl _ _).alloc (Nat.le_refl _) _
  have B0 : Hid (Below wl.heap.size wl (w.alloc (.cells #[.int .u32 (ta : Int), .int .u8 (ra : Int)] 25))) := by rw [← hwl]; exact Below.refl _ _
  clear hv hn hq hA hwl hm
  go_enter Tryz.func104, Tryz.ntmps104
  go_wp2
  go_loopw [5] (fun i wr => ∃ j : Nat, j ≤ n ∧ i = .int .i64 (j : Int) ∧ Hid (∀ k (h : k < l.length), k < j → (l[k]'h).k = 3 → tgt (l[k]'h) ≠ A) ∧ Hid (Below wl.heap.size wl wr)) (fun i _ => n - (intOf i).toNat)
  case atStart => exact ⟨0, by omega, rfl, fun k h hk => by omega, B0⟩
  case round =>
    clear B0
    obtain ⟨j, hj, rfl, hno, hbel⟩ := hrel
    have XI2 := Lib.hid (blk_below hbel.out XI.out)
    have BW := Lib.hid (bt BL.out hbel.out)
    by_cases hjn : j < n
    rotate_left
    · have q3 : decide (j < n) = false := by simpa using hjn
      obtain rfl := HZ.out (fun i h => hno.out i h (by have := HN.out; omega))
      go_wp2
      go_ret
      exact ⟨rfl, BW.out⟩
    have q3 : decide (j < n) = true := by simpa using hjn
    have q4 : (0 : Int) ≤ (j : Int) := by omega
    have q5 : (j : Int) < (n : Int) := by omega
    have hjl : j < l.length := by rw [← HN.out]; exact hjn
    obtain ⟨bb, oo, u, e, hbb, hru, h0, h1, h2, h3, h4⟩ := opl_at (HV.out wr BW.out) j hjl
    subst e
    obtain ⟨x, hx⟩ : ∃ x, x = l[j]'hjl := ⟨_, rfl⟩
    rw [← hx] at hru h0 h1 h2 h4
    have HO : Hid (∀ v : Value, opv x v = .agg #[.int .u8 (x.k : Int), .int .u32 (x.t : Int), .int .u8 (x.r : Int), v, .int .i64 x.p]) := fun v => rfl
    have HX : Hid (x = l[j]'hjl) := hx
    have hxm : x ∈ l := by rw [hx]; exact List.getElem_mem _
    have MX := HMY.out x hxm
    have TG : Hid (∀ W : World, Below wr.heap.size wr W → Calls Tryz.prog 102 #[opv x u] W fun e w' => e = .returned (.agg #[.int .u32 ((tgt x).t : Int), .int .u8 ((tgt x).r : Int)]) ∧ Below W.heap.size W w') := fun W h => refTarget_any (hru.keeps h) MX
    have HE := Lib.hid (HA.out (tgt x))
    have HG := Lib.hid (HQ.out x hxm)
    obtain ⟨T, hT⟩ : ∃ T, (tgt x).t = T := ⟨_, rfl⟩
    obtain ⟨R, hR⟩ : ∃ R, (tgt x).r = R := ⟨_, rfl⟩
    rw [hT, hR] at TG HE
    clear hx hru hT hR MX hxm
    obtain ⟨k, hk⟩ : ∃ z, x.k = z := ⟨_, rfl⟩
    obtain ⟨t, ht⟩ : ∃ z, x.t = z := ⟨_, rfl⟩
    obtain ⟨r, hr⟩ : ∃ z, x.r = z := ⟨_, rfl⟩
    obtain ⟨p, hp⟩ : ∃ z, x.p = z := ⟨_, rfl⟩
    rw [hk, ht, hr, hp] at HO
    rw [hk] at h0
    rw [ht] at h1
    rw [hr] at h2
    rw [hp] at h4
    simp only [HO.out] at TG
    have HK : Hid (x.k = k) := hk
    obtain ⟨f0, f1⟩ : wr.cell? ⟨w.heap.size, 0, none⟩ = some (.int .u32 (ta : Int)) ∧ wr.cell? ⟨w.heap.size, 1, none⟩ = some (.int .u8 (ra : Int)) := ⟨cell_of_row _ _ 0 _ _ _ XI2.out, cell_of_row _ _ 1 _ _ _ XI2.out⟩
    have hlt := World.block_lt_of_cell? _ _ f0
    have F1 : Hid (FiveAt wr bb (oo + j * 5) (.int .u8 (k : Int)) (.int .u32 (t : Int)) (.int .u8 (r : Int)) u (.int .i64 p)) := ⟨hbb, h0, h1, h2, h3, h4⟩
    have SK : Hid (∀ w' : World, Below wr.heap.size wr w' → Below wr.heap.size wr w' ∧ w'.cell? ⟨bb, oo + j * 5, none⟩ = some (.int .u8 (k : Int)) ∧ w'.cell? ⟨bb, oo + j * 5 + 1, none⟩ = some (.int .u32 (t : Int)) ∧ w'.cell? ⟨bb, oo + j * 5 + 2, none⟩ = some (.int .u8 (r : Int)) ∧ w'.cell? ⟨bb, oo + j * 5 + 3, none⟩ = some (u) ∧ w'.cell? ⟨bb, oo + j * 5 + 4, none⟩ = some (.int .i64 p) ∧ w'.cell? ⟨w.heap.size, 0, none⟩ = some (.int .u32 (ta : Int)) ∧ w'.cell? ⟨w.heap.size, 1, none⟩ = some (.int .u8 (ra : Int))) := fun W h => by
      have a1 := (F1.out.keeps h).2
      exact ⟨h, a1.1, a1.2.1, a1.2.2.1, a1.2.2.2.1, a1.2.2.2.2, (h.cell (p := ⟨w.heap.size, 0, none⟩) hlt).trans f0, (h.cell (p := ⟨w.heap.size, 1, none⟩) hlt).trans f1⟩
    clear hk ht hr hp h0 h1 h2 h3 h4 f0 f1 hlt HO hbb F1
    by_cases hk4 : k = 3
    rotate_left
    · have qk : ((k : Int) == 3) = false := by simp; omega
      have qk2 : decide ((k : Int) = 3) = false := decide_eq_false (by omega)
      have NJ : Hid (∀ i (h : i < l.length), i < j + 1 → (l[i]'h).k = 3 → tgt (l[i]'h) ≠ A) := fun i h hi => by
        by_cases e : i = j
        · subst e; rw [← HX.out, HK.out]; intro h4; exact absurd h4 hk4
        · exact hno.out i h (by omega)
      clear HG HE hk4 HK
      go_wp2
      refine wp_region_held_drew (S := fun w' => Below wr.heap.size wr w' ∧ w'.cell? ⟨bb, oo + j * 5, none⟩ = some (.int .u8 (k : Int)) ∧ w'.cell? ⟨bb, oo + j * 5 + 1, none⟩ = some (.int .u32 (t : Int)) ∧ w'.cell? ⟨bb, oo + j * 5 + 2, none⟩ = some (.int .u8 (r : Int)) ∧ w'.cell? ⟨bb, oo + j * 5 + 3, none⟩ = some (u) ∧ w'.cell? ⟨bb, oo + j * 5 + 4, none⟩ = some (.int .i64 p) ∧ w'.cell? ⟨w.heap.size, 0, none⟩ = some (.int .u32 (ta : Int)) ∧ w'.cell? ⟨w.heap.size, 1, none⟩ = some (.int .u8 (ra : Int))) (by kernel_rfl) (SK.out _ (drew1 _)) (fun hHeld => ?_)
      refine rN 0 ?_
      refine rN 1 ?_
      refine rN 2 ?_
      refine rN 3 ?_
      refine rN 4 ?_
      refine rN 5 ?_
      refine rN 6 ?_
      refine rV 7 ?_
      refine rV 8 ?_
      refine rV 9 ?_
      refine rV 10 ?_
      refine rV 11 ?_
      refine rV 12 ?_
      refine rV 13 ?_
      refine rN 14 ?_
      refine wpAnyH_done (by kernel_rfl) ?_ _
      go_wp2
      go_roundw
      case rel => exact ⟨j + 1, by omega, by go_num, NJ, Lib.hid (bt hbel.out hHeld.1)⟩
      case measure => simp [intOf]; omega
    subst hk4
    obtain ⟨b1, hb1⟩ : ∃ b, decide (T = ta) = b := ⟨_, rfl⟩
    obtain ⟨b2, hb2⟩ : ∃ b, decide (R = ra) = b := ⟨_, rfl⟩
    have hb1' : ((T : Int) == (ta : Int)) = b1 := by rw [← hb1]; by_cases h : T = ta <;> simp [h] <;> omega
    have hb2' : ((R : Int) == (ra : Int)) = b2 := by rw [← hb2]; by_cases h : R = ra <;> simp [h] <;> omega
    have HM : Hid ((b1 && b2) = true → q = true) := fun h => HG.out HK.out (by rw [HE.out]; rw [Bool.and_eq_true, ← hb1, ← hb2, decide_eq_true_eq, decide_eq_true_eq] at h; exact h)
    have HNM : Hid ((b1 && b2) = false → tgt x ≠ A) := fun h => by rw [Ne, HE.out]; rintro ⟨h1, h2⟩; rw [← hb1, ← hb2, decide_eq_true h1, decide_eq_true h2] at h; cases h
    clear HE HG hb1 hb2
    cases b1 <;> cases b2
    · have NJ : Hid (∀ i (h : i < l.length), i < j + 1 → (l[i]'h).k = 3 → tgt (l[i]'h) ≠ A) := fun i h hi => by
        by_cases e : i = j
        · subst e; rw [← HX.out, HK.out]; intro _; exact HNM.out rfl
        · exact hno.out i h (by omega)
      clear HNM HM HK
      go_wp2
      refine wp_region_held_drew (S := fun w' => Below wr.heap.size wr w' ∧ w'.cell? ⟨bb, oo + j * 5, none⟩ = some (.int .u8 ((3 : Nat) : Int)) ∧ w'.cell? ⟨bb, oo + j * 5 + 1, none⟩ = some (.int .u32 (t : Int)) ∧ w'.cell? ⟨bb, oo + j * 5 + 2, none⟩ = some (.int .u8 (r : Int)) ∧ w'.cell? ⟨bb, oo + j * 5 + 3, none⟩ = some (u) ∧ w'.cell? ⟨bb, oo + j * 5 + 4, none⟩ = some (.int .i64 p) ∧ w'.cell? ⟨w.heap.size, 0, none⟩ = some (.int .u32 (ta : Int)) ∧ w'.cell? ⟨w.heap.size, 1, none⟩ = some (.int .u8 (ra : Int))) (by kernel_rfl) (SK.out _ (drew1 _)) (fun hHeld => ?_)
      refine rN 0 ?_
      refine rN 1 ?_
      refine rN 2 ?_
      refine rN 3 ?_
      refine rN 4 ?_
      refine rN 5 ?_
      refine rN 6 ?_
      refine rN 7 ?_
      refine rN 8 ?_
      refine rN 9 ?_
      refine rN 10 ?_
      refine rN 12 ?_
      refine wpAnyH_ready (rs := [11]) (by kernel_rfl) (by simp) ?_
      refine AllReadyH.cons rfl (fun K hK => ?_) ?zb11
      case zb11 => exact AllReadyH.nil
      go_simp
      refine (TG.out _ hHeld.1).mono ?_
      rintro e w9b11 ⟨rfl, b9⟩
      refine hK.out _ _ (SK.out _ (bt hHeld.1 b9)) (fun hNew => ?_)
      clear hHeld
      have hHeld := hNew
      clear hNew hK K
      refine rX ?_
      refine rN 13 ?_
      refine rN 14 ?_
      refine wpAnyH_done (by kernel_rfl) ?_ _
      go_wp2
      go_roundw
      case rel => exact ⟨j + 1, by omega, by go_num, NJ, Lib.hid (bt hbel.out hHeld.1)⟩
      case measure => simp [intOf]; omega
    · have NJ : Hid (∀ i (h : i < l.length), i < j + 1 → (l[i]'h).k = 3 → tgt (l[i]'h) ≠ A) := fun i h hi => by
        by_cases e : i = j
        · subst e; rw [← HX.out, HK.out]; intro _; exact HNM.out rfl
        · exact hno.out i h (by omega)
      clear HNM HM HK
      go_wp2
      refine wp_region_held_drew (S := fun w' => Below wr.heap.size wr w' ∧ w'.cell? ⟨bb, oo + j * 5, none⟩ = some (.int .u8 ((3 : Nat) : Int)) ∧ w'.cell? ⟨bb, oo + j * 5 + 1, none⟩ = some (.int .u32 (t : Int)) ∧ w'.cell? ⟨bb, oo + j * 5 + 2, none⟩ = some (.int .u8 (r : Int)) ∧ w'.cell? ⟨bb, oo + j * 5 + 3, none⟩ = some (u) ∧ w'.cell? ⟨bb, oo + j * 5 + 4, none⟩ = some (.int .i64 p) ∧ w'.cell? ⟨w.heap.size, 0, none⟩ = some (.int .u32 (ta : Int)) ∧ w'.cell? ⟨w.heap.size, 1, none⟩ = some (.int .u8 (ra : Int))) (by kernel_rfl) (SK.out _ (drew1 _)) (fun hHeld => ?_)
      refine rN 0 ?_
      refine rN 1 ?_
      refine rN 2 ?_
      refine rN 3 ?_
      refine rN 4 ?_
      refine rN 5 ?_
      refine rN 6 ?_
      refine rN 7 ?_
      refine rN 8 ?_
      refine rN 9 ?_
      refine rN 10 ?_
      refine rN 12 ?_
      refine wpAnyH_ready (rs := [11]) (by kernel_rfl) (by simp) ?_
      refine AllReadyH.cons rfl (fun K hK => ?_) ?zc11
      case zc11 => exact AllReadyH.nil
      go_simp
      refine (TG.out _ hHeld.1).mono ?_
      rintro e w9c11 ⟨rfl, b9⟩
      refine hK.out _ _ (SK.out _ (bt hHeld.1 b9)) (fun hNew => ?_)
      clear hHeld
      have hHeld := hNew
      clear hNew hK K
      refine rX ?_
      refine rN 13 ?_
      refine rN 14 ?_
      refine wpAnyH_done (by kernel_rfl) ?_ _
      go_wp2
      go_roundw
      case rel => exact ⟨j + 1, by omega, by go_num, NJ, Lib.hid (bt hbel.out hHeld.1)⟩
      case measure => simp [intOf]; omega
    · have NJ : Hid (∀ i (h : i < l.length), i < j + 1 → (l[i]'h).k = 3 → tgt (l[i]'h) ≠ A) := fun i h hi => by
        by_cases e : i = j
        · subst e; rw [← HX.out, HK.out]; intro _; exact HNM.out rfl
        · exact hno.out i h (by omega)
      clear HNM HM HK
      go_wp2
      refine wp_region_held_drew (S := fun w' => Below wr.heap.size wr w' ∧ w'.cell? ⟨bb, oo + j * 5, none⟩ = some (.int .u8 ((3 : Nat) : Int)) ∧ w'.cell? ⟨bb, oo + j * 5 + 1, none⟩ = some (.int .u32 (t : Int)) ∧ w'.cell? ⟨bb, oo + j * 5 + 2, none⟩ = some (.int .u8 (r : Int)) ∧ w'.cell? ⟨bb, oo + j * 5 + 3, none⟩ = some (u) ∧ w'.cell? ⟨bb, oo + j * 5 + 4, none⟩ = some (.int .i64 p) ∧ w'.cell? ⟨w.heap.size, 0, none⟩ = some (.int .u32 (ta : Int)) ∧ w'.cell? ⟨w.heap.size, 1, none⟩ = some (.int .u8 (ra : Int))) (by kernel_rfl) (SK.out _ (drew1 _)) (fun hHeld => ?_)
      refine rN 0 ?_
      refine rN 1 ?_
      refine rN 2 ?_
      refine rN 3 ?_
      refine rN 4 ?_
      refine rN 5 ?_
      refine rN 6 ?_
      refine rN 7 ?_
      refine rN 8 ?_
      refine rN 9 ?_
      refine rN 10 ?_
      refine rN 12 ?_
      refine wpAnyH_ready (rs := [11]) (by kernel_rfl) (by simp) ?_
      refine AllReadyH.cons rfl (fun K hK => ?_) ?zd11
      case zd11 => exact AllReadyH.nil
      go_simp
      refine (TG.out _ hHeld.1).mono ?_
      rintro e w9d11 ⟨rfl, b9⟩
      refine hK.out _ _ (SK.out _ (bt hHeld.1 b9)) (fun hNew => ?_)
      clear hHeld
      have hHeld := hNew
      clear hNew hK K
      refine rX ?_
      refine rN 13 ?_
      refine rN 14 ?_
      refine wpAnyH_done (by kernel_rfl) ?_ _
      go_wp2
      go_roundw
      case rel => exact ⟨j + 1, by omega, by go_num, NJ, Lib.hid (bt hbel.out hHeld.1)⟩
      case measure => simp [intOf]; omega
    · obtain rfl := HM.out rfl
      clear HNM HM HK
      go_wp2
      refine wp_region_held_drew (S := fun w' => Below wr.heap.size wr w' ∧ w'.cell? ⟨bb, oo + j * 5, none⟩ = some (.int .u8 ((3 : Nat) : Int)) ∧ w'.cell? ⟨bb, oo + j * 5 + 1, none⟩ = some (.int .u32 (t : Int)) ∧ w'.cell? ⟨bb, oo + j * 5 + 2, none⟩ = some (.int .u8 (r : Int)) ∧ w'.cell? ⟨bb, oo + j * 5 + 3, none⟩ = some (u) ∧ w'.cell? ⟨bb, oo + j * 5 + 4, none⟩ = some (.int .i64 p) ∧ w'.cell? ⟨w.heap.size, 0, none⟩ = some (.int .u32 (ta : Int)) ∧ w'.cell? ⟨w.heap.size, 1, none⟩ = some (.int .u8 (ra : Int))) (by kernel_rfl) (SK.out _ (drew1 _)) (fun hHeld => ?_)
      refine rN 0 ?_
      refine rN 1 ?_
      refine rN 2 ?_
      refine rN 3 ?_
      refine rN 4 ?_
      refine rN 5 ?_
      refine rN 6 ?_
      refine rN 7 ?_
      refine rN 8 ?_
      refine rN 9 ?_
      refine rN 10 ?_
      refine rN 12 ?_
      refine wpAnyH_ready (rs := [11]) (by kernel_rfl) (by simp) ?_
      refine AllReadyH.cons rfl (fun K hK => ?_) ?ze11
      case ze11 => exact AllReadyH.nil
      go_simp
      refine (TG.out _ hHeld.1).mono ?_
      rintro e w9e11 ⟨rfl, b9⟩
      refine hK.out _ _ (SK.out _ (bt hHeld.1 b9)) (fun hNew => ?_)
      clear hHeld
      have hHeld := hNew
      clear hNew hK K
      refine rX ?_
      refine rN 13 ?_
      refine rN 14 ?_
      refine wpAnyH_done (by kernel_rfl) ?_ _
      go_wp2
      go_ret
      exact ⟨rfl, bt BW.out hHeld.1⟩
end Go.Proofs.YtmiepnnpccpicaaGreat.Views

namespace Go.Proofs.YtmiepnnpccpicaaGreat.Views
open Go.RowKit Go.WideShapes Stamp Go.Proofs.YtmiepnnpccpicaaGreat.Place Ops Codes Bags Marks Homes Covers
attribute [local go_sem ↓] Go.wp_at_zero Go.wp_at_succ
attribute [local go_sem] yielded_undef
set_option maxRecDepth 100000 in
set_option maxHeartbeats 16000000 in
theorem refSeen_any {v : Value} {l : List Opn} {w : World} (hv : OpL w v l) (hm : ∀ o ∈ l, mayO o = true) (hl : l.length ≤ 1000000) :
    Calls Tryz.prog 68 #[v] w fun e w' => ∃ v', e = .returned v' ∧ ElL w' v' (seenM l) ∧ Below w.heap.size w w' := by
  obtain ⟨ao, cap, rfl⟩ := hv.shape
  obtain ⟨n, hn⟩ : ∃ n, n = l.length := ⟨_, rfl⟩
  have hnm : n ≤ 1000000 := by omega
  have HV : Hid (∀ W : World, Below w.heap.size w W → OpL W (.slice ao l.length cap) l) := fun W h => hv.keeps h
  have HN := Lib.hid hn
  have HMY := Lib.hid hm
  have GO : Hid (∀ (W : World) (a : Id), Below w.heap.size w W → Calls Tryz.prog 104 #[.slice ao l.length cap, .agg #[.int .u32 (a.t : Int), .int .u8 (a.r : Int)]] W fun e w' => e = .returned (.bool (goneM l a)) ∧ Below W.heap.size W w') := fun W a h => refGone_any a (hv.keeps h) hm
  have S0 : Hid (ElL w (.slice none 0 0) (seenF l (l.take 0))) := Seq.nil _ _
  have M0 : Hid (0 = (seenF l (l.take 0)).length) := rfl
  have B0 : Hid (Below w.heap.size w w) := Below.refl _ _
  have E0 : Hid (NonE (.slice none 0 0) (seenF l (l.take 0))) := .inl rfl
  have SLE : Hid (∀ j, (seenF l (l.take j)).length ≤ 1000000) := fun j => Nat.le_trans (seenF_le l (l.take j)) (by rw [List.length_take]; omega)
  have SMY : Hid (∀ j, ∀ y ∈ seenF l (l.take j), mayO y = true) := fun j y hy => hm y (List.mem_of_mem_take (mem_seenF.1 hy).1)
  unfold seenM
  rw [← hn] at GO ⊢
  clear hv hn hm hl
  go_enter Tryz.func68, Tryz.ntmps68
  go_wp2
  go_loopw [3, 4] (fun v i wr => ∃ j m : Nat, j ≤ n ∧ i = .int .i64 (j : Int) ∧ (∃ ao cap, v = .slice ao m cap) ∧ Hid (m = (seenF l (l.take j)).length) ∧ Hid (NonE v (seenF l (l.take j))) ∧ Hid (ElL wr v (seenF l (l.take j))) ∧ Hid (Below w.heap.size w wr)) (fun _ i _ => n - (intOf i).toNat)
  case atStart => exact ⟨0, 0, by omega, rfl, ⟨none, 0, rfl⟩, M0, E0, S0, B0⟩
  case round =>
    clear S0 M0 B0 E0
    obtain ⟨j, m, hj, rfl, ⟨aoL, capL, rfl⟩, HM, hnn, hsq, hbel⟩ := hrel
    by_cases hjn : j < n
    rotate_left
    · have q3 : decide (j < n) = false := by simpa using hjn
      have hkk : l.take j = l := List.take_of_length_le (by have := HN.out; omega)
      rw [hkk] at hsq
      clear hkk
      go_wp2
      go_ret
      exact ⟨_, rfl, hsq.out, hbel.out⟩
    have q3 : decide (j < n) = true := by simpa using hjn
    have q4 : (0 : Int) ≤ (j : Int) := by omega
    have q5 : (j : Int) < (n : Int) := by omega
    have hjl : j < l.length := by rw [← HN.out]; exact hjn
    obtain ⟨bb, oo, u, e, hbb, hru, h0, h1, h2, h3, h4⟩ := opl_at (HV.out w (Below.refl _ _)) j hjl
    subst e
    obtain ⟨x, hx⟩ : ∃ x, x = l[j]'hjl := ⟨_, rfl⟩
    rw [← hx] at hru h0 h1 h2 h4
    have HO : Hid (∀ v : Value, opv x v = .agg #[.int .u8 (x.k : Int), .int .u32 (x.t : Int), .int .u8 (x.r : Int), v, .int .i64 x.p]) := fun v => rfl
    replace h0 := ((hbel.out).cell (p := ⟨bb, oo + j * 5, none⟩) hbb).trans h0
    replace h1 := ((hbel.out).cell (p := ⟨bb, oo + j * 5 + 1, none⟩) hbb).trans h1
    replace h2 := ((hbel.out).cell (p := ⟨bb, oo + j * 5 + 2, none⟩) hbb).trans h2
    replace h3 := ((hbel.out).cell (p := ⟨bb, oo + j * 5 + 3, none⟩) hbb).trans h3
    replace h4 := ((hbel.out).cell (p := ⟨bb, oo + j * 5 + 4, none⟩) hbb).trans h4
    have hbo := hbb
    replace hbb := Nat.lt_of_lt_of_le hbb (hbel.out).size
    obtain ⟨uo, uc, rfl⟩ := hru.shape
    obtain ⟨nu, hnu⟩ : ∃ n, n = x.pl.length := ⟨_, rfl⟩
    have HNU := Lib.hid hnu
    rw [← hnu] at hru h3
    clear hnu
    have hxm : x ∈ l := by rw [hx]; exact List.getElem_mem _
    have hxy := HMY.out x hxm
    have hpx : x.pl.length ≤ 8796093022208 := by have := mayO_fits hxy; omega
    have GX : Hid (∀ W : World, Below wr.heap.size wr W → Calls Tryz.prog 104 #[.slice (some ⟨bb, oo, none⟩) n cap, .agg #[.int .u32 (x.t : Int), .int .u8 (x.r : Int)]] W fun e w' => e = .returned (.bool (goneM l (idO x))) ∧ Below W.heap.size W w') := fun W h => GO.out W (idO x) (bt hbel.out h)
    have TW : Hid (∀ W : World, Below wr.heap.size wr W → Calls Tryz.prog 21 #[.slice uo nu uc] W fun e w' => ∃ v', e = .returned v' ∧ Runs w' v' x.pl ∧ Below W.heap.size W w') := fun W h => by
      have C9 := Go.Proofs.YtmiepnnpccpicaaGreat.Place.twin_any (hru.keeps (bt hbel.out h)) hpx
      refine C9.mono ?_
      rintro e w' ⟨v', rfl, ho, hb'⟩
      exact ⟨v', rfl, Runs.own ho, hb'⟩
    have FT : Hid (seenF l (l.take (j + 1)) = seenStep l (seenF l (l.take j)) x) := by unfold Hid; rw [List.take_succ_eq_append_getElem hjl, seenF_snoc, ← hx]
    have PU : Hid (∀ (W : World) (u : Value), Below wr.heap.size wr W → Runs W u x.pl → Calls Tryz.prog 105 #[.slice aoL m capL, elv x u] W fun e w' => ∃ v', e = .returned v' ∧ ElL w' v' (insM (seenF l (l.take j)) x) ∧ Below W.heap.size W w') := fun W u h hu => refPut_any (hsq.out.keeps h) hnn.out hu (SMY.out j) hxy (SLE.out j)
    have HOE : Hid (∀ u : Value, elv x u = .agg #[.int .u32 (x.t : Int), .int .u8 (x.r : Int), u, .int .i64 x.p]) := fun u => rfl
    obtain ⟨out, hout⟩ : ∃ z, seenF l (l.take j) = z := ⟨_, rfl⟩
    rw [hout] at HM hnn hsq FT PU
    obtain ⟨q, hq⟩ : ∃ q, goneM l (idO x) = q := ⟨_, rfl⟩
    rw [hq] at GX
    have FQ : Hid (x.k = 1 → q = false → seenF l (l.take (j + 1)) = insM out x) := fun h1 h2 => by rw [FT.out]; unfold seenStep; rw [hq, h2]; exact if_pos ⟨h1, rfl⟩
    have FN : Hid (¬ (x.k = 1 ∧ q = false) → seenF l (l.take (j + 1)) = out) := fun h => by rw [FT.out]; unfold seenStep; rw [hq]; exact if_neg h
    clear hx hru hxm hxy hpx hout hq GO HMY SLE SMY HV FT
    obtain ⟨k, hk⟩ : ∃ z, x.k = z := ⟨_, rfl⟩
    obtain ⟨t, ht⟩ : ∃ z, x.t = z := ⟨_, rfl⟩
    obtain ⟨r, hr⟩ : ∃ z, x.r = z := ⟨_, rfl⟩
    obtain ⟨p, hp⟩ : ∃ z, x.p = z := ⟨_, rfl⟩
    rw [hk, ht, hr, hp] at HO
    rw [hk] at h0
    rw [ht] at h1
    rw [hr] at h2
    rw [hp] at h4
    rw [hk] at FQ FN
    rw [ht, hr] at GX
    simp only [HOE.out] at PU
    rw [ht, hr, hp] at PU
    have F1 : Hid (FiveAt wr bb (oo + j * 5) (.int .u8 (k : Int)) (.int .u32 (t : Int)) (.int .u8 (r : Int)) (.slice uo nu uc) (.int .i64 p)) := ⟨hbb, h0, h1, h2, h3, h4⟩
    clear hk ht hr hp HO HOE
    by_cases hk1 : k = 1
    rotate_left
    · have qk : ((k : Int) == 1) = false := by simp; omega
      have FE := Lib.hid (FN.out (fun h => hk1 h.1))
      rw [← FE.out] at HM hnn hsq
      clear FQ FN PU TW GX
      go_wp2
      go_roundw
      case rel => exact ⟨j + 1, m, by omega, by go_num, ⟨aoL, capL, rfl⟩, HM, hnn, Lib.hid (hsq.out.keeps (Below.refl _ _)), Lib.hid (bt hbel.out (Below.refl _ _))⟩
      case measure => simp [intOf]; omega
    subst hk1
    have GXX := Lib.hid (GX.out _ (Below.refl _ _))
    go_wp2_with fail
    refine GXX.out.mono ?_
    rintro e w5 ⟨rfl, b5⟩
    have Q5 := Lib.hid b5
    clear b5 GX GXX h0 h1 h2 h3 h4
    cases q
    rotate_left
    · have FE := Lib.hid (FN.out (fun h => by cases h.2))
      rw [← FE.out] at HM hnn hsq
      have S5 := Lib.hid (hsq.out.keeps Q5.out)
      have Z5 := Lib.hid (bt hbel.out Q5.out)
      clear FQ FN PU TW hsq hbel Q5 F1
      go_wp2
      go_roundw
      case rel => exact ⟨j + 1, m, by omega, by go_num, ⟨aoL, capL, rfl⟩, HM, hnn, S5, Z5⟩
      case measure => simp [intOf]; omega
    have FE := Lib.hid (FQ.out (by first | rfl | trivial) (by first | rfl | trivial))
    clear FQ FN
    have SK : Hid (∀ w' : World, Below w5.heap.size w5 w' → Below w5.heap.size w5 w' ∧ w'.cell? ⟨bb, oo + j * 5, none⟩ = some (.int .u8 ((1 : Nat) : Int)) ∧ w'.cell? ⟨bb, oo + j * 5 + 1, none⟩ = some (.int .u32 (t : Int)) ∧ w'.cell? ⟨bb, oo + j * 5 + 2, none⟩ = some (.int .u8 (r : Int)) ∧ w'.cell? ⟨bb, oo + j * 5 + 3, none⟩ = some (.slice uo nu uc) ∧ w'.cell? ⟨bb, oo + j * 5 + 4, none⟩ = some (.int .i64 p)) := fun W h => by
      have a1 := (F1.out.keeps (bt Q5.out h)).2
      exact ⟨h, a1.1, a1.2.1, a1.2.2.1, a1.2.2.2.1, a1.2.2.2.2⟩
    go_wp2
    refine wp_region_held_drew (S := fun w' => Below w5.heap.size w5 w' ∧ w'.cell? ⟨bb, oo + j * 5, none⟩ = some (.int .u8 ((1 : Nat) : Int)) ∧ w'.cell? ⟨bb, oo + j * 5 + 1, none⟩ = some (.int .u32 (t : Int)) ∧ w'.cell? ⟨bb, oo + j * 5 + 2, none⟩ = some (.int .u8 (r : Int)) ∧ w'.cell? ⟨bb, oo + j * 5 + 3, none⟩ = some (.slice uo nu uc) ∧ w'.cell? ⟨bb, oo + j * 5 + 4, none⟩ = some (.int .i64 p)) (by kernel_rfl) (SK.out _ (drew1 _)) (fun hHeld => ?_)
    refine rN 0 ?_
    refine rN 1 ?_
    refine rN 2 ?_
    refine rN 3 ?_
    refine rN 4 ?_
    refine rN 5 ?_
    refine rN 6 ?_
    refine rN 7 ?_
    refine rN 8 ?_
    refine rN 9 ?_
    refine rN 10 ?_
    refine rN 12 ?_
    refine rN 13 ?_
    refine rN 14 ?_
    refine rN 15 ?_
    refine rN 16 ?_
    refine wpAnyH_ready (rs := [11]) (by kernel_rfl) (by simp) ?_
    refine AllReadyH.cons rfl (fun K hK => ?_) ?za11
    case za11 => exact AllReadyH.nil
    go_simp
    refine (TW.out _ (bt Q5.out hHeld.1)).mono ?_
    rintro e w9a11 ⟨vt, rfl, rt, b9⟩
    have RT := Lib.hid rt
    obtain ⟨tO, tC, rfl⟩ := rt.shape
    clear rt
    refine hK.out _ _ (SK.out _ (bt hHeld.1 b9)) (fun hNew => ?_)
    clear hHeld
    have hHeld := hNew
    clear hNew hK K
    refine rX ?_
    refine rN 17 ?_
    refine wpAnyH_ready (rs := [18]) (by kernel_rfl) (by simp) ?_
    refine AllReadyH.cons rfl (fun K hK => ?_) ?za18
    case za18 => exact AllReadyH.nil
    go_simp
    refine (PU.out _ _ (bt Q5.out hHeld.1) RT.out).mono ?_
    rintro e w9a18 ⟨vz, rfl, ez, b9⟩
    have EZ := Lib.hid ez
    clear ez
    refine hK.out _ _ (SK.out _ (bt hHeld.1 b9)) (fun hNew => ?_)
    clear hHeld
    have hHeld := hNew
    clear hNew hK K
    refine rX ?_
    refine rN 19 ?_
    refine wpAnyH_done (by kernel_rfl) ?_ _
    have ZE := Lib.hid (bt hbel.out (bt Q5.out hHeld.1))
    obtain ⟨az, cz, rfl⟩ := EZ.out.shape
    rw [← FE.out] at EZ ⊢
    have NE : Hid (NonE (.slice az (seenF l (l.take (j + 1))).length cz) (seenF l (l.take (j + 1)))) := .inr (by rw [FE.out]; intro h; have := insM_len out x; rw [h] at this; simp at this)
    have HM2 : Hid ((seenF l (l.take (j + 1))).length = (seenF l (l.take (j + 1))).length) := rfl
    obtain ⟨mz, hmz⟩ : ∃ z, (seenF l (l.take (j + 1))).length = z := ⟨_, rfl⟩
    have HMZ : Hid (mz = (seenF l (l.take (j + 1))).length) := hmz.symm
    rw [hmz] at EZ NE ⊢
    clear hHeld SK F1 Q5 PU TW hsq hnn HM hmz HM2 FE hbel
    go_wp2
    go_roundw
    case rel => exact ⟨j + 1, mz, by omega, by go_num, ⟨az, cz, rfl⟩, HMZ, NE, EZ, ZE⟩
    case measure => simp [intOf]; omega
end Go.Proofs.YtmiepnnpccpicaaGreat.Views

namespace Go.Proofs.YtmiepnnpccpicaaGreat.Covers
open Go.RowKit Go.WideShapes Ops Stamp Bags Marks Homes Go.Proofs.YtmiepnnpccpicaaGreat.Place
attribute [local go_sem ↓] Go.wp_at_zero Go.wp_at_succ
attribute [local go_sem] yielded_undef
def runE : Enc Run where
  sz := 3
  pos := by decide
  inn _ cs x := cs = [.int .u32 (x.t : Int), .int .u8 (x.r : Int), .int .i64 x.m]
  len := by rintro w cs x rfl; rfl
  one := by
    rintro w cs x rfl u hu
    simp only [List.mem_cons, List.not_mem_nil, or_false] at hu
    rcases hu with rfl | rfl | rfl <;> rfl
  keep := by rintro w w' cs x _ h; exact h
theorem runE_rows {w : World} : ∀ {cs : List Value} {l : List Run}, runE.rows w cs l → cs = runs l
  | _, [], h => h
  | _, _ :: _, ⟨c, d, h1, h2, h3⟩ => by
    rw [h1, show c = _ from h2, runE_rows h3]
    rfl
theorem shr_runs {w0 w : World} {v : Value} {l : List Run} (h : Shr runE 40 w0 w v l) : Runs w v l := by
  obtain ⟨cs, h1, h2⟩ := h
  have h3 := Sees.own h1
  rw [runE_rows h2] at h3
  exact h3
theorem cutN_step {p : List Run} {j r : Nat} (hj : j < p.length) (hr : 0 < r) :
    cutN (p.drop j) r = if (p.getD j zrun).m ≤ (r : Int) then p.getD j zrun :: cutN (p.drop (j + 1)) (r - (p.getD j zrun).m.toNat) else [mkRun (p.getD j zrun).t (p.getD j zrun).r (r : Int)] := by
  have e : p.drop j = p.getD j zrun :: p.drop (j + 1) := by
    rw [List.getD_eq_getElem?_getD, List.getElem?_eq_getElem hj]
    exact List.drop_eq_getElem_cons hj
  rw [e]
  show (if r = 0 then _ else _) = _
  rw [if_neg (by omega)]
set_option maxRecDepth 100000 in
set_option maxHeartbeats 4000000 in
theorem refCut_any {v : Value} {p : List Run} {w : World} (hv : Runs w v p) (hc : Chain p) (hl : p.length ≤ 100) (k : Nat) (hk : k ≤ 5000) :
    Calls Tryz.prog 128 #[v, .int .i64 (k : Int)] w fun e w' => ∃ v', e = .returned v' ∧ Runs w' v' (cutN p k) ∧ Below w.heap.size w w' := by
  obtain ⟨ao, cap, rfl⟩ := hv.shape
  obtain ⟨n, hn⟩ : ∃ n, n = p.length := ⟨_, rfl⟩
  have hnm : n ≤ 100 := by omega
  have HV : Hid (∀ W : World, Below w.heap.size w W → Runs W (.slice ao p.length cap) p) := fun W h => hv.keeps h
  have HN := Lib.hid hn
  have HC := Lib.hid hc
  rw [← hn]
  have S0 : Hid (Shr runE 40 w w (.slice none 0 0) []) := Shr.nil _ _ _ _
  have L0 : Hid (cutN p k = [] ++ cutN (p.drop 0) k) := rfl
  have M0 : Hid (0 = ([] : List Run).length) := rfl
  have B0 : Hid (Below w.heap.size w w) := Below.refl _ _
  obtain ⟨R, hR⟩ : ∃ R, cutN p k = R := ⟨_, rfl⟩
  rw [hR] at L0 ⊢
  clear hv hn hl hc hR
  go_enter Tryz.func128, Tryz.ntmps128
  go_wp2
  go_loopw [1, 5, 6] (fun y v i wr => ∃ (j r m : Nat) (L : List Run), j ≤ n ∧ m ≤ j ∧ r ≤ 5000 ∧ y = .int .i64 (r : Int) ∧ i = .int .i64 (j : Int) ∧ (∃ ao cap, v = .slice ao m cap) ∧ Hid (m = L.length) ∧ Hid (R = L ++ cutN (p.drop j) r) ∧ Hid (Shr runE 40 w wr v L) ∧ Hid (Below w.heap.size w wr)) (fun _ _ i _ => n - (intOf i).toNat)
  case atStart => exact ⟨0, k, 0, [], by omega, by omega, hk, rfl, rfl, ⟨none, 0, rfl⟩, M0, L0, S0, B0⟩
  case round =>
    clear S0 M0 B0 L0
    obtain ⟨j, r, m, L, hj, hmj, hr, rfl, rfl, ⟨aoL, capL, rfl⟩, hM, hL, hshr, hbel⟩ := hrel
    by_cases hjn : j < n
    rotate_left
    · have q3 : decide (j < n) = false := by simpa using hjn
      have hR : R = L := by
        have h1 := hL.out
        rw [List.drop_of_length_le (by have := HN.out; omega)] at h1
        simpa [cutN] using h1
      have HR : Hid (Runs wr (.slice aoL m capL) R) := by unfold Hid; rw [hR]; exact shr_runs hshr.out
      clear hR hL hM
      go_wp2
      go_ret
      exact ⟨_, rfl, HR.out, hbel.out⟩
    have q3 : decide (j < n) = true := by simpa using hjn
    by_cases hr0 : r = 0
    · subst hr0
      have q5 : decide ((0 : Int) < ((0 : Nat) : Int)) = false := rfl
      have hR : R = L := by
        have h1 := hL.out
        rw [cutN_zero] at h1
        simpa using h1
      have HR : Hid (Runs wr (.slice aoL m capL) R) := by unfold Hid; rw [hR]; exact shr_runs hshr.out
      clear hR hL hM
      go_wp2
      go_ret
      exact ⟨_, rfl, HR.out, hbel.out⟩
    have q4 : decide (0 < r) = true := decide_eq_true (by omega)
    have q4' : decide ((0 : Int) < (r : Int)) = true := decide_eq_true (by omega)
    have q6 : (0 : Int) ≤ (j : Int) := by omega
    have q7 : (j : Int) < (n : Int) := by omega
    obtain ⟨b, off, e, hb, h0, h1, h2⟩ := (HV.out wr hbel.out).at j (by rw [← HN.out]; exact hjn)
    subst e
    have hx1 : Go.Proofs.YtmiepnnpccpicaaGreat.Place.One (p.getD j zrun) := chain_one HC.out (by rw [← HN.out]; exact hjn)
    have hst := cutN_step (r := r) (by rw [← HN.out]; exact hjn) (by omega)
    obtain ⟨x, hx⟩ : ∃ x, p.getD j zrun = x := ⟨_, rfl⟩
    rw [hx] at h0 h1 h2 hx1 hst
    obtain ⟨o1, o2, o3, o4, o5, o6⟩ := hx1
    have hst2 := hL.out.trans (by rw [hst] : L ++ cutN (p.drop j) r = L ++ _)
    have INN : Hid (∀ z : Run, runE.inn w [.int .u32 (z.t : Int), .int .u8 (z.r : Int), .int .i64 z.m] z) := fun z => rfl
    obtain ⟨t, rr, mm, ht, hrr, hmm⟩ := x
    simp only at h0 h1 h2 o1 o2 o3 o4 o5 o6 hst2
    have hne : ¬ b = wr.heap.size := by omega
    clear hst hx hL
    by_cases hle : mm ≤ (r : Int)
    · rw [if_pos hle] at hst2
      obtain ⟨mn, rfl⟩ : ∃ mn : Nat, mm = (mn : Int) := ⟨mm.toNat, by omega⟩
      have d1 : decide ((r : Int) < (mn : Int)) = false := decide_eq_false (by omega)
      have d2 : decide (r < mn) = false := decide_eq_false (by omega)
      have e1 : (r : Int) - (mn : Int) = ((r - mn : Nat) : Int) := by omega
      have e2 : IntKind.i64.wrap ((r : Int) - (mn : Int)) = ((r - mn : Nat) : Int) := by rw [← e1]; exact IntWalk.i64_in _ (by omega)
      have HST : Hid (R = (L ++ [(⟨t, rr, (mn : Int), ht, hrr, hmm⟩ : Run)]) ++ cutN (p.drop (j + 1)) (r - mn)) := by
        unfold Hid
        rw [hst2, List.append_assoc]
        rfl
      have INX : Hid (runE.inn w [.int .u32 (t : Int), .int .u8 (rr : Int), .int .i64 (mn : Int)] (⟨t, rr, (mn : Int), ht, hrr, hmm⟩ : Run)) := INN.out ⟨t, rr, (mn : Int), ht, hrr, hmm⟩
      obtain ⟨X, hX⟩ : ∃ X : Run, (⟨t, rr, (mn : Int), ht, hrr, hmm⟩ : Run) = X := ⟨_, rfl⟩
      rw [hX] at HST INX
      have BL := Lib.hid ((Below.refl wr.heap.size wr).alloc (Nat.le_refl _) (.cells #[.int .u32 (t : Int), .int .u8 (rr : Int), .int .i64 (mn : Int)] 40))
      have SH := Lib.hid (hshr.out.keeps BL.out)
      have BW := Lib.hid (bt hbel.out BL.out)
      have HZ := Lib.hid BW.out.size
      have HG : Hid ((wr.alloc (.cells #[.int .u32 (t : Int), .int .u8 (rr : Int), .int .i64 (mn : Int)] 40)).heap.size = wr.heap.size + 1) := Array.size_push _
      obtain ⟨rn, hrn⟩ : ∃ rn, r - mn = rn := ⟨_, rfl⟩
      rw [hrn] at HST e1 e2
      have hrn5 : rn ≤ 5000 := by omega
      have HLL : Hid (m + 1 = (L ++ [X]).length) := by unfold Hid; rw [List.length_append, List.length_singleton, ← hM.out]
      clear hst2 INN hX o1 o2 o3 o6 hrn
      go_wp2_with (at_builtin; refine wpList_append_enc (E := runE) Tryz.underlying26 run_info rfl (w0 := w) (wp := wr.alloc (.cells #[.int .u32 (t : Int), .int .u8 (rr : Int), .int .i64 (mn : Int)] 40)) (by rfl) (.tmp 32) (.tmp 34) (by rfl) (by rfl) SH.out (G := wr.heap.size + 1) (by rfl) HG.out (c := #[.int .u32 (t : Int), .int .u8 (rr : Int), .int .i64 (mn : Int)]) INX.out hM.out (by omega) (by omega) HZ.out ?_)
      rintro v6 w6 s6 va vc rfl b6
      have S6 := Lib.hid s6
      have B6 := Lib.hid (BW.out.trans b6)
      clear s6 b6 SH BW HZ HG BL h0 h1 h2 hshr hbel
      go_wp2
      go_roundw
      case rel => exact ⟨j + 1, rn, m + 1, L ++ [X], by omega, by omega, hrn5, rfl, by go_num, ⟨va, vc, rfl⟩, HLL, HST, S6, B6⟩
      case measure => simp [intOf]; omega
    · rw [if_neg hle] at hst2
      have d1 : decide ((r : Int) < mm) = true := decide_eq_true (by omega)
      have HST : Hid (R = (L ++ [mkRun t rr (r : Int)]) ++ cutN (p.drop (j + 1)) 0) := by
        unfold Hid
        rw [hst2, cutN_zero, List.append_nil]
      have INX : Hid (runE.inn w [.int .u32 (t : Int), .int .u8 (rr : Int), .int .i64 (r : Int)] (mkRun t rr (r : Int))) := by
        have := INN.out (mkRun t rr (r : Int))
        rw [mkRun_t ht, mkRun_r hrr, mkRun_m (by omega)] at this
        exact this
      obtain ⟨X, hX⟩ : ∃ X : Run, mkRun t rr (r : Int) = X := ⟨_, rfl⟩
      rw [hX] at HST INX
      have BL := Lib.hid ((Below.refl wr.heap.size wr).alloc (Nat.le_refl _) (.cells #[.int .u32 (t : Int), .int .u8 (rr : Int), .int .i64 (r : Int)] 40))
      have SH := Lib.hid (hshr.out.keeps BL.out)
      have BW := Lib.hid (bt hbel.out BL.out)
      have HZ := Lib.hid BW.out.size
      have HG : Hid ((wr.alloc (.cells #[.int .u32 (t : Int), .int .u8 (rr : Int), .int .i64 (r : Int)] 40)).heap.size = wr.heap.size + 1) := Array.size_push _
      have e1 : (r : Int) - (r : Int) = 0 := by omega
      have HLL : Hid (m + 1 = (L ++ [X]).length) := by unfold Hid; rw [List.length_append, List.length_singleton, ← hM.out]
      clear hst2 INN hX o1 o2 o3 o4 o5 o6
      go_wp2_with (at_builtin; refine wpList_append_enc (E := runE) Tryz.underlying26 run_info rfl (w0 := w) (wp := wr.alloc (.cells #[.int .u32 (t : Int), .int .u8 (rr : Int), .int .i64 (r : Int)] 40)) (by rfl) (.tmp 32) (.tmp 34) (by rfl) (by rfl) SH.out (G := wr.heap.size + 1) (by rfl) HG.out (c := #[.int .u32 (t : Int), .int .u8 (rr : Int), .int .i64 (r : Int)]) INX.out hM.out (by omega) (by omega) HZ.out ?_)
      rintro v6 w6 s6 va vc rfl b6
      have S6 := Lib.hid s6
      have B6 := Lib.hid (BW.out.trans b6)
      clear s6 b6 SH BW HZ HG BL h0 h1 h2 hshr hbel
      go_wp2
      go_roundw
      case rel => exact ⟨j + 1, 0, m + 1, L ++ [X], by omega, by omega, by omega, rfl, by go_num, ⟨va, vc, rfl⟩, HLL, HST, S6, B6⟩
      case measure => simp [intOf]; omega
end Go.Proofs.YtmiepnnpccpicaaGreat.Covers

namespace Go.Proofs.YtmiepnnpccpicaaGreat.Covers
open Go.RowKit Go.WideShapes Stamp Go.Proofs.YtmiepnnpccpicaaGreat.Place Ops Codes Bags Marks Homes
attribute [local go_sem ↓] Go.wp_at_zero Go.wp_at_succ
attribute [local go_sem] yielded_undef
set_option maxRecDepth 100000 in
set_option maxHeartbeats 16000000 in
theorem refIn14_any {v u0 : Value} {l live : List Opn} (s : Id) {w : World} (hv : OpL w v l) (hu : OpL w u0 live) (hl : l.length ≤ 1000000) (hm : ∀ o ∈ l, mayO o = true) (hmm : ∀ o ∈ live, mayO o = true) :
    Calls Tryz.prog 106 #[v, u0, .agg #[.int .u32 (s.t : Int), .int .u8 (s.r : Int)]] w fun e w' => ∃ v', e = .returned v' ∧ OpL w' v' (inL l live s) ∧ Below w.heap.size w w' := by
  obtain ⟨ao, cap, rfl⟩ := hv.shape
  obtain ⟨n, hn⟩ : ∃ n, n = l.length := ⟨_, rfl⟩
  have hnm : n ≤ 1000000 := by omega
  obtain ⟨wl, hwl⟩ : ∃ x, x = w.alloc (.cells #[.int .u32 (s.t : Int), .int .u8 (s.r : Int)] 25) := ⟨_, rfl⟩
  have B0 : Hid (Below w.heap.size w wl) := by rw [hwl]; exact (Below.refl _ _).alloc (Nat.le_refl _) _
  have P0 : Hid (Pair wl w.heap.size (.int .u32 (s.t : Int)) (.int .u8 (s.r : Int))) := by rw [hwl]; exact pair_new _ _ _ _
  have HW := Lib.hid hwl
  have HV : Hid (∀ W : World, Below wl.heap.size wl W → OpL W (.slice ao l.length cap) l) := fun W h => hv.keeps (bt B0.out h)
  have HN := Lib.hid hn
  have HMY := Lib.hid hm
  have HO0 : Hid (∀ (x : Opn) (y : Value) (W : World), x ∈ l → Runs W y x.pl → Below wl.heap.size wl W → Calls Tryz.prog 29 #[u0, y] W fun e w' => e = .returned (.agg #[.int .u32 ((homeM live x.pl).t : Int), .int .u8 ((homeM live x.pl).r : Int)]) ∧ Below W.heap.size W w') := fun x y W hx hy h => refHome_any (hu.keeps (bt B0.out h)) hy hmm (anyB_may (mayO_parts (hm x hx)).2.1)
  have HPQ : Hid (∀ x : Opn, (contB x && decide (homeM live x.pl = s)) = (contB x && decide ((homeM live x.pl).t = s.t ∧ (homeM live x.pl).r = s.r))) := fun x => by
    congr 1
    exact decide_eq_decide.2 Id.eq_iff
  have S0 : Hid (Shr opE 47 wl wl (.slice none 0 0) ((l.take 0).filter (fun o => contB o && decide (homeM live o.pl = s)))) := Shr.nil _ _ _ _
  have M0 : Hid (0 = ((l.take 0).filter (fun o => contB o && decide (homeM live o.pl = s))).length) := rfl
  have Z0 : Hid (Below wl.heap.size wl wl) := Below.refl _ _
  unfold inL
  rw [← hn]
  obtain ⟨PB, hPB⟩ : ∃ PB : Opn → Bool, (fun o => contB o && decide (homeM live o.pl = s)) = PB := ⟨_, rfl⟩
  have HPB : Hid (∀ x, PB x = (contB x && decide ((homeM live x.pl).t = s.t ∧ (homeM live x.pl).r = s.r))) := fun x => by rw [← hPB]; exact HPQ.out x
  rw [hPB] at S0 M0 ⊢
  obtain ⟨ts, rs, hts, hrs⟩ := s
  simp only at P0 HPB HW ⊢
  obtain ⟨au, cu, rfl⟩ := hu.shape
  obtain ⟨nl, hnl⟩ : ∃ nl, live.length = nl := ⟨_, rfl⟩
  rw [hnl] at HO0 ⊢
  clear hv hn hl hm hu hmm hwl HPQ hPB hnl
  go_enter Tryz.func106, Tryz.ntmps106
  go_wp2
  rw [← HW.out]
  go_loopw [7, 8] (fun v i wr => ∃ j m : Nat, j ≤ n ∧ i = .int .i64 (j : Int) ∧ (∃ ao cap, v = .slice ao m cap) ∧ Hid (m = ((l.take j).filter PB).length) ∧ Hid (Shr opE 47 wl wr v ((l.take j).filter PB)) ∧ Hid (Below wl.heap.size wl wr)) (fun _ i _ => n - (intOf i).toNat)
  case atStart => exact ⟨0, 0, by omega, rfl, ⟨none, 0, rfl⟩, M0, S0, Z0⟩
  case round =>
    clear S0 M0 Z0
    obtain ⟨j, m, hj, rfl, ⟨aoL, capL, rfl⟩, HM, hshr, hbel⟩ := hrel
    by_cases hjn : j < n
    rotate_left
    · have q3 : decide (j < n) = false := by simpa using hjn
      have hkk : l.take j = l := List.take_of_length_le (by have := HN.out; omega)
      rw [hkk] at hshr
      have BE := Lib.hid (bt B0.out hbel.out)
      have SE := Lib.hid (hshr.out.seq hbel.out)
      clear hkk
      go_wp2
      go_ret
      exact ⟨_, rfl, SE.out, BE.out⟩
    have q3 : decide (j < n) = true := by simpa using hjn
    have q4 : (0 : Int) ≤ (j : Int) := by omega
    have q5 : (j : Int) < (n : Int) := by omega
    have hjl : j < l.length := by rw [← HN.out]; exact hjn
    obtain ⟨bb, oo, u, e, hbb, hru, h0, h1, h2, h3, h4⟩ := opl_at (HV.out wl (Below.refl _ _)) j hjl
    subst e
    obtain ⟨x, hx⟩ : ∃ x, x = l[j]'hjl := ⟨_, rfl⟩
    rw [← hx] at hru h0 h1 h2 h4
    have HO : Hid (∀ v : Value, opv x v = .agg #[.int .u8 (x.k : Int), .int .u32 (x.t : Int), .int .u8 (x.r : Int), v, .int .i64 x.p]) := fun v => rfl
    replace h0 := ((hbel.out).cell (p := ⟨bb, oo + j * 5, none⟩) hbb).trans h0
    replace h1 := ((hbel.out).cell (p := ⟨bb, oo + j * 5 + 1, none⟩) hbb).trans h1
    replace h2 := ((hbel.out).cell (p := ⟨bb, oo + j * 5 + 2, none⟩) hbb).trans h2
    replace h3 := ((hbel.out).cell (p := ⟨bb, oo + j * 5 + 3, none⟩) hbb).trans h3
    replace h4 := ((hbel.out).cell (p := ⟨bb, oo + j * 5 + 4, none⟩) hbb).trans h4
    have hbo := hbb
    replace hbb := Nat.lt_of_lt_of_le hbb (hbel.out).size
    obtain ⟨uo, uc, rfl⟩ := hru.shape
    obtain ⟨nu, hnu⟩ : ∃ n, n = x.pl.length := ⟨_, rfl⟩
    have HNU := Lib.hid hnu
    rw [← hnu] at hru h3
    clear hnu
    have hxm : x ∈ l := by rw [hx]; exact List.getElem_mem _
    have INN : Hid (opE.inn wl [.int .u8 (x.k : Int), .int .u32 (x.t : Int), .int .u8 (x.r : Int), .slice uo nu uc, .int .i64 x.p] x) := ⟨_, rfl, hru⟩
    have HX : Hid (∀ W : World, Below wr.heap.size wr W → Calls Tryz.prog 29 #[.slice au nl cu, .slice uo nu uc] W fun e w' => e = .returned (.agg #[.int .u32 ((homeM live x.pl).t : Int), .int .u8 ((homeM live x.pl).r : Int)]) ∧ Below W.heap.size W w') := fun W h => HO0.out x _ W hxm (hru.keeps (bt hbel.out h)) (bt hbel.out h)
    have CX : Hid (∀ W : World, Calls Tryz.prog 126 #[opv x (.slice uo nu uc)] W fun e w' => e = .returned (.bool (contB x)) ∧ Below W.heap.size W w') := fun W => refContent_any W
    have FT := Lib.hid (filter_take (P := PB) hjl)
    rw [← hx] at FT
    have PX := HPB.out x
    obtain ⟨q, hq⟩ : ∃ b, contB x = b := ⟨_, rfl⟩
    rw [hq] at CX PX
    obtain ⟨⟨T, R, hT, hR⟩, hh⟩ : ∃ z, homeM live x.pl = z := ⟨_, rfl⟩
    rw [hh] at HX PX
    simp only at HX PX
    clear hx hru hq hh hxm
    obtain ⟨k, hk⟩ : ∃ z, x.k = z := ⟨_, rfl⟩
    obtain ⟨t, ht⟩ : ∃ z, x.t = z := ⟨_, rfl⟩
    obtain ⟨r, hr⟩ : ∃ z, x.r = z := ⟨_, rfl⟩
    obtain ⟨p, hp⟩ : ∃ z, x.p = z := ⟨_, rfl⟩
    rw [hk, ht, hr, hp] at HO
    rw [hk] at h0
    rw [ht] at h1
    rw [hr] at h2
    rw [hp] at h4
    simp only [HO.out] at CX
    rw [hk, ht, hr, hp] at INN
    have F1 : Hid (FiveAt wr bb (oo + j * 5) (.int .u8 (k : Int)) (.int .u32 (t : Int)) (.int .u8 (r : Int)) (.slice uo nu uc) (.int .i64 p)) := ⟨hbb, h0, h1, h2, h3, h4⟩
    have SK : Hid (∀ w' : World, Below wr.heap.size wr w' → Below wr.heap.size wr w' ∧ w'.cell? ⟨bb, oo + j * 5, none⟩ = some (.int .u8 (k : Int)) ∧ w'.cell? ⟨bb, oo + j * 5 + 1, none⟩ = some (.int .u32 (t : Int)) ∧ w'.cell? ⟨bb, oo + j * 5 + 2, none⟩ = some (.int .u8 (r : Int)) ∧ w'.cell? ⟨bb, oo + j * 5 + 3, none⟩ = some (.slice uo nu uc) ∧ w'.cell? ⟨bb, oo + j * 5 + 4, none⟩ = some (.int .i64 p) ∧ w'.cell? ⟨w.heap.size, 0, none⟩ = some (.int .u32 (ts : Int)) ∧ w'.cell? ⟨w.heap.size, 1, none⟩ = some (.int .u8 (rs : Int))) := fun W h => by
      have a1 := (F1.out.keeps h).2
      have a2 := P0.out.keeps (bt hbel.out h)
      exact ⟨h, a1.1, a1.2.1, a1.2.2.1, a1.2.2.2.1, a1.2.2.2.2, a2.2.1, a2.2.2⟩
    clear hk ht hr hp HO h0 h1 h2 h3 h4
    cases q
    · have FN : Hid ((if PB x = true then [x] else []) = []) := if_neg (by rw [PX]; simp)
      clear HX PX HPB HO0 HV P0 HMY
      go_wp2
      refine wp_region_held_drew (S := fun w' => Below wr.heap.size wr w' ∧ w'.cell? ⟨bb, oo + j * 5, none⟩ = some (.int .u8 (k : Int)) ∧ w'.cell? ⟨bb, oo + j * 5 + 1, none⟩ = some (.int .u32 (t : Int)) ∧ w'.cell? ⟨bb, oo + j * 5 + 2, none⟩ = some (.int .u8 (r : Int)) ∧ w'.cell? ⟨bb, oo + j * 5 + 3, none⟩ = some (.slice uo nu uc) ∧ w'.cell? ⟨bb, oo + j * 5 + 4, none⟩ = some (.int .i64 p) ∧ w'.cell? ⟨w.heap.size, 0, none⟩ = some (.int .u32 (ts : Int)) ∧ w'.cell? ⟨w.heap.size, 1, none⟩ = some (.int .u8 (rs : Int))) (by kernel_rfl) (SK.out _ (drew1 _)) (fun hHeld => ?_)
      refine rN 0 ?_
      refine rN 1 ?_
      refine rN 2 ?_
      refine rN 3 ?_
      refine wpAnyH_ready (rs := [4]) (by kernel_rfl) (by simp) ?_
      refine AllReadyH.cons rfl (fun K hK => ?_) ?za4
      case za4 => exact AllReadyH.nil
      go_simp
      refine (CX.out _).mono ?_
      rintro e w9a4 ⟨rfl, b9⟩
      refine hK.out _ _ (SK.out _ (bt hHeld.1 b9)) (fun hNew => ?_)
      clear hHeld
      have hHeld := hNew
      clear hNew hK K
      refine rX ?_
      refine rN 5 ?_
      refine rV 6 ?_
      refine rV 7 ?_
      refine rV 8 ?_
      refine rV 9 ?_
      refine rV 10 ?_
      refine rV 11 ?_
      refine rV 12 ?_
      refine rV 13 ?_
      refine rV 14 ?_
      refine rN 15 ?_
      refine wpAnyH_done (by kernel_rfl) ?_ _
      rw [FN.out, List.append_nil] at FT
      rw [← FT.out] at HM
      have S2 := Lib.hid (hshr.out.keeps hHeld.1)
      rw [← FT.out] at S2
      have B2 := Lib.hid (bt hbel.out hHeld.1)
      clear hHeld hshr hbel F1 SK
      go_wp2
      go_roundw
      case rel => exact ⟨j + 1, m, by omega, by go_num, ⟨aoL, capL, rfl⟩, HM, S2, B2⟩
      case measure => simp [intOf]; omega
    have hne : ¬ T = ts ∨ (T = ts ∧ ¬ R = rs) ∨ (T = ts ∧ R = rs) := by
      by_cases h : T = ts
      · by_cases h2 : R = rs
        · exact .inr (.inr ⟨h, h2⟩)
        · exact .inr (.inl ⟨h, h2⟩)
      · exact .inl h
    rcases hne with hne | ⟨rfl, hne⟩ | ⟨rfl, rfl⟩
    · have FN : Hid ((if PB x = true then [x] else []) = []) := if_neg (by rw [PX]; simp [hne])
      have hi : ¬ ((T : Int) = (ts : Int)) := by omega
      clear PX HPB HO0 HV P0 HMY
      go_wp2
      refine wp_region_held_drew (S := fun w' => Below wr.heap.size wr w' ∧ w'.cell? ⟨bb, oo + j * 5, none⟩ = some (.int .u8 (k : Int)) ∧ w'.cell? ⟨bb, oo + j * 5 + 1, none⟩ = some (.int .u32 (t : Int)) ∧ w'.cell? ⟨bb, oo + j * 5 + 2, none⟩ = some (.int .u8 (r : Int)) ∧ w'.cell? ⟨bb, oo + j * 5 + 3, none⟩ = some (.slice uo nu uc) ∧ w'.cell? ⟨bb, oo + j * 5 + 4, none⟩ = some (.int .i64 p) ∧ w'.cell? ⟨w.heap.size, 0, none⟩ = some (.int .u32 (ts : Int)) ∧ w'.cell? ⟨w.heap.size, 1, none⟩ = some (.int .u8 (rs : Int))) (by kernel_rfl) (SK.out _ (drew1 _)) (fun hHeld => ?_)
      refine rN 0 ?_
      refine rN 1 ?_
      refine rN 2 ?_
      refine rN 3 ?_
      refine wpAnyH_ready (rs := [4]) (by kernel_rfl) (by simp) ?_
      refine AllReadyH.cons rfl (fun K hK => ?_) ?zb4
      case zb4 => exact AllReadyH.nil
      go_simp
      refine (CX.out _).mono ?_
      rintro e w9b4 ⟨rfl, b9⟩
      refine hK.out _ _ (SK.out _ (bt hHeld.1 b9)) (fun hNew => ?_)
      clear hHeld
      have hHeld := hNew
      clear hNew hK K
      refine rX ?_
      refine rN 5 ?_
      refine rN 6 ?_
      refine rN 7 ?_
      refine rN 8 ?_
      refine rN 9 ?_
      refine rN 10 ?_
      refine rN 11 ?_
      refine rN 13 ?_
      refine wpAnyH_ready (rs := [12]) (by kernel_rfl) (by simp) ?_
      refine AllReadyH.cons rfl (fun K hK => ?_) ?zb12
      case zb12 => exact AllReadyH.nil
      go_simp
      refine (HX.out _ hHeld.1).mono ?_
      rintro e w9b12 ⟨rfl, b9⟩
      refine hK.out _ _ (SK.out _ (bt hHeld.1 b9)) (fun hNew => ?_)
      clear hHeld
      have hHeld := hNew
      clear hNew hK K
      refine rX ?_
      refine rN 14 ?_
      refine rN 15 ?_
      refine wpAnyH_done (by kernel_rfl) ?_ _
      rw [FN.out, List.append_nil] at FT
      rw [← FT.out] at HM
      have S2 := Lib.hid (hshr.out.keeps hHeld.1)
      rw [← FT.out] at S2
      have B2 := Lib.hid (bt hbel.out hHeld.1)
      clear hHeld hshr hbel F1 SK
      go_wp2
      go_roundw
      case rel => exact ⟨j + 1, m, by omega, by go_num, ⟨aoL, capL, rfl⟩, HM, S2, B2⟩
      case measure => simp [intOf]; omega
    · have FN : Hid ((if PB x = true then [x] else []) = []) := if_neg (by rw [PX]; simp [hne])
      have hi : ¬ ((R : Int) = (rs : Int)) := by omega
      clear PX HPB HO0 HV P0 HMY
      go_wp2
      refine wp_region_held_drew (S := fun w' => Below wr.heap.size wr w' ∧ w'.cell? ⟨bb, oo + j * 5, none⟩ = some (.int .u8 (k : Int)) ∧ w'.cell? ⟨bb, oo + j * 5 + 1, none⟩ = some (.int .u32 (t : Int)) ∧ w'.cell? ⟨bb, oo + j * 5 + 2, none⟩ = some (.int .u8 (r : Int)) ∧ w'.cell? ⟨bb, oo + j * 5 + 3, none⟩ = some (.slice uo nu uc) ∧ w'.cell? ⟨bb, oo + j * 5 + 4, none⟩ = some (.int .i64 p) ∧ w'.cell? ⟨w.heap.size, 0, none⟩ = some (.int .u32 (T : Int)) ∧ w'.cell? ⟨w.heap.size, 1, none⟩ = some (.int .u8 (rs : Int))) (by kernel_rfl) (SK.out _ (drew1 _)) (fun hHeld => ?_)
      refine rN 0 ?_
      refine rN 1 ?_
      refine rN 2 ?_
      refine rN 3 ?_
      refine wpAnyH_ready (rs := [4]) (by kernel_rfl) (by simp) ?_
      refine AllReadyH.cons rfl (fun K hK => ?_) ?zc4
      case zc4 => exact AllReadyH.nil
      go_simp
      refine (CX.out _).mono ?_
      rintro e w9c4 ⟨rfl, b9⟩
      refine hK.out _ _ (SK.out _ (bt hHeld.1 b9)) (fun hNew => ?_)
      clear hHeld
      have hHeld := hNew
      clear hNew hK K
      refine rX ?_
      refine rN 5 ?_
      refine rN 6 ?_
      refine rN 7 ?_
      refine rN 8 ?_
      refine rN 9 ?_
      refine rN 10 ?_
      refine rN 11 ?_
      refine rN 13 ?_
      refine wpAnyH_ready (rs := [12]) (by kernel_rfl) (by simp) ?_
      refine AllReadyH.cons rfl (fun K hK => ?_) ?zc12
      case zc12 => exact AllReadyH.nil
      go_simp
      refine (HX.out _ hHeld.1).mono ?_
      rintro e w9c12 ⟨rfl, b9⟩
      refine hK.out _ _ (SK.out _ (bt hHeld.1 b9)) (fun hNew => ?_)
      clear hHeld
      have hHeld := hNew
      clear hNew hK K
      refine rX ?_
      refine rN 14 ?_
      refine rN 15 ?_
      refine wpAnyH_done (by kernel_rfl) ?_ _
      rw [FN.out, List.append_nil] at FT
      rw [← FT.out] at HM
      have S2 := Lib.hid (hshr.out.keeps hHeld.1)
      rw [← FT.out] at S2
      have B2 := Lib.hid (bt hbel.out hHeld.1)
      clear hHeld hshr hbel F1 SK
      go_wp2
      go_roundw
      case rel => exact ⟨j + 1, m, by omega, by go_num, ⟨aoL, capL, rfl⟩, HM, S2, B2⟩
      case measure => simp [intOf]; omega
    · have FN : Hid ((if PB x = true then [x] else []) = [x]) := if_pos (by rw [PX]; simp)
      clear PX HPB HO0 HV P0 HMY
      go_wp2
      refine wp_region_held_drew (S := fun w' => Below wr.heap.size wr w' ∧ w'.cell? ⟨bb, oo + j * 5, none⟩ = some (.int .u8 (k : Int)) ∧ w'.cell? ⟨bb, oo + j * 5 + 1, none⟩ = some (.int .u32 (t : Int)) ∧ w'.cell? ⟨bb, oo + j * 5 + 2, none⟩ = some (.int .u8 (r : Int)) ∧ w'.cell? ⟨bb, oo + j * 5 + 3, none⟩ = some (.slice uo nu uc) ∧ w'.cell? ⟨bb, oo + j * 5 + 4, none⟩ = some (.int .i64 p) ∧ w'.cell? ⟨w.heap.size, 0, none⟩ = some (.int .u32 (T : Int)) ∧ w'.cell? ⟨w.heap.size, 1, none⟩ = some (.int .u8 (R : Int))) (by kernel_rfl) (SK.out _ (drew1 _)) (fun hHeld => ?_)
      refine rN 0 ?_
      refine rN 1 ?_
      refine rN 2 ?_
      refine rN 3 ?_
      refine wpAnyH_ready (rs := [4]) (by kernel_rfl) (by simp) ?_
      refine AllReadyH.cons rfl (fun K hK => ?_) ?zd4
      case zd4 => exact AllReadyH.nil
      go_simp
      refine (CX.out _).mono ?_
      rintro e w9d4 ⟨rfl, b9⟩
      refine hK.out _ _ (SK.out _ (bt hHeld.1 b9)) (fun hNew => ?_)
      clear hHeld
      have hHeld := hNew
      clear hNew hK K
      refine rX ?_
      refine rN 5 ?_
      refine rN 6 ?_
      refine rN 7 ?_
      refine rN 8 ?_
      refine rN 9 ?_
      refine rN 10 ?_
      refine rN 11 ?_
      refine rN 13 ?_
      refine wpAnyH_ready (rs := [12]) (by kernel_rfl) (by simp) ?_
      refine AllReadyH.cons rfl (fun K hK => ?_) ?zd12
      case zd12 => exact AllReadyH.nil
      go_simp
      refine (HX.out _ hHeld.1).mono ?_
      rintro e w9d12 ⟨rfl, b9⟩
      refine hK.out _ _ (SK.out _ (bt hHeld.1 b9)) (fun hNew => ?_)
      clear hHeld
      have hHeld := hNew
      clear hNew hK K
      refine rX ?_
      refine rN 14 ?_
      refine rN 15 ?_
      refine wpAnyH_done (by kernel_rfl) ?_ _
      rw [FN.out] at FT
      have S2 := Lib.hid (hshr.out.keeps hHeld.1)
      have B2 := Lib.hid (bt hbel.out hHeld.1)
      have HZ := Lib.hid B2.out.size
      have hll := filter_take_len (P := PB) (l := l) j
      have HMM := Lib.hid (show (m + 1) * 48 ≤ 140737488355328 ∧ m ≤ 1000000000000 by have := HM.out; have := HN.out; omega)
      obtain ⟨h0, h1, h2, h3, h4⟩ := (F1.out.keeps hHeld.1).2
      clear hHeld hshr hll F1 SK
      go_wp2_with (at_builtin; refine wpList_append_enc (E := opE) Tryz.underlying22 op_info rfl (w0 := wl) (wp := w9d12) (by rfl) (.tmp 31) (.tmp 36) (by rfl) (by rfl) S2.out (G := w9d12.heap.size) (by rfl) rfl (c := #[.int .u8 (k : Int), .int .u32 (t : Int), .int .u8 (r : Int), .slice uo nu uc, .int .i64 p]) INN.out HM.out HMM.out.1 HMM.out.2 HZ.out ?_)
      rintro v6 w6 s6 va vc rfl b6
      have S6 := Lib.hid s6
      rw [← FT.out] at S6
      have M6 : Hid (m + 1 = ((l.take (j + 1)).filter PB).length) := by unfold Hid; rw [FT.out, List.length_append, ← HM.out]; rfl
      have B6 := Lib.hid (B2.out.trans b6)
      clear s6 b6 S2 B2 h0 h1 h2 h3 h4 FT HM FN hbel
      go_wp2
      go_roundw
      case rel => exact ⟨j + 1, m + 1, by omega, by go_num, ⟨va, vc, rfl⟩, M6, S6, B6⟩
      case measure => simp [intOf]; omega
end Go.Proofs.YtmiepnnpccpicaaGreat.Covers
