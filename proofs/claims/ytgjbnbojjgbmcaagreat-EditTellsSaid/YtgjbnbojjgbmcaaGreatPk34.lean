/- octavoref06.Final, Last, All, Ids: what each answers. Conditions: the slice's cells are runs. octavoref06.Ids, SameIds, More: what each answers. Conditions: the slices' cells are runs (stamps). Whether a number is a code point: point.Check, and the document's Is. Conditions: none. octavo/op and octavoref09: Content, Own, Same, Twin: what each answers. Conditions: the places' cells are runs. What Under answers, as lists: its runs are each short. Conditions: none. octavo/op.Needs, octavoref09: May, Check, Many, Stands, Needs: what each answers. Conditions: the places' cells are runs. Bags in plain words: which may be, one more in its place, two together, without stamps. Conditions: none. -/
import Derived.Test.YtgjbnbojjgbmcaaGreatChecked
import Derived.WalkKit
import Derived.WalkSpells
import Derived.WalkLawsBesides
import Derived.Laws.BytesArg
import Derived.Lib.Hide
import Derived.Deep.LoopGhost
import Derived.Laws.AppendOwnNone
import Derived.Laws.OwnMore
import Derived.WideShapes
import Derived.Maps.AppendAt
import Derived.RegionTactic
import Derived.Deep.RegionHeld3
import Derived.Deep.DrawnRows
import Derived.Deep.QuietTactic
import Derived.BigQuiet
import Derived.IntWalk
import Derived.Deep.DeepCutAuto
import Derived.Test.YtgjbnbojjgbmcaaGreatProg
import Derived.LoopTactic
import Derived.ScopeJumps
import Derived.Laws.EntriesVeiled
import Derived.RowKit
import Derived.Test.YtgjbnbojjgbmcaaGreatRw
import Derived.Test.YtgjbnbojjgbmcaaGreatPk02
import Derived.Test.YtgjbnbojjgbmcaaGreatPk33
import Derived.Test.YtgjbnbojjgbmcaaGreatPk01
import Derived.Test.YtgjbnbojjgbmcaaGreatPk15
import Derived.Test.YtgjbnbojjgbmcaaGreatPk20
import Derived.Test.YtgjbnbojjgbmcaaGreatPk21
import Derived.Test.YtgjbnbojjgbmcaaGreatPk03
import Derived.Test.YtgjbnbojjgbmcaaGreatPk04
import Derived.Test.YtgjbnbojjgbmcaaGreatPk19

namespace Go.Proofs.YtgjbnbojjgbmcaaGreat.Place
open Go.RowKit Stamp
attribute [local go_sem ↓] Go.wp_at_zero Go.wp_at_succ
set_option maxHeartbeats 1000000 in
theorem final_any {v : Value} {l : List Run} {w : World} {k : Nat} {x : Run} (hv : Runs w v l) (hk : l.length = k + 1) (hx : l.getD k zrun = x) (h1 : One x) (hl : l.length ≤ 1000) :
    Calls Tryz.prog 97 #[v] w fun e w' => e = .returned (.agg #[.int .u32 ((x.t : Int) + (x.m - 1)), .int .u8 (x.r : Int)]) ∧ Below w.heap.size w w' := by
  obtain ⟨ao, cap, rfl⟩ := hv.shape
  obtain ⟨b, off, rfl, hb, hx0, hx1, hx2⟩ := hv.at k (by omega)
  rw [hx] at hx0 hx1 hx2
  obtain ⟨n, hn⟩ : ∃ n, n = l.length := ⟨_, rfl⟩
  rw [← hn] at hk hl ⊢
  obtain ⟨t, r, m, ht, hr, hm⟩ := x
  unfold One at h1
  simp only at hx0 hx1 hx2 h1
  obtain ⟨o1, o2, o3, o4, o5, o6⟩ := h1
  have q2 : (0 : Int) ≤ (k : Int) := by omega
  have q3 : (k : Int) < (n : Int) := by omega
  have e1 : (n : Int) - 1 = (k : Int) := by omega
  have e2 : IntKind.i64.wrap (k : Int) = (k : Int) := IntWalk.i64_in _ (by omega)
  have e3 : IntKind.u32.wrap (m - 1) = m - 1 := by rw [IntKind.wrap_u32]; omega
  have e4 : IntKind.u32.wrap ((t : Int) + (m - 1)) = (t : Int) + (m - 1) := by rw [IntKind.wrap_u32]; omega
  have e5 : IntKind.i64.wrap (m - 1) = m - 1 := IntWalk.i64_in _ (by omega)
  have HB0 : Hid (b < w.heap.size) := hb
  have hne : ¬ b = w.heap.size := by omega
  clear hv hn hk hx
  go_enter Tryz.func97, Tryz.ntmps97
  go_wp2
  refine bodyPost_ret (v := .agg #[.int .u32 ((t : Int) + (m - 1)), .int .u8 (r : Int)]) (by simp [results, Tryz.results97, go_sem]) rfl ⟨rfl, ?_⟩
  exact ((Below.refl _ _).alloc (Nat.le_refl _) _).alloc (by simp) _
end Go.Proofs.YtgjbnbojjgbmcaaGreat.Place

namespace Go.Proofs.YtgjbnbojjgbmcaaGreat.Place
open Go.RowKit Stamp
attribute [local go_sem ↓] Go.wp_at_zero Go.wp_at_succ
attribute [local go_sem] yielded_undef
theorem keepR1 {wl w1 w2 : World} {b o1 o2 o3 h2 : Nat} {c1 c2 c3 d0 d1 : Value} (q : b < wl.heap.size ∧ wl.cell? ⟨b, o1, none⟩ = some c1 ∧ wl.cell? ⟨b, o2, none⟩ = some c2 ∧ wl.cell? ⟨b, o3, none⟩ = some c3) (p2 : Pair wl h2 d0 d1) (h : Below w1.heap.size w1 w2) (hb : Below wl.heap.size wl w1) :
    Below wl.heap.size wl w2 ∧ w2.cell? ⟨b, o1, none⟩ = some c1 ∧ w2.cell? ⟨b, o2, none⟩ = some c2 ∧ w2.cell? ⟨b, o3, none⟩ = some c3 ∧ w2.cell? ⟨h2, 0, none⟩ = some d0 ∧ w2.cell? ⟨h2, 1, none⟩ = some d1 :=
  have a := bt hb h
  ⟨a, (a.cell (p := ⟨b, o1, none⟩) q.1).trans q.2.1, (a.cell (p := ⟨b, o2, none⟩) q.1).trans q.2.2.1, (a.cell (p := ⟨b, o3, none⟩) q.1).trans q.2.2.2, (p2.keeps a).2.1, (p2.keeps a).2.2⟩
set_option maxRecDepth 100000 in
set_option maxHeartbeats 4000000 in
theorem more_own {v : Value} {l : List Run} {a : Id} {w : World} (hv : Runs w v l) (hl : l.length ≤ 1000) (hc : Chain l) (ht1 : a.t ≤ 1073741824) :
    Calls Tryz.prog 98 #[v, .agg #[.int .u32 (a.t : Int), .int .u8 (a.r : Int)]] w fun e w' => ∃ v', e = .returned v' ∧ w'.ownsRow w.heap.size 32 3 v' (more l a).length (runs (more l a)) ∧ Below w.heap.size w w' := by
  obtain ⟨t, r, ht, hr⟩ := a
  simp only at ht1
  obtain ⟨n, hn⟩ : ∃ n, n = l.length := ⟨_, rfl⟩
  obtain ⟨qb, hqb⟩ : ∃ qb, qb = joinsB l ⟨t, r, ht, hr⟩ := ⟨_, rfl⟩
  have HV := Lib.hid hv
  have HN := Lib.hid hn
  have HC := Lib.hid hc
  have HQB := Lib.hid hqb
  simp only
  have BX := Lib.hid ((Below.refl w.heap.size w).alloc (Nat.le_refl _) (.cells #[.int .u32 (t : Int), .int .u8 (r : Int)] 28))
  have TW : Hid (Calls Tryz.prog 53 #[v] (w.alloc (.cells #[.int .u32 (t : Int), .int .u8 (r : Int)] 28)) fun e w' => ∃ v', e = .returned v' ∧ w'.ownsRow (w.alloc (.cells #[.int .u32 (t : Int), .int .u8 (r : Int)] 28)).heap.size 32 3 v' n (runs l) ∧ Below (w.alloc (.cells #[.int .u32 (t : Int), .int .u8 (r : Int)] 28)).heap.size (w.alloc (.cells #[.int .u32 (t : Int), .int .u8 (r : Int)] 28)) w') := by
    rw [hn]; exact twin_any (HV.out.keeps BX.out) (by omega)
  have hl2 : n ≤ 1000 := by omega
  clear hv hn hc hqb hl
  go_enter Tryz.func98, Tryz.ntmps98
  go_wp2_with fail
  refine TW.out.mono ?_
  rintro e w2 ⟨v', rfl, own, b2⟩
  have hsh := Sees.shape (Sees.own own)
  obtain ⟨ao, cap, rfl⟩ := hsh
  have RV : Hid (Runs w2 (.slice ao n cap) l) := Runs.own own
  have OWN : Hid (w2.ownsRow w.heap.size 32 3 (.slice ao n cap) n (runs l)) := ⟨own.1, own.2.imp_right fun ⟨g, c, cur, h1, h2, h3⟩ => ⟨g, c, cur, h1, by simp at h2; omega, h3⟩⟩
  have PB : Hid (Pair w2 w.heap.size (.int .u32 (t : Int)) (.int .u8 (r : Int))) := (pair_new _ _ _ _).keeps b2
  obtain ⟨c0, c1, _, _⟩ := two_cells b2
  have B2 := Lib.hid (below_of3 b2)
  clear own b2
  go_wp2_with fail
  go_upto_region 3 with fail
  go_cut [36] (fun p wx => p = .bool qb ∧ Below w2.heap.size w2 wx)
  case first =>
    by_cases h0 : n = 0
    · subst h0
      have hf : qb = false := by rw [HQB.out]; exact decide_eq_false (by rw [← HN.out]; omega)
      subst hf
      go_wp2
      go_quiet (fail)
      go_wp2_with fail
      go_meet
      exact ⟨rfl, below_draw (Below.refl _ _) _⟩
    · obtain ⟨k, hk⟩ : ∃ k, n = k + 1 := ⟨n - 1, by omega⟩
      have g1 : decide ((0 : Int) < (n : Int)) = true := decide_eq_true (by omega)
      have g2 : decide (0 < n) = true := decide_eq_true (by omega)
      obtain ⟨b, off, rfl, hb, hx0, hx1, hx2⟩ := RV.out.at k (by rw [← HN.out]; omega)
      have hone := chain_one HC.out (k := k) (by rw [← HN.out]; omega)
      obtain ⟨x, hx⟩ : ∃ x, x = l.getD k zrun := ⟨_, rfl⟩
      rw [← hx] at hx0 hx1 hx2 hone
      have hq : qb = decide (x.r = r ∧ fin x + 1 = (t : Int)) := by
        rw [HQB.out]
        unfold joinsB
        rw [← HN.out, hk, Nat.add_sub_cancel, ← hx, decide_eq_decide]
        simp only
        constructor
        · rintro ⟨_, h⟩; exact h
        · intro h; exact ⟨by omega, h⟩
      obtain ⟨xt, xr, xm, hxt, hxr, hxm⟩ := x
      obtain ⟨z, hz⟩ : ∃ z, z = (xt : Int) + xm - 1 := ⟨_, rfl⟩
      have hfin : fin ⟨xt, xr, xm, hxt, hxr, hxm⟩ = z := hz.symm
      rw [hfin] at hq
      unfold One at hone
      simp only at hx0 hx1 hx2 hone hq
      obtain ⟨o1, o2, o3, o4, o5, o6⟩ := hone
      have E1 := Lib.hid (end_any xt xr xm hxt ⟨o4, o5⟩)
      rw [← hz] at E1
      have z0 : 0 ≤ z := by omega
      have z1 : z ≤ 1073741824 := by omega
      have QR := Lib.hid (And.intro hb (And.intro hx0 (And.intro hx1 hx2)))
      have w0 : (0 : Int) ≤ (k : Int) := by omega
      have w1 : (k : Int) < (n : Int) := by omega
      have e1 : (n : Int) - 1 = (k : Int) := by omega
      have e2 : IntKind.i64.wrap (k : Int) = (k : Int) := IntWalk.i64_in _ (by omega)
      have e3 : IntKind.i64.wrap (t : Int) = (t : Int) := IntWalk.i64_in _ (by omega)
      have e4 : IntKind.i64.wrap (z + 1) = z + 1 := IntWalk.i64_in _ (by omega)
      clear hx0 hx1 hx2 hb hx hk h0 hz hfin c0 c1
      by_cases hrr : xr = r
      · subst hrr
        have a2 : ((xr : Int) == (xr : Int)) = true := by simp
        have hq2 : qb = decide (z + 1 = (t : Int)) := by rw [hq]; simp
        by_cases hs : z + 1 = (t : Int)
        · have a3 : (z + 1 == (t : Int)) = true := by simp; omega
          have hf : qb = true := by rw [hq2]; exact decide_eq_true hs
          subst hf
          clear hq hq2 hs
          go_wp2_with fail
          refine wp_region_held_drew (S := fun w' => Below w2.heap.size w2 w' ∧ w'.cell? ⟨b, off + k * 3, none⟩ = some (.int .u32 (xt : Int)) ∧ w'.cell? ⟨b, off + k * 3 + 1, none⟩ = some (.int .u8 (xr : Int)) ∧ w'.cell? ⟨b, off + k * 3 + 2, none⟩ = some (.int .i64 xm) ∧ w'.cell? ⟨w.heap.size, 0, none⟩ = some (.int .u32 (t : Int)) ∧ w'.cell? ⟨w.heap.size, 1, none⟩ = some (.int .u8 (xr : Int))) (by kernel_rfl) (keepR1 QR.out PB.out (drew1 _) (Below.refl _ _)) (fun hHeld => ?_)
          refine rN 0 ?_
          refine rN 1 ?_
          refine rN 2 ?_
          refine rN 3 ?_
          refine rN 4 ?_
          refine rN 5 ?_
          refine rN 6 ?_
          refine rN 7 ?_
          refine rN 8 ?_
          refine rN 9 ?_
          refine rN 10 ?_
          refine rN 11 ?_
          refine rN 12 ?_
          refine rN 13 ?_
          refine rN 14 ?_
          refine rN 15 ?_
          refine rN 16 ?_
          refine rN 17 ?_
          refine rN 18 ?_
          refine rN 21 ?_
          refine rN 22 ?_
          refine rN 23 ?_
          refine wpAnyH_ready (rs := [19]) (by kernel_rfl) (by simp) ?_
          refine AllReadyH.cons rfl (fun K hK => ?_) ?za19
          case za19 => exact AllReadyH.nil
          go_simp
          refine (E1.out _).mono ?_
          rintro e w9 ⟨rfl, b9⟩
          refine hK.out _ _ (keepR1 QR.out PB.out b9 hHeld.1) (fun hNew => ?_)
          clear hHeld b9
          have hHeld := hNew
          clear hNew hK K
          refine rX ?_
          refine rN 20 ?_
          refine rN 24 ?_
          refine rN 25 ?_
          refine wpAnyH_done (by kernel_rfl) ?_ _
          go_wp2_with fail
          go_meet
          exact ⟨rfl, hHeld.1⟩
        · have a3 : (z + 1 == (t : Int)) = false := by simp; omega
          have hf : qb = false := by rw [hq2]; exact decide_eq_false hs
          subst hf
          clear hq hq2 hs
          go_wp2_with fail
          refine wp_region_held_drew (S := fun w' => Below w2.heap.size w2 w' ∧ w'.cell? ⟨b, off + k * 3, none⟩ = some (.int .u32 (xt : Int)) ∧ w'.cell? ⟨b, off + k * 3 + 1, none⟩ = some (.int .u8 (xr : Int)) ∧ w'.cell? ⟨b, off + k * 3 + 2, none⟩ = some (.int .i64 xm) ∧ w'.cell? ⟨w.heap.size, 0, none⟩ = some (.int .u32 (t : Int)) ∧ w'.cell? ⟨w.heap.size, 1, none⟩ = some (.int .u8 (xr : Int))) (by kernel_rfl) (keepR1 QR.out PB.out (drew1 _) (Below.refl _ _)) (fun hHeld => ?_)
          refine rN 0 ?_
          refine rN 1 ?_
          refine rN 2 ?_
          refine rN 3 ?_
          refine rN 4 ?_
          refine rN 5 ?_
          refine rN 6 ?_
          refine rN 7 ?_
          refine rN 8 ?_
          refine rN 9 ?_
          refine rN 10 ?_
          refine rN 11 ?_
          refine rN 12 ?_
          refine rN 13 ?_
          refine rN 14 ?_
          refine rN 15 ?_
          refine rN 16 ?_
          refine rN 17 ?_
          refine rN 18 ?_
          refine rN 21 ?_
          refine rN 22 ?_
          refine rN 23 ?_
          refine wpAnyH_ready (rs := [19]) (by kernel_rfl) (by simp) ?_
          refine AllReadyH.cons rfl (fun K hK => ?_) ?zb19
          case zb19 => exact AllReadyH.nil
          go_simp
          refine (E1.out _).mono ?_
          rintro e w9 ⟨rfl, b9⟩
          refine hK.out _ _ (keepR1 QR.out PB.out b9 hHeld.1) (fun hNew => ?_)
          clear hHeld b9
          have hHeld := hNew
          clear hNew hK K
          refine rX ?_
          refine rN 20 ?_
          refine rN 24 ?_
          refine rN 25 ?_
          refine wpAnyH_done (by kernel_rfl) ?_ _
          go_wp2_with fail
          go_meet
          exact ⟨rfl, hHeld.1⟩
      · have a2 : ((xr : Int) == (r : Int)) = false := by simp; omega
        have a4 : decide (xr = r) = false := decide_eq_false hrr
        have hf : qb = false := by rw [hq]; exact decide_eq_false (fun h => hrr h.1)
        subst hf
        clear hq hrr
        go_wp2_with fail
        refine wp_region_held_drew (S := fun w' => Below w2.heap.size w2 w' ∧ w'.cell? ⟨b, off + k * 3, none⟩ = some (.int .u32 (xt : Int)) ∧ w'.cell? ⟨b, off + k * 3 + 1, none⟩ = some (.int .u8 (xr : Int)) ∧ w'.cell? ⟨b, off + k * 3 + 2, none⟩ = some (.int .i64 xm) ∧ w'.cell? ⟨w.heap.size, 0, none⟩ = some (.int .u32 (t : Int)) ∧ w'.cell? ⟨w.heap.size, 1, none⟩ = some (.int .u8 (r : Int))) (by kernel_rfl) (keepR1 QR.out PB.out (drew1 _) (Below.refl _ _)) (fun hHeld => ?_)
        refine rN 0 ?_
        refine rN 1 ?_
        refine rN 2 ?_
        refine rN 3 ?_
        refine rN 4 ?_
        refine rN 5 ?_
        refine rN 6 ?_
        refine rN 7 ?_
        refine rN 8 ?_
        refine rN 9 ?_
        refine rN 10 ?_
        refine rN 11 ?_
        refine rN 12 ?_
        refine rN 13 ?_
        refine rV 14 ?_
        refine rV 15 ?_
        refine rV 16 ?_
        refine rV 17 ?_
        refine rV 18 ?_
        refine rV 19 ?_
        refine rV 20 ?_
        refine rV 21 ?_
        refine rV 22 ?_
        refine rV 23 ?_
        refine rV 24 ?_
        refine rN 25 ?_
        refine wpAnyH_done (by kernel_rfl) ?_ _
        go_wp2_with fail
        go_meet
        exact ⟨rfl, hHeld.1⟩
  case rest =>
    obtain ⟨rfl, hbw⟩ := hcut
    have OWc : Hid (wc.ownsRow w.heap.size 32 3 (.slice ao n cap) n (runs l)) := own_stays OWN.out hbw
    obtain ⟨_, c0, c1⟩ := PB.out.keeps hbw
    have Bc := Lib.hid (bt B2.out hbw)
    cases qb with
    | false =>
      have hmore : more l ⟨t, r, ht, hr⟩ = l ++ [mkRun t r 1] := by
        have h := HQB.out.symm
        unfold joinsB at h
        unfold more
        rw [if_neg (of_decide_eq_false h)]
      have HMo := Lib.hid hmore
      have HRn : Hid (runs [mkRun t r 1] = [.int .u32 (t : Int), .int .u8 (r : Int), .int .i64 1]) := by
        show _ = _
        rw [runs, mkRun_t ht, mkRun_r hr, mkRun_m (by omega)]; rfl
      have OW6 : Hid ((wc.alloc (.cells #[.int .u32 (t : Int), .int .u8 (r : Int), .int .i64 1] 32)).ownsRow w.heap.size 32 3 (.slice ao n cap) n (runs l)) := own_stays OWc.out ((Below.refl _ _).alloc (Nat.le_refl _) _)
      have S6 : Hid (Sees (wc.alloc (.cells #[.int .u32 (t : Int), .int .u8 (r : Int), .int .i64 1] 32)) (.slice (some ⟨wc.heap.size, 0, none⟩) 1 1) 3 1 (runs [mkRun t r 1])) := by
        rw [HRn.out]
        exact Sees.own (own_blk3 (base := wc.heap.size) (e := 32) (Nat.le_refl _) (blk_new rfl))
      clear hmore hbw
      go_wp2_with (at_builtin; refine wpList_append_sees rfl (.tmp 47) (.tmp 53) 33 32 rfl Tryz.underlying33 run_info rfl (by decide) w.heap.size _ n _ rfl OW6.out _ 1 _ rfl S6.out (runs_oneCell _) ?k1 ?k2 ?k3 ?_)
      case k1 => omega
      case k2 => omega
      case k3 => have := Bc.out.size; simp; omega
      rintro v1 w1 o1 g1 b1
      have B1 : Hid (Below w.heap.size w w1) := (Bc.out.alloc Bc.out.size _).trans b1
      have O1 := Lib.hid o1
      clear o1 g1 b1
      go_wp2
      go_ret
      refine ⟨_, rfl, ?_, B1.out⟩
      rw [HMo.out]
      have h := O1.out
      rw [← runs_append] at h
      rw [List.length_append, List.length_singleton, ← HN.out]
      exact h
    | true =>
      have hj := of_decide_eq_true HQB.out.symm
      obtain ⟨k, hk⟩ : ∃ k, n = k + 1 := ⟨n - 1, by have := hj.1; have := HN.out; omega⟩
      have hkl : l.length - 1 = k := by rw [← HN.out, hk]; omega
      have hone := chain_one HC.out (k := k) (by rw [← HN.out]; omega)
      obtain ⟨x, hx⟩ : ∃ x, x = l.getD k zrun := ⟨_, rfl⟩
      rw [← hx] at hone
      have hmore : more l ⟨t, r, ht, hr⟩ = l.take k ++ [mkRun x.t x.r (x.m + 1)] := by
        unfold more
        rw [if_pos hj, hkl, ← hx]
      have hm1 := hone.2.2.2.1
      have hm2 := hone.2.2.2.2.1
      have hset : (runs l).set (k * 3 + 2) (.int .i64 (x.m + 1)) = runs (more l ⟨t, r, ht, hr⟩) := by
        rw [hmore, hx]; exact runs_bump l k (by rw [← HN.out]; omega) (by rw [← hx]; omega)
      have hlen : (more l ⟨t, r, ht, hr⟩).length = n := by rw [hmore]; simp; have := HN.out; omega
      obtain ⟨g, rfl⟩ : ∃ g, ao = some ⟨g, 0, none⟩ := by
        rcases OWc.out.2 with ⟨_, h⟩ | ⟨g, c, cur, h, _⟩
        · omega
        · cases h; exact ⟨g, rfl⟩
      have hg : w.heap.size ≤ g := by
        rcases OWc.out.2 with ⟨_, h⟩ | ⟨g', c, cur, h, h2, _⟩
        · omega
        · cases h; exact h2
      have xm : wc.cell? ⟨g, k * 3 + 2, none⟩ = some (.int .i64 x.m) := by
        rw [OWc.out.cellAt (k * 3 + 2) (by omega), (runs_get l k (by rw [← HN.out]; omega)).2.2, ← hx]
      have xf : wc.frozen? ⟨g, k * 3 + 2, none⟩ = false := OWc.out.frozenAt _
      have HSet := Lib.hid hset
      have HLen := Lib.hid hlen
      obtain ⟨m', hm'⟩ : ∃ m', m' = x.m := ⟨_, rfl⟩
      rw [← hm'] at xm hm1 hm2 HSet
      have w0 : (0 : Int) ≤ (k : Int) := by omega
      have w1 : (k : Int) < (n : Int) := by omega
      have e1 : (n : Int) - 1 = (k : Int) := by omega
      have e2 : IntKind.i64.wrap (k : Int) = (k : Int) := IntWalk.i64_in _ (by omega)
      have e4 : IntKind.i64.wrap (m' + 1) = m' + 1 := IntWalk.i64_in _ (by omega)
      clear hset hmore hj hkl hone hx hlen hk hm' hbw c0 c1
      go_wp2
      go_ret
      refine ⟨_, rfl, ?_, ?_⟩
      · have h := (OWc.out.stored (k * 3 + 2) (.int .i64 (m' + 1))).1
        rw [HSet.out] at h
        rw [HLen.out]
        exact h
      · exact Bc.out.setCell (p := ⟨g, k * 3 + 2, none⟩) hg _
end Go.Proofs.YtgjbnbojjgbmcaaGreat.Place

namespace Go.Proofs.YtgjbnbojjgbmcaaGreat.Pt
open Go.RowKit
theorem refIs_yes (n : Int) (h : IsPt n) (w : World) : Calls Tryz.prog 134 #[.int .i64 n] w fun e w' => e = .returned (.bool true) ∧ w = w' := by
  obtain ⟨h1, h2, h3⟩ := h
  have q1 : decide (0 ≤ n) = true := by simpa using h1
  have q2 : decide (n ≤ 1114111) = true := by simpa using h2
  by_cases h4 : n < 55296
  · have q3 : decide (n < 55296) = true := by simpa using h4
    go_enter Tryz.func134, Tryz.ntmps134
    go_wp2
    go_ret
    exact ⟨rfl, rfl⟩
  · have q3 : decide (n < 55296) = false := by simpa using h4
    have q4 : decide (57343 < n) = true := by simp; omega
    go_enter Tryz.func134, Tryz.ntmps134
    go_wp2
    go_ret
    exact ⟨rfl, rfl⟩
theorem refIs_no (n : Int) (h : ¬ IsPt n) (w : World) : Calls Tryz.prog 134 #[.int .i64 n] w fun e w' => e = .returned (.bool false) ∧ w = w' := by
  rw [isPt_iff] at h
  by_cases h1 : 0 ≤ n
  · have q1 : decide (0 ≤ n) = true := by simpa using h1
    by_cases h2 : n ≤ 1114111
    · have q2 : decide (n ≤ 1114111) = true := by simpa using h2
      have q3 : decide (n < 55296) = false := by simp; omega
      have q4 : decide (57343 < n) = false := by simp; omega
      clear h
      go_enter Tryz.func134, Tryz.ntmps134
      go_wp2
      go_ret
      exact ⟨rfl, rfl⟩
    · have q2 : decide (n ≤ 1114111) = false := by simpa using h2
      clear h
      go_enter Tryz.func134, Tryz.ntmps134
      go_wp2
      go_ret
      exact ⟨rfl, rfl⟩
  · have q1 : decide (0 ≤ n) = false := by simpa using h1
    clear h
    go_enter Tryz.func134, Tryz.ntmps134
    go_wp2
    go_ret
    exact ⟨rfl, rfl⟩
theorem refIs_any (n : Int) (w : World) : Calls Tryz.prog 134 #[.int .i64 n] w fun e w' => e = .returned (.bool (isB n)) ∧ w = w' := by
  by_cases h : IsPt n
  · rw [show isB n = true from decide_eq_true h]; exact refIs_yes n h w
  · rw [show isB n = false from decide_eq_false h]; exact refIs_no n h w
end Go.Proofs.YtgjbnbojjgbmcaaGreat.Pt

namespace Go.Proofs.YtgjbnbojjgbmcaaGreat.Ops
open Go.RowKit Stamp Go.Proofs.YtgjbnbojjgbmcaaGreat.Place
attribute [local go_sem ↓] Go.wp_at_zero Go.wp_at_succ
theorem refContent_any {v : Value} {o : Opn} (w : World) :
    Calls Tryz.prog 181 #[opv o v] w fun e w' => e = .returned (.bool (contB o)) ∧ Below w.heap.size w w' := by
  obtain ⟨k, t, r, l, p, hk, ht, hr, hp⟩ := o
  unfold opv contB
  simp only
  have B0 : Hid (Below w.heap.size w (w.alloc (.cells #[.int .u8 (k : Int), .int .u32 (t : Int), .int .u8 (r : Int), v, .int .i64 p] 38))) := (Below.refl _ _).alloc (Nat.le_refl _) _
  by_cases h1 : k = 1
  · subst h1
    rw [show (decide (1 = 1) || decide (1 = 3)) = true from rfl]
    go_enter Tryz.func181, Tryz.ntmps181
    go_wp2
    go_ret
    exact ⟨rfl, B0.out⟩
  · have q1 : ((k : Int) == 1) = false := by simp; omega
    by_cases h3 : k = 3
    · subst h3
      rw [show (decide (3 = 1) || decide (3 = 3)) = true from rfl]
      go_enter Tryz.func181, Tryz.ntmps181
      go_wp2
      go_ret
      exact ⟨rfl, B0.out⟩
    · have q3 : ((k : Int) == 3) = false := by simp; omega
      rw [decide_eq_false h1, decide_eq_false h3, Bool.or_false]
      go_enter Tryz.func181, Tryz.ntmps181
      go_wp2
      go_ret
      exact ⟨rfl, B0.out⟩
theorem refOwn_any {v : Value} {o : Opn} (w : World) :
    Calls Tryz.prog 178 #[opv o v] w fun e w' => e = .returned (.bool (ownB o)) ∧ Below w.heap.size w w' := by
  obtain ⟨k, t, r, l, p, hk, ht, hr, hp⟩ := o
  unfold opv ownB
  simp only
  have B0 : Hid (Below w.heap.size w (w.alloc (.cells #[.int .u8 (k : Int), .int .u32 (t : Int), .int .u8 (r : Int), v, .int .i64 p] 38))) := (Below.refl _ _).alloc (Nat.le_refl _) _
  by_cases h1 : k = 1
  · subst h1
    rw [show (decide (1 = 1) || decide (1 = 2)) = true from rfl]
    go_enter Tryz.func178, Tryz.ntmps178
    go_wp2
    go_ret
    exact ⟨rfl, B0.out⟩
  · have q1 : ((k : Int) == 1) = false := by simp; omega
    by_cases h3 : k = 2
    · subst h3
      rw [show (decide (2 = 1) || decide (2 = 2)) = true from rfl]
      go_enter Tryz.func178, Tryz.ntmps178
      go_wp2
      go_ret
      exact ⟨rfl, B0.out⟩
    · have q3 : ((k : Int) == 2) = false := by simp; omega
      rw [decide_eq_false h1, decide_eq_false h3, Bool.or_false]
      go_enter Tryz.func178, Tryz.ntmps178
      go_wp2
      go_ret
      exact ⟨rfl, B0.out⟩
set_option maxHeartbeats 4000000 in
theorem refTwin_any {v : Value} {o : Opn} {w : World} (hv : Runs w v o.pl) (hl : o.pl.length ≤ 8796093022208) :
    Calls Tryz.prog 88 #[opv o v] w fun e w' => ∃ v', e = .returned (opv o v') ∧ w'.ownsRow w.heap.size 32 3 v' o.pl.length (runs o.pl) ∧ Below w.heap.size w w' := by
  obtain ⟨k, t, r, l, p, hk, ht, hr, hp⟩ := o
  unfold opv
  simp only at hv hl ⊢
  have C : Hid (∀ W : World, Below w.heap.size w W → Calls Tryz.prog 53 #[v] W fun e w' => ∃ v', e = .returned v' ∧ w'.ownsRow W.heap.size 32 3 v' l.length (runs l) ∧ Below W.heap.size W w') := fun W hW => twin_any (hv.keeps hW) hl
  have KK : Hid (∀ W : World, Below ((w.alloc (.cells #[.int .u8 (k : Int), .int .u32 (t : Int), .int .u8 (r : Int), v, .int .i64 p] 38)).alloc (.cells #[.int .u8 0, .int .u32 0, .int .u8 0, .slice none 0 0, .int .i64 0] 38)).heap.size ((w.alloc (.cells #[.int .u8 (k : Int), .int .u32 (t : Int), .int .u8 (r : Int), v, .int .i64 p] 38)).alloc (.cells #[.int .u8 0, .int .u32 0, .int .u8 0, .slice none 0 0, .int .i64 0] 38)) W →
      W.heap[w.heap.size]? = some (.cells #[.int .u8 (k : Int), .int .u32 (t : Int), .int .u8 (r : Int), v, .int .i64 p] 38) ∧ W.heap[w.heap.size + 1]? = some (.cells #[.int .u8 0, .int .u32 0, .int .u8 0, .slice none 0 0, .int .i64 0] 38)) := fun W hW =>
    ⟨blk_below hW (blk_old (blk_new rfl)), blk_below hW (blk_new (by simp))⟩
  have B0 : Hid (Below w.heap.size w ((w.alloc (.cells #[.int .u8 (k : Int), .int .u32 (t : Int), .int .u8 (r : Int), v, .int .i64 p] 38)).alloc (.cells #[.int .u8 0, .int .u32 0, .int .u8 0, .slice none 0 0, .int .i64 0] 38))) := ((Below.refl _ _).alloc (Nat.le_refl _) _).alloc (by simp) _
  clear hv hl
  go_enter Tryz.func88, Tryz.ntmps88
  go_wp2_with fail
  refine (C.out _ B0.out).mono ?_
  rintro e w1 ⟨v1, rfl, o1, b1⟩
  obtain ⟨ao, cap, rfl⟩ : ∃ ao cap, v1 = .slice ao l.length cap := Sees.shape (Sees.own o1)
  obtain ⟨k1, k2⟩ := KK.out _ b1
  have B1 := Lib.hid (bt B0.out b1)
  have O1 : Hid (w1.ownsRow (w.heap.size + 2) 32 3 (.slice ao l.length cap) l.length (runs l)) := op_base o1 (by simp)
  have k3 := heap_setCell_same w1 w.heap.size 3 _ _ (.slice ao l.length cap) k1
  have k4 : (w1.setCell ⟨w.heap.size, 3, none⟩ (.slice ao l.length cap)).heap[w.heap.size + 1]? = some (.cells #[.int .u8 0, .int .u32 0, .int .u8 0, .slice none 0 0, .int .i64 0] 38) := by
    rw [heap_setCell_other _ _ _ _ (by simp)]
    exact k2
  have f1 := free5 k1 3
  have HK := Lib.hid k3
  have HK4 := Lib.hid k4
  obtain ⟨c0, c1, c2, c3, c4⟩ := cells5 k1
  obtain ⟨d0, d1, d2, d3, d4⟩ := cells5 k2
  have OS : Hid ((w1.setCell ⟨w.heap.size, 3, none⟩ (.slice ao l.length cap)).ownsRow (w.heap.size + 2) 32 3 (.slice ao l.length cap) l.length (runs l)) := op_set O1.out (by omega)
  have BS : Hid (Below w.heap.size w (w1.setCell ⟨w.heap.size, 3, none⟩ (.slice ao l.length cap))) := B1.out.setCell (p := ⟨w.heap.size, 3, none⟩) (Nat.le_refl _) _
  have f2 : ∀ o, w1.frozen? ⟨w.heap.size + 1, o, none⟩ = false := fun o => free5 k2 o
  clear o1 b1 k1 k2 k3 k4
  go_wp2_with fail
  obtain ⟨W, hW⟩ : ∃ W, W = put5 (w1.setCell ⟨w.heap.size, 3, none⟩ (.slice ao l.length cap)) (w.heap.size + 1) (.int .u8 (k : Int)) (.int .u32 (t : Int)) (.int .u8 (r : Int)) (.slice ao l.length cap) (.int .i64 p) := ⟨_, rfl⟩
  have OW := put5_own (.int .u8 (k : Int)) (.int .u32 (t : Int)) (.int .u8 (r : Int)) (.slice ao l.length cap) (.int .i64 p) OS.out (show w.heap.size + 1 < w.heap.size + 2 by omega)
  have BW := put5_below (.int .u8 (k : Int)) (.int .u32 (t : Int)) (.int .u8 (r : Int)) (.slice ao l.length cap) (.int .i64 p) (show w.heap.size ≤ w.heap.size + 1 by omega) BS.out
  obtain ⟨e0, e1, e2, e3, e4⟩ := cells5 (put5_same (.int .u8 (k : Int)) (.int .u32 (t : Int)) (.int .u8 (r : Int)) (.slice ao l.length cap) (.int .i64 p) HK4.out)
  rw [← hW] at OW BW e0 e1 e2 e3 e4
  unfold put5 at hW
  rw [← hW]
  exact bodyPost_ret (v := .agg #[.int .u8 (k : Int), .int .u32 (t : Int), .int .u8 (r : Int), .slice ao l.length cap, .int .i64 p]) (by simp [results, Tryz.results88, go_sem, e0, e1, e2, e3, e4]) rfl ⟨_, rfl, op_base OW (by omega), BW⟩
end Go.Proofs.YtgjbnbojjgbmcaaGreat.Ops

namespace Go.Proofs.YtgjbnbojjgbmcaaGreat.Place
open Go.RowKit Stamp
attribute [local go_sem ↓] Go.wp_at_zero Go.wp_at_succ
theorem more_len (l : List Run) (a : Id) : (more l a).length ≤ l.length + 1 := by
  unfold more; split <;> simp <;> omega
theorem more_ones {l : List Run} {a : Id} (hc : Chain l) : Ones (more l a) := by
  intro j hj
  unfold more at hj ⊢
  by_cases h : 0 < l.length ∧ (l.getD (l.length - 1) zrun).r = a.r ∧ fin (l.getD (l.length - 1) zrun) + 1 = (a.t : Int)
  · rw [if_pos h] at hj ⊢
    have ho := chain_one hc (k := l.length - 1) (by omega)
    have h1 := ho.2.2.2.1
    have h2 := ho.2.2.2.2.1
    by_cases hjl : j < l.length - 1
    · have e : (l.take (l.length - 1) ++ [mkRun (l.getD (l.length - 1) zrun).t (l.getD (l.length - 1) zrun).r ((l.getD (l.length - 1) zrun).m + 1)]).getD j zrun = l.getD j zrun := by
        simp [List.getD, List.getElem?_append, hjl, show j < l.length by omega]
      rw [e]
      have hj1 := chain_one hc (k := j) (by omega)
      exact ⟨hj1.2.2.2.1, by have := hj1.2.2.2.2.1; omega⟩
    · have hje : j = l.length - 1 := by simp at hj; omega
      have e : (l.take (l.length - 1) ++ [mkRun (l.getD (l.length - 1) zrun).t (l.getD (l.length - 1) zrun).r ((l.getD (l.length - 1) zrun).m + 1)]).getD j zrun = mkRun (l.getD (l.length - 1) zrun).t (l.getD (l.length - 1) zrun).r ((l.getD (l.length - 1) zrun).m + 1) := by
        subst hje
        simp [List.getD]
      rw [e, mkRun_m (by omega)]
      omega
  · rw [if_neg h] at hj ⊢
    by_cases hjl : j < l.length
    · have e : (l ++ [mkRun a.t a.r 1]).getD j zrun = l.getD j zrun := by
        simp [List.getD, List.getElem?_append, hjl]
      rw [e]
      have hj1 := chain_one hc (k := j) hjl
      exact ⟨hj1.2.2.2.1, by have := hj1.2.2.2.2.1; omega⟩
    · have hje : j = l.length := by simp at hj; omega
      have e : (l ++ [mkRun a.t a.r 1]).getD j zrun = mkRun a.t a.r 1 := by
        subst hje
        simp [List.getD]
      rw [e, mkRun_m (by omega)]
      omega
end Go.Proofs.YtgjbnbojjgbmcaaGreat.Place

namespace Go.Proofs.YtgjbnbojjgbmcaaGreat.Ops
open Go.RowKit Stamp Go.Proofs.YtgjbnbojjgbmcaaGreat.Place
attribute [local go_sem ↓] Go.wp_at_zero Go.wp_at_succ
set_option maxHeartbeats 8000000 in
theorem refMayO_any {v : Value} {o : Opn} {w : World} (hv : Runs w v o.pl) :
    Calls Tryz.prog 126 #[opv o v] w fun e w' => e = .returned (.bool (mayO o)) ∧ Below w.heap.size w w' := by
  obtain ⟨k, t, r, l, p, hk, ht, hr, hp⟩ := o
  unfold opv
  simp only at hv ⊢
  obtain ⟨b, hb⟩ : ∃ b, mayO ⟨k, t, r, l, p, hk, ht, hr, hp⟩ = b := ⟨_, rfl⟩
  rw [hb]
  have hb2 : (may t r && (mayB l && kindF k t r (lastV l).1 (lastV l).2 p)) = b := hb
  clear hb
  have HB := Lib.hid hb2
  have HV := Lib.hid hv
  have B0 : Hid (Below w.heap.size w (w.alloc (.cells #[.int .u8 (k : Int), .int .u32 (t : Int), .int .u8 (r : Int), v, .int .i64 p] 38))) := (Below.refl _ _).alloc (Nat.le_refl _) _
  clear hb2 hv
  have q1 : decide ((k : Int) < 1) = decide (k < 1) := by simp; omega
  by_cases k0 : k = 0
  · subst k0
    obtain rfl : false = b := by rw [← HB.out]; simp [kindF]
    go_enter Tryz.func126, Tryz.ntmps126
    go_wp2
    go_ret
    exact ⟨rfl, B0.out⟩
  by_cases k5 : 4 < k
  · obtain rfl : false = b := by rw [← HB.out]; unfold kindF; rw [if_neg (by omega), if_neg (by omega), if_neg (by omega)]; simp
    have s1 : decide ((k : Int) < 1) = false := decide_eq_false (by omega)
    have s2 : decide ((4 : Int) < (k : Int)) = true := decide_eq_true (by omega)
    clear q1
    go_enter Tryz.func126, Tryz.ntmps126
    go_wp2
    go_ret
    exact ⟨rfl, B0.out⟩
  have s1 : decide ((k : Int) < 1) = false := decide_eq_false (by omega)
  have s2 : decide ((4 : Int) < (k : Int)) = false := decide_eq_false (by omega)
  have M : Hid (∀ W : World, Calls Tryz.prog 96 #[.agg #[.int .u32 (t : Int), .int .u8 (r : Int)]] W fun e w' => e = .returned (.bool (may t r)) ∧ Below W.heap.size W w') := fun W => refMay_any t r W
  clear q1
  cases h1 : may t r
  · obtain rfl : false = b := by rw [← HB.out, h1]; rfl
    rw [h1] at M
    clear h1
    go_enter Tryz.func126, Tryz.ntmps126
    go_wp2_with fail
    refine (M.out _).mono ?_
    rintro e w1 ⟨rfl, b1⟩
    have B1 := Lib.hid (bt B0.out b1)
    clear b1
    go_wp2
    go_ret
    exact ⟨rfl, B1.out⟩
  rw [h1] at M
  cases h2 : mayB l
  · obtain rfl : false = b := by rw [← HB.out, h1, h2]; rfl
    have M2 : Hid (∀ W : World, Below w.heap.size w W → Calls Tryz.prog 136 #[v] W fun e w' => e = .returned (.bool false) ∧ Below W.heap.size W w') := fun W hW => refMay_is (HV.out.keeps hW) h2
    clear h1 h2
    go_enter Tryz.func126, Tryz.ntmps126
    go_wp2_with fail
    refine (M.out _).mono ?_
    rintro e w1 ⟨rfl, b1⟩
    obtain ⟨c0, c1, c2, c3, c4⟩ := five_cells b1
    have B1 := Lib.hid (bt B0.out b1)
    clear b1
    go_wp2_with fail
    refine (M2.out _ B1.out).mono ?_
    rintro e w2 ⟨rfl, b2⟩
    have B2 := Lib.hid (bt B1.out b2)
    clear b2 c0 c1 c2 c3 c4
    go_wp2
    go_ret
    exact ⟨rfl, B2.out⟩
  have M2 : Hid (∀ W : World, Below w.heap.size w W → Calls Tryz.prog 136 #[v] W fun e w' => e = .returned (.bool true) ∧ Below W.heap.size W w') := fun W hW => refMay_is (HV.out.keeps hW) h2
  have hM := (mayB_iff l).1 h2
  have hkk : kindF k t r (lastV l).1 (lastV l).2 p = b := by rw [← HB.out, h1, h2]; rfl
  obtain ⟨j, hj⟩ : ∃ j, l.length = j + 1 := ⟨l.length - 1, by have := hM.1; omega⟩
  have hlv : lastV l = (((l.getD j zrun).t : Int) + ((l.getD j zrun).m - 1), ((l.getD j zrun).r : Int)) := by unfold lastV; rw [if_pos h2, hj, Nat.add_sub_cancel]
  have FI : Hid (∀ W : World, Below w.heap.size w W → Calls Tryz.prog 97 #[v] W fun e w' => e = .returned (.agg #[.int .u32 (lastV l).1, .int .u8 (lastV l).2]) ∧ Below W.heap.size W w') := fun W hW => by
    rw [hlv]
    exact final_any (HV.out.keeps hW) hj rfl (chain_one hM.2.2.1 (by omega)) (by have := hM.2.1; omega)
  obtain ⟨lt, hlt⟩ : ∃ x, x = (lastV l).1 := ⟨_, rfl⟩
  obtain ⟨lr, hlr⟩ : ∃ x, x = (lastV l).2 := ⟨_, rfl⟩
  rw [← hlt, ← hlr] at FI hkk
  have HK := Lib.hid hkk
  have OW : Hid (∀ W : World, Calls Tryz.prog 178 #[.agg #[.int .u8 (k : Int), .int .u32 (t : Int), .int .u8 (r : Int), v, .int .i64 p]] W fun e w' => e = .returned (.bool (decide (k = 1) || decide (k = 2))) ∧ Below W.heap.size W w') := fun W => refOwn_any (v := v) (o := ⟨k, t, r, l, p, hk, ht, hr, hp⟩) W
  have IS : Hid (∀ W : World, Calls Tryz.prog 134 #[.int .i64 p] W fun e w' => e = .returned (.bool (Pt.isB p)) ∧ W = w') := fun W => Pt.refIs_any p W
  clear h1 h2 hM hkk hj hlv hlt hlr HB
  have kk : k = 1 ∨ k = 2 ∨ (k = 3 ∨ k = 4) := by omega
  clear k0 k5
  rcases kk with rfl | rfl | hk3
  · have ho : (decide (1 = 1) || decide (1 = 2)) = true := rfl
    have hq : (decide ((lt, lr) = ((t : Int), (r : Int))) && Pt.isB p) = b := HK.out
    rw [ho] at OW
    clear ho HK
    have pair : (lt = (t : Int) ∧ lr = (r : Int)) ∨ (¬ lt = (t : Int)) ∨ (lt = (t : Int) ∧ ¬ lr = (r : Int)) := by omega
    rcases pair with ⟨rfl, rfl⟩ | h | ⟨rfl, h⟩
    · rw [decide_eq_true rfl, Bool.true_and] at hq
      rw [hq] at IS
      clear hq
      cases b
      all_goals
        go_enter Tryz.func126, Tryz.ntmps126
        go_wp2_with fail
        refine (M.out _).mono ?_
        rintro e w1 ⟨rfl, b1⟩
        obtain ⟨c0, c1, c2, c3, c4⟩ := five_cells b1
        have B1 := Lib.hid (bt B0.out b1)
        have C1 := Lib.hid b1
        clear b1
        go_wp2_with fail
        refine (M2.out _ B1.out).mono ?_
        rintro e w2 ⟨rfl, b2⟩
        have B2 := Lib.hid (bt B1.out b2)
        have C2 := Lib.hid (bt C1.out b2)
        clear b2 c0 c1 c2 c3 c4
        obtain ⟨c0, c1, c2, c3, c4⟩ := five_cells C2.out
        go_wp2_with fail
        refine (FI.out _ B2.out).mono ?_
        rintro e w3 ⟨rfl, b3⟩
        have B3 := Lib.hid (bt B2.out b3)
        have C3 := Lib.hid (bt C2.out b3)
        clear b3 c0 c1 c2 c3 c4
        obtain ⟨c0, c1, c2, c3, c4⟩ := five_cells C3.out
        have z3 : w.heap.size < w3.heap.size := by have := C3.out.size; simp at this; omega
        have B3' := Lib.hid (fun o : Obj => B3.out.alloc B3.out.size o)
        have C3' := Lib.hid (fun o : Obj => C3.out.alloc C3.out.size o)
        go_wp2_with fail
        refine (OW.out _).mono ?_
        rintro e w4 ⟨rfl, b4⟩
        have B4 := Lib.hid (bt (B3'.out _) b4)
        have C4 := Lib.hid (bt (C3'.out _) b4)
        have D4 := Lib.hid b4
        clear b4 c0 c1 c2 c3 c4
        obtain ⟨c0, c1, c2, c3, c4⟩ := five_cells C4.out
        obtain ⟨d0, d1, -, -⟩ := two_cells D4.out
        go_wp2_with fail
        refine (OW.out _).mono ?_
        rintro e w5 ⟨rfl, b5⟩
        have B5 := Lib.hid (bt B4.out b5)
        have C5 := Lib.hid (bt C4.out b5)
        have D5 := Lib.hid (bt D4.out b5)
        clear b5 c0 c1 c2 c3 c4 d0 d1
        obtain ⟨c0, c1, c2, c3, c4⟩ := five_cells C5.out
        obtain ⟨d0, d1, -, -⟩ := two_cells D5.out
        go_wp2_with fail
        refine (IS.out _).mono ?_
        rintro e w6 ⟨rfl, rfl⟩
        go_wp2
        go_ret
        exact ⟨rfl, B5.out⟩
    · rw [decide_eq_false (fun e => h (Prod.mk.inj e).1), Bool.false_and] at hq
      subst hq
      have q8 : (lt == (t : Int)) = false := by simp; omega
      have q7 : ¬ (t : Int) = lt := fun e => h e.symm
      go_enter Tryz.func126, Tryz.ntmps126
      go_wp2_with fail
      refine (M.out _).mono ?_
      rintro e w1 ⟨rfl, b1⟩
      obtain ⟨c0, c1, c2, c3, c4⟩ := five_cells b1
      have B1 := Lib.hid (bt B0.out b1)
      have C1 := Lib.hid b1
      clear b1
      go_wp2_with fail
      refine (M2.out _ B1.out).mono ?_
      rintro e w2 ⟨rfl, b2⟩
      have B2 := Lib.hid (bt B1.out b2)
      have C2 := Lib.hid (bt C1.out b2)
      clear b2 c0 c1 c2 c3 c4
      obtain ⟨c0, c1, c2, c3, c4⟩ := five_cells C2.out
      go_wp2_with fail
      refine (FI.out _ B2.out).mono ?_
      rintro e w3 ⟨rfl, b3⟩
      have B3 := Lib.hid (bt B2.out b3)
      have C3 := Lib.hid (bt C2.out b3)
      clear b3 c0 c1 c2 c3 c4
      obtain ⟨c0, c1, c2, c3, c4⟩ := five_cells C3.out
      have z3 : w.heap.size < w3.heap.size := by have := C3.out.size; simp at this; omega
      have B3' := Lib.hid (fun o : Obj => B3.out.alloc B3.out.size o)
      have C3' := Lib.hid (fun o : Obj => C3.out.alloc C3.out.size o)
      go_wp2_with fail
      refine (OW.out _).mono ?_
      rintro e w4 ⟨rfl, b4⟩
      have B4 := Lib.hid (bt (B3'.out _) b4)
      have C4 := Lib.hid (bt (C3'.out _) b4)
      have D4 := Lib.hid b4
      clear b4 c0 c1 c2 c3 c4
      obtain ⟨c0, c1, c2, c3, c4⟩ := five_cells C4.out
      obtain ⟨d0, d1, -, -⟩ := two_cells D4.out
      go_wp2
      go_ret
      exact ⟨rfl, B4.out⟩
    · rw [decide_eq_false (fun e => h (Prod.mk.inj e).2), Bool.false_and] at hq
      subst hq
      have q8 : (lr == (r : Int)) = false := by simp; omega
      have q7 : ¬ (r : Int) = lr := fun e => h e.symm
      go_enter Tryz.func126, Tryz.ntmps126
      go_wp2_with fail
      refine (M.out _).mono ?_
      rintro e w1 ⟨rfl, b1⟩
      obtain ⟨c0, c1, c2, c3, c4⟩ := five_cells b1
      have B1 := Lib.hid (bt B0.out b1)
      have C1 := Lib.hid b1
      clear b1
      go_wp2_with fail
      refine (M2.out _ B1.out).mono ?_
      rintro e w2 ⟨rfl, b2⟩
      have B2 := Lib.hid (bt B1.out b2)
      have C2 := Lib.hid (bt C1.out b2)
      clear b2 c0 c1 c2 c3 c4
      obtain ⟨c0, c1, c2, c3, c4⟩ := five_cells C2.out
      go_wp2_with fail
      refine (FI.out _ B2.out).mono ?_
      rintro e w3 ⟨rfl, b3⟩
      have B3 := Lib.hid (bt B2.out b3)
      have C3 := Lib.hid (bt C2.out b3)
      clear b3 c0 c1 c2 c3 c4
      obtain ⟨c0, c1, c2, c3, c4⟩ := five_cells C3.out
      have z3 : w.heap.size < w3.heap.size := by have := C3.out.size; simp at this; omega
      have B3' := Lib.hid (fun o : Obj => B3.out.alloc B3.out.size o)
      have C3' := Lib.hid (fun o : Obj => C3.out.alloc C3.out.size o)
      go_wp2_with fail
      refine (OW.out _).mono ?_
      rintro e w4 ⟨rfl, b4⟩
      have B4 := Lib.hid (bt (B3'.out _) b4)
      have C4 := Lib.hid (bt (C3'.out _) b4)
      have D4 := Lib.hid b4
      clear b4 c0 c1 c2 c3 c4
      obtain ⟨c0, c1, c2, c3, c4⟩ := five_cells C4.out
      obtain ⟨d0, d1, -, -⟩ := two_cells D4.out
      go_wp2
      go_ret
      exact ⟨rfl, B4.out⟩
  · have ho : (decide (2 = 1) || decide (2 = 2)) = true := rfl
    have hq : (decide ((lt, lr) = ((t : Int), (r : Int))) && decide (p = 0)) = b := HK.out
    rw [ho] at OW
    clear ho HK
    have pair : (lt = (t : Int) ∧ lr = (r : Int)) ∨ (¬ lt = (t : Int)) ∨ (lt = (t : Int) ∧ ¬ lr = (r : Int)) := by omega
    rcases pair with ⟨rfl, rfl⟩ | h | ⟨rfl, h⟩
    · rw [decide_eq_true rfl, Bool.true_and] at hq
      have q9 : (p == 0) = b := by rw [← hq]; simp [BEq.beq]
      clear hq
      cases b
      all_goals
        go_enter Tryz.func126, Tryz.ntmps126
        go_wp2_with fail
        refine (M.out _).mono ?_
        rintro e w1 ⟨rfl, b1⟩
        obtain ⟨c0, c1, c2, c3, c4⟩ := five_cells b1
        have B1 := Lib.hid (bt B0.out b1)
        have C1 := Lib.hid b1
        clear b1
        go_wp2_with fail
        refine (M2.out _ B1.out).mono ?_
        rintro e w2 ⟨rfl, b2⟩
        have B2 := Lib.hid (bt B1.out b2)
        have C2 := Lib.hid (bt C1.out b2)
        clear b2 c0 c1 c2 c3 c4
        obtain ⟨c0, c1, c2, c3, c4⟩ := five_cells C2.out
        go_wp2_with fail
        refine (FI.out _ B2.out).mono ?_
        rintro e w3 ⟨rfl, b3⟩
        have B3 := Lib.hid (bt B2.out b3)
        have C3 := Lib.hid (bt C2.out b3)
        clear b3 c0 c1 c2 c3 c4
        obtain ⟨c0, c1, c2, c3, c4⟩ := five_cells C3.out
        have z3 : w.heap.size < w3.heap.size := by have := C3.out.size; simp at this; omega
        have B3' := Lib.hid (fun o : Obj => B3.out.alloc B3.out.size o)
        have C3' := Lib.hid (fun o : Obj => C3.out.alloc C3.out.size o)
        go_wp2_with fail
        refine (OW.out _).mono ?_
        rintro e w4 ⟨rfl, b4⟩
        have B4 := Lib.hid (bt (B3'.out _) b4)
        have C4 := Lib.hid (bt (C3'.out _) b4)
        have D4 := Lib.hid b4
        clear b4 c0 c1 c2 c3 c4
        obtain ⟨c0, c1, c2, c3, c4⟩ := five_cells C4.out
        obtain ⟨d0, d1, -, -⟩ := two_cells D4.out
        go_wp2_with fail
        refine (OW.out _).mono ?_
        rintro e w5 ⟨rfl, b5⟩
        have B5 := Lib.hid (bt B4.out b5)
        have C5 := Lib.hid (bt C4.out b5)
        have D5 := Lib.hid (bt D4.out b5)
        clear b5 c0 c1 c2 c3 c4 d0 d1
        obtain ⟨c0, c1, c2, c3, c4⟩ := five_cells C5.out
        obtain ⟨d0, d1, -, -⟩ := two_cells D5.out
        go_wp2
        go_ret
        exact ⟨rfl, B5.out⟩
    · rw [decide_eq_false (fun e => h (Prod.mk.inj e).1), Bool.false_and] at hq
      subst hq
      have q8 : (lt == (t : Int)) = false := by simp; omega
      have q7 : ¬ (t : Int) = lt := fun e => h e.symm
      go_enter Tryz.func126, Tryz.ntmps126
      go_wp2_with fail
      refine (M.out _).mono ?_
      rintro e w1 ⟨rfl, b1⟩
      obtain ⟨c0, c1, c2, c3, c4⟩ := five_cells b1
      have B1 := Lib.hid (bt B0.out b1)
      have C1 := Lib.hid b1
      clear b1
      go_wp2_with fail
      refine (M2.out _ B1.out).mono ?_
      rintro e w2 ⟨rfl, b2⟩
      have B2 := Lib.hid (bt B1.out b2)
      have C2 := Lib.hid (bt C1.out b2)
      clear b2 c0 c1 c2 c3 c4
      obtain ⟨c0, c1, c2, c3, c4⟩ := five_cells C2.out
      go_wp2_with fail
      refine (FI.out _ B2.out).mono ?_
      rintro e w3 ⟨rfl, b3⟩
      have B3 := Lib.hid (bt B2.out b3)
      have C3 := Lib.hid (bt C2.out b3)
      clear b3 c0 c1 c2 c3 c4
      obtain ⟨c0, c1, c2, c3, c4⟩ := five_cells C3.out
      have z3 : w.heap.size < w3.heap.size := by have := C3.out.size; simp at this; omega
      have B3' := Lib.hid (fun o : Obj => B3.out.alloc B3.out.size o)
      have C3' := Lib.hid (fun o : Obj => C3.out.alloc C3.out.size o)
      go_wp2_with fail
      refine (OW.out _).mono ?_
      rintro e w4 ⟨rfl, b4⟩
      have B4 := Lib.hid (bt (B3'.out _) b4)
      have C4 := Lib.hid (bt (C3'.out _) b4)
      have D4 := Lib.hid b4
      clear b4 c0 c1 c2 c3 c4
      obtain ⟨c0, c1, c2, c3, c4⟩ := five_cells C4.out
      obtain ⟨d0, d1, -, -⟩ := two_cells D4.out
      go_wp2
      go_ret
      exact ⟨rfl, B4.out⟩
    · rw [decide_eq_false (fun e => h (Prod.mk.inj e).2), Bool.false_and] at hq
      subst hq
      have q8 : (lr == (r : Int)) = false := by simp; omega
      have q7 : ¬ (r : Int) = lr := fun e => h e.symm
      go_enter Tryz.func126, Tryz.ntmps126
      go_wp2_with fail
      refine (M.out _).mono ?_
      rintro e w1 ⟨rfl, b1⟩
      obtain ⟨c0, c1, c2, c3, c4⟩ := five_cells b1
      have B1 := Lib.hid (bt B0.out b1)
      have C1 := Lib.hid b1
      clear b1
      go_wp2_with fail
      refine (M2.out _ B1.out).mono ?_
      rintro e w2 ⟨rfl, b2⟩
      have B2 := Lib.hid (bt B1.out b2)
      have C2 := Lib.hid (bt C1.out b2)
      clear b2 c0 c1 c2 c3 c4
      obtain ⟨c0, c1, c2, c3, c4⟩ := five_cells C2.out
      go_wp2_with fail
      refine (FI.out _ B2.out).mono ?_
      rintro e w3 ⟨rfl, b3⟩
      have B3 := Lib.hid (bt B2.out b3)
      have C3 := Lib.hid (bt C2.out b3)
      clear b3 c0 c1 c2 c3 c4
      obtain ⟨c0, c1, c2, c3, c4⟩ := five_cells C3.out
      have z3 : w.heap.size < w3.heap.size := by have := C3.out.size; simp at this; omega
      have B3' := Lib.hid (fun o : Obj => B3.out.alloc B3.out.size o)
      have C3' := Lib.hid (fun o : Obj => C3.out.alloc C3.out.size o)
      go_wp2_with fail
      refine (OW.out _).mono ?_
      rintro e w4 ⟨rfl, b4⟩
      have B4 := Lib.hid (bt (B3'.out _) b4)
      have C4 := Lib.hid (bt (C3'.out _) b4)
      have D4 := Lib.hid b4
      clear b4 c0 c1 c2 c3 c4
      obtain ⟨c0, c1, c2, c3, c4⟩ := five_cells C4.out
      obtain ⟨d0, d1, -, -⟩ := two_cells D4.out
      go_wp2
      go_ret
      exact ⟨rfl, B4.out⟩
  · have ho : (decide (k = 1) || decide (k = 2)) = false := by rw [decide_eq_false (by omega), decide_eq_false (by omega)]; rfl
    have hq : (decide (lt < (t : Int)) && decide (p = 0)) = b := by rw [← HK.out]; unfold kindF; rw [if_neg (by omega), if_neg (by omega), if_pos hk3]
    have s5 : ((k : Int) == 1) = false := by simp; omega
    rw [ho] at OW
    clear ho HK
    by_cases h : lt < (t : Int)
    · have s3 : decide ((t : Int) ≤ lt) = false := decide_eq_false (by omega)
      rw [decide_eq_true h, Bool.true_and] at hq
      have q9 : (p == 0) = b := by rw [← hq]; simp [BEq.beq]
      clear hq
      cases b
      all_goals
        go_enter Tryz.func126, Tryz.ntmps126
        go_wp2_with fail
        refine (M.out _).mono ?_
        rintro e w1 ⟨rfl, b1⟩
        obtain ⟨c0, c1, c2, c3, c4⟩ := five_cells b1
        have B1 := Lib.hid (bt B0.out b1)
        have C1 := Lib.hid b1
        clear b1
        go_wp2_with fail
        refine (M2.out _ B1.out).mono ?_
        rintro e w2 ⟨rfl, b2⟩
        have B2 := Lib.hid (bt B1.out b2)
        have C2 := Lib.hid (bt C1.out b2)
        clear b2 c0 c1 c2 c3 c4
        obtain ⟨c0, c1, c2, c3, c4⟩ := five_cells C2.out
        go_wp2_with fail
        refine (FI.out _ B2.out).mono ?_
        rintro e w3 ⟨rfl, b3⟩
        have B3 := Lib.hid (bt B2.out b3)
        have C3 := Lib.hid (bt C2.out b3)
        clear b3 c0 c1 c2 c3 c4
        obtain ⟨c0, c1, c2, c3, c4⟩ := five_cells C3.out
        have z3 : w.heap.size < w3.heap.size := by have := C3.out.size; simp at this; omega
        have B3' := Lib.hid (fun o : Obj => B3.out.alloc B3.out.size o)
        have C3' := Lib.hid (fun o : Obj => C3.out.alloc C3.out.size o)
        go_wp2_with fail
        refine (OW.out _).mono ?_
        rintro e w4 ⟨rfl, b4⟩
        have B4 := Lib.hid (bt (B3'.out _) b4)
        have C4 := Lib.hid (bt (C3'.out _) b4)
        have D4 := Lib.hid b4
        clear b4 c0 c1 c2 c3 c4
        obtain ⟨c0, c1, c2, c3, c4⟩ := five_cells C4.out
        obtain ⟨d0, d1, -, -⟩ := two_cells D4.out
        go_wp2_with fail
        refine (OW.out _).mono ?_
        rintro e w5 ⟨rfl, b5⟩
        have B5 := Lib.hid (bt B4.out b5)
        have C5 := Lib.hid (bt C4.out b5)
        have D5 := Lib.hid (bt D4.out b5)
        clear b5 c0 c1 c2 c3 c4 d0 d1
        obtain ⟨c0, c1, c2, c3, c4⟩ := five_cells C5.out
        obtain ⟨d0, d1, -, -⟩ := two_cells D5.out
        go_wp2
        go_ret
        exact ⟨rfl, B5.out⟩
    · have s3 : decide ((t : Int) ≤ lt) = true := decide_eq_true (by omega)
      rw [decide_eq_false h, Bool.false_and] at hq
      subst hq
      go_enter Tryz.func126, Tryz.ntmps126
      go_wp2_with fail
      refine (M.out _).mono ?_
      rintro e w1 ⟨rfl, b1⟩
      obtain ⟨c0, c1, c2, c3, c4⟩ := five_cells b1
      have B1 := Lib.hid (bt B0.out b1)
      have C1 := Lib.hid b1
      clear b1
      go_wp2_with fail
      refine (M2.out _ B1.out).mono ?_
      rintro e w2 ⟨rfl, b2⟩
      have B2 := Lib.hid (bt B1.out b2)
      have C2 := Lib.hid (bt C1.out b2)
      clear b2 c0 c1 c2 c3 c4
      obtain ⟨c0, c1, c2, c3, c4⟩ := five_cells C2.out
      go_wp2_with fail
      refine (FI.out _ B2.out).mono ?_
      rintro e w3 ⟨rfl, b3⟩
      have B3 := Lib.hid (bt B2.out b3)
      have C3 := Lib.hid (bt C2.out b3)
      clear b3 c0 c1 c2 c3 c4
      obtain ⟨c0, c1, c2, c3, c4⟩ := five_cells C3.out
      have z3 : w.heap.size < w3.heap.size := by have := C3.out.size; simp at this; omega
      have B3' := Lib.hid (fun o : Obj => B3.out.alloc B3.out.size o)
      have C3' := Lib.hid (fun o : Obj => C3.out.alloc C3.out.size o)
      go_wp2_with fail
      refine (OW.out _).mono ?_
      rintro e w4 ⟨rfl, b4⟩
      have B4 := Lib.hid (bt (B3'.out _) b4)
      have C4 := Lib.hid (bt (C3'.out _) b4)
      have D4 := Lib.hid b4
      clear b4 c0 c1 c2 c3 c4
      obtain ⟨c0, c1, c2, c3, c4⟩ := five_cells C4.out
      obtain ⟨d0, d1, -, -⟩ := two_cells D4.out
      go_wp2_with fail
      refine (OW.out _).mono ?_
      rintro e w5 ⟨rfl, b5⟩
      have B5 := Lib.hid (bt B4.out b5)
      have C5 := Lib.hid (bt C4.out b5)
      have D5 := Lib.hid (bt D4.out b5)
      clear b5 c0 c1 c2 c3 c4 d0 d1
      obtain ⟨c0, c1, c2, c3, c4⟩ := five_cells C5.out
      obtain ⟨d0, d1, -, -⟩ := two_cells D5.out
      go_wp2
      go_ret
      exact ⟨rfl, B5.out⟩
end Go.Proofs.YtgjbnbojjgbmcaaGreat.Ops

namespace Go.Proofs.YtgjbnbojjgbmcaaGreat.Bags
open Ops Stamp
theorem findO_at : ∀ {l : List Opn} {a : Id} (k : Nat) (hk : k < l.length), (∀ j (h : j < l.length), j < k → idO (l[j]'h) ≠ a) → idO (l[k]'hk) = a → findO l a = some (l[k]'hk)
  | x :: l, a, 0, _, _, e => by
    unfold findO
    rw [if_pos (show idO x = a from e)]
    rfl
  | x :: l, a, k + 1, hk, hn, e => by
    unfold findO
    rw [if_neg (show ¬ idO x = a from hn 0 (by simp) (by omega))]
    have := findO_at (l := l) (a := a) k (by simpa using hk) (fun j h hj => hn (j + 1) (by simpa using h) (by omega)) e
    exact this
end Go.Proofs.YtgjbnbojjgbmcaaGreat.Bags
