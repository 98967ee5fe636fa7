/- octavoref14.In: what it answers. Conditions: operations that may be, not more than a million; live marks that may be. octavoref14.Is: what it answers. Conditions: an operation that may be; live marks that may be. octavoref13.Where, Begin, All, Of, Ahead, Span: what each answers. Conditions: the slices' cells are operations, runs. octavoref13.Begin, All, Of, Ahead, Span: what each answers. Conditions: the slices' cells are operations, runs. octavoref14.Counting, asked, Homed, Counts, Known, Version: what each answers. Conditions: the slices' cells are operations. octavoref15.Of, Elements, Before, Offset, At: what each answers. Conditions: the slices' cells are operations, runs. -/
import Derived.Test.YtgjbnbojjgbmcaaGreatChecked
import Derived.WalkKit
import Derived.WalkSpells
import Derived.WalkLawsBesides
import Derived.Laws.BytesArg
import Derived.Lib.Hide
import Derived.Deep.LoopGhost
import Derived.Laws.AppendOwnNone
import Derived.Laws.OwnMore
import Derived.WideShapes
import Derived.Maps.AppendAt
import Derived.RegionTactic
import Derived.Deep.RegionHeld3
import Derived.Deep.DrawnRows
import Derived.Deep.QuietTactic
import Derived.BigQuiet
import Derived.IntWalk
import Derived.Deep.DeepCutAuto
import Derived.ScopeJumps
import Derived.Test.YtgjbnbojjgbmcaaGreatProg
import Derived.LoopTactic
import Derived.Laws.EntriesVeiled
import Derived.RowKit
import Derived.Lib.DecodeN
import Derived.Lib.RuneBytes
import Derived.Test.YtgjbnbojjgbmcaaGreatRw
import Derived.Test.YtgjbnbojjgbmcaaGreatPk37
import Derived.Test.YtgjbnbojjgbmcaaGreatPk05
import Derived.Test.YtgjbnbojjgbmcaaGreatPk35
import Derived.Test.YtgjbnbojjgbmcaaGreatPk04
import Derived.Test.YtgjbnbojjgbmcaaGreatPk15
import Derived.Test.YtgjbnbojjgbmcaaGreatPk34
import Derived.Test.YtgjbnbojjgbmcaaGreatPk03
import Derived.Test.YtgjbnbojjgbmcaaGreatPk02
import Derived.Test.YtgjbnbojjgbmcaaGreatPk01
import Derived.Test.YtgjbnbojjgbmcaaGreatPk33
import Derived.Test.YtgjbnbojjgbmcaaGreatPk20
import Derived.Test.YtgjbnbojjgbmcaaGreatPk21
import Derived.Test.YtgjbnbojjgbmcaaGreatPk19
import Derived.Test.YtgjbnbojjgbmcaaGreatPk36
import Derived.Test.YtgjbnbojjgbmcaaGreatPk06

namespace Go.Proofs.YtgjbnbojjgbmcaaGreat.Covers
open Go.RowKit Go.WideShapes Stamp Go.Proofs.YtgjbnbojjgbmcaaGreat.Place Ops Codes Bags Marks Homes
attribute [local go_sem ↓] Go.wp_at_zero Go.wp_at_succ
attribute [local go_sem] yielded_undef
set_option maxRecDepth 100000 in
set_option maxHeartbeats 16000000 in
theorem refIn14_any {v u0 : Value} {l live : List Opn} (s : Id) {w : World} (hv : OpL w v l) (hu : OpL w u0 live) (hl : l.length ≤ 1000000) (hm : ∀ o ∈ l, mayO o = true) (hmm : ∀ o ∈ live, mayO o = true) :
    Calls Tryz.prog 132 #[v, u0, .agg #[.int .u32 (s.t : Int), .int .u8 (s.r : Int)]] w fun e w' => ∃ v', e = .returned v' ∧ OpL w' v' (inL l live s) ∧ Below w.heap.size w w' := by
  obtain ⟨ao, cap, rfl⟩ := hv.shape
  obtain ⟨n, hn⟩ : ∃ n, n = l.length := ⟨_, rfl⟩
  have hnm : n ≤ 1000000 := by omega
  obtain ⟨wl, hwl⟩ : ∃ x, x = w.alloc (.cells #[.int .u32 (s.t : Int), .int .u8 (s.r : Int)] 28) := ⟨_, rfl⟩
  have B0 : Hid (Below w.heap.size w wl) := by rw [hwl]; exact (Below.refl _ _).alloc (Nat.le_refl _) _
  have P0 : Hid (Pair wl w.heap.size (.int .u32 (s.t : Int)) (.int .u8 (s.r : Int))) := by rw [hwl]; exact pair_new _ _ _ _
  have HW := Lib.hid hwl
  have HV : Hid (∀ W : World, Below wl.heap.size wl W → OpL W (.slice ao l.length cap) l) := fun W h => hv.keeps (bt B0.out h)
  have HN := Lib.hid hn
  have HMY := Lib.hid hm
  have HO0 : Hid (∀ (x : Opn) (y : Value) (W : World), x ∈ l → Runs W y x.pl → Below wl.heap.size wl W → Calls Tryz.prog 182 #[u0, y] W fun e w' => e = .returned (.agg #[.int .u32 ((homeM live x.pl).t : Int), .int .u8 ((homeM live x.pl).r : Int)]) ∧ Below W.heap.size W w') := fun x y W hx hy h => refHome_any (hu.keeps (bt B0.out h)) hy hmm (anyB_may (mayO_parts (hm x hx)).2.1)
  have HPQ : Hid (∀ x : Opn, (contB x && decide (homeM live x.pl = s)) = (contB x && decide ((homeM live x.pl).t = s.t ∧ (homeM live x.pl).r = s.r))) := fun x => by
    congr 1
    exact decide_eq_decide.2 Id.eq_iff
  have S0 : Hid (Shr opE 38 wl wl (.slice none 0 0) ((l.take 0).filter (fun o => contB o && decide (homeM live o.pl = s)))) := Shr.nil _ _ _ _
  have M0 : Hid (0 = ((l.take 0).filter (fun o => contB o && decide (homeM live o.pl = s))).length) := rfl
  have Z0 : Hid (Below wl.heap.size wl wl) := Below.refl _ _
  unfold inL
  rw [← hn]
  obtain ⟨PB, hPB⟩ : ∃ PB : Opn → Bool, (fun o => contB o && decide (homeM live o.pl = s)) = PB := ⟨_, rfl⟩
  have HPB : Hid (∀ x, PB x = (contB x && decide ((homeM live x.pl).t = s.t ∧ (homeM live x.pl).r = s.r))) := fun x => by rw [← hPB]; exact HPQ.out x
  rw [hPB] at S0 M0 ⊢
  obtain ⟨ts, rs, hts, hrs⟩ := s
  simp only at P0 HPB HW ⊢
  obtain ⟨au, cu, rfl⟩ := hu.shape
  obtain ⟨nl, hnl⟩ : ∃ nl, live.length = nl := ⟨_, rfl⟩
  rw [hnl] at HO0 ⊢
  clear hv hn hl hm hu hmm hwl HPQ hPB hnl
  go_enter Tryz.func132, Tryz.ntmps132
  go_wp2
  rw [← HW.out]
  go_loopw [7, 8] (fun v i wr => ∃ j m : Nat, j ≤ n ∧ i = .int .i64 (j : Int) ∧ (∃ ao cap, v = .slice ao m cap) ∧ Hid (m = ((l.take j).filter PB).length) ∧ Hid (Shr opE 38 wl wr v ((l.take j).filter PB)) ∧ Hid (Below wl.heap.size wl wr)) (fun _ i _ => n - (intOf i).toNat)
  case atStart => exact ⟨0, 0, by omega, rfl, ⟨none, 0, rfl⟩, M0, S0, Z0⟩
  case round =>
    clear S0 M0 Z0
    obtain ⟨j, m, hj, rfl, ⟨aoL, capL, rfl⟩, HM, hshr, hbel⟩ := hrel
    by_cases hjn : j < n
    rotate_left
    · have q3 : decide (j < n) = false := by simpa using hjn
      have hkk : l.take j = l := List.take_of_length_le (by have := HN.out; omega)
      rw [hkk] at hshr
      have BE := Lib.hid (bt B0.out hbel.out)
      have SE := Lib.hid (hshr.out.seq hbel.out)
      clear hkk
      go_wp2
      go_ret
      exact ⟨_, rfl, SE.out, BE.out⟩
    have q3 : decide (j < n) = true := by simpa using hjn
    have q4 : (0 : Int) ≤ (j : Int) := by omega
    have q5 : (j : Int) < (n : Int) := by omega
    have hjl : j < l.length := by rw [← HN.out]; exact hjn
    obtain ⟨bb, oo, u, e, hbb, hru, h0, h1, h2, h3, h4⟩ := opl_at (HV.out wl (Below.refl _ _)) j hjl
    subst e
    obtain ⟨x, hx⟩ : ∃ x, x = l[j]'hjl := ⟨_, rfl⟩
    rw [← hx] at hru h0 h1 h2 h4
    have HO : Hid (∀ v : Value, opv x v = .agg #[.int .u8 (x.k : Int), .int .u32 (x.t : Int), .int .u8 (x.r : Int), v, .int .i64 x.p]) := fun v => rfl
    replace h0 := ((hbel.out).cell (p := ⟨bb, oo + j * 5, none⟩) hbb).trans h0
    replace h1 := ((hbel.out).cell (p := ⟨bb, oo + j * 5 + 1, none⟩) hbb).trans h1
    replace h2 := ((hbel.out).cell (p := ⟨bb, oo + j * 5 + 2, none⟩) hbb).trans h2
    replace h3 := ((hbel.out).cell (p := ⟨bb, oo + j * 5 + 3, none⟩) hbb).trans h3
    replace h4 := ((hbel.out).cell (p := ⟨bb, oo + j * 5 + 4, none⟩) hbb).trans h4
    have hbo := hbb
    replace hbb := Nat.lt_of_lt_of_le hbb (hbel.out).size
    obtain ⟨uo, uc, rfl⟩ := hru.shape
    obtain ⟨nu, hnu⟩ : ∃ n, n = x.pl.length := ⟨_, rfl⟩
    have HNU := Lib.hid hnu
    rw [← hnu] at hru h3
    clear hnu
    have hxm : x ∈ l := by rw [hx]; exact List.getElem_mem _
    have INN : Hid (opE.inn wl [.int .u8 (x.k : Int), .int .u32 (x.t : Int), .int .u8 (x.r : Int), .slice uo nu uc, .int .i64 x.p] x) := ⟨_, rfl, hru⟩
    have HX : Hid (∀ W : World, Below wr.heap.size wr W → Calls Tryz.prog 182 #[.slice au nl cu, .slice uo nu uc] W fun e w' => e = .returned (.agg #[.int .u32 ((homeM live x.pl).t : Int), .int .u8 ((homeM live x.pl).r : Int)]) ∧ Below W.heap.size W w') := fun W h => HO0.out x _ W hxm (hru.keeps (bt hbel.out h)) (bt hbel.out h)
    have CX : Hid (∀ W : World, Calls Tryz.prog 181 #[opv x (.slice uo nu uc)] W fun e w' => e = .returned (.bool (contB x)) ∧ Below W.heap.size W w') := fun W => refContent_any W
    have FT := Lib.hid (filter_take (P := PB) hjl)
    rw [← hx] at FT
    have PX := HPB.out x
    obtain ⟨q, hq⟩ : ∃ b, contB x = b := ⟨_, rfl⟩
    rw [hq] at CX PX
    obtain ⟨⟨T, R, hT, hR⟩, hh⟩ : ∃ z, homeM live x.pl = z := ⟨_, rfl⟩
    rw [hh] at HX PX
    simp only at HX PX
    clear hx hru hq hh hxm
    obtain ⟨k, hk⟩ : ∃ z, x.k = z := ⟨_, rfl⟩
    obtain ⟨t, ht⟩ : ∃ z, x.t = z := ⟨_, rfl⟩
    obtain ⟨r, hr⟩ : ∃ z, x.r = z := ⟨_, rfl⟩
    obtain ⟨p, hp⟩ : ∃ z, x.p = z := ⟨_, rfl⟩
    rw [hk, ht, hr, hp] at HO
    rw [hk] at h0
    rw [ht] at h1
    rw [hr] at h2
    rw [hp] at h4
    simp only [HO.out] at CX
    rw [hk, ht, hr, hp] at INN
    have F1 : Hid (FiveAt wr bb (oo + j * 5) (.int .u8 (k : Int)) (.int .u32 (t : Int)) (.int .u8 (r : Int)) (.slice uo nu uc) (.int .i64 p)) := ⟨hbb, h0, h1, h2, h3, h4⟩
    have SK : Hid (∀ w' : World, Below wr.heap.size wr w' → Below wr.heap.size wr w' ∧ w'.cell? ⟨bb, oo + j * 5, none⟩ = some (.int .u8 (k : Int)) ∧ w'.cell? ⟨bb, oo + j * 5 + 1, none⟩ = some (.int .u32 (t : Int)) ∧ w'.cell? ⟨bb, oo + j * 5 + 2, none⟩ = some (.int .u8 (r : Int)) ∧ w'.cell? ⟨bb, oo + j * 5 + 3, none⟩ = some (.slice uo nu uc) ∧ w'.cell? ⟨bb, oo + j * 5 + 4, none⟩ = some (.int .i64 p) ∧ w'.cell? ⟨w.heap.size, 0, none⟩ = some (.int .u32 (ts : Int)) ∧ w'.cell? ⟨w.heap.size, 1, none⟩ = some (.int .u8 (rs : Int))) := fun W h => by
      have a1 := (F1.out.keeps h).2
      have a2 := P0.out.keeps (bt hbel.out h)
      exact ⟨h, a1.1, a1.2.1, a1.2.2.1, a1.2.2.2.1, a1.2.2.2.2, a2.2.1, a2.2.2⟩
    clear hk ht hr hp HO h0 h1 h2 h3 h4
    cases q
    · have FN : Hid ((if PB x = true then [x] else []) = []) := if_neg (by rw [PX]; simp)
      clear HX PX HPB HO0 HV P0 HMY
      go_wp2
      refine wp_region_held_drew (S := fun w' => Below wr.heap.size wr w' ∧ w'.cell? ⟨bb, oo + j * 5, none⟩ = some (.int .u8 (k : Int)) ∧ w'.cell? ⟨bb, oo + j * 5 + 1, none⟩ = some (.int .u32 (t : Int)) ∧ w'.cell? ⟨bb, oo + j * 5 + 2, none⟩ = some (.int .u8 (r : Int)) ∧ w'.cell? ⟨bb, oo + j * 5 + 3, none⟩ = some (.slice uo nu uc) ∧ w'.cell? ⟨bb, oo + j * 5 + 4, none⟩ = some (.int .i64 p) ∧ w'.cell? ⟨w.heap.size, 0, none⟩ = some (.int .u32 (ts : Int)) ∧ w'.cell? ⟨w.heap.size, 1, none⟩ = some (.int .u8 (rs : Int))) (by kernel_rfl) (SK.out _ (drew1 _)) (fun hHeld => ?_)
      refine rN 0 ?_
      refine rN 1 ?_
      refine rN 2 ?_
      refine rN 3 ?_
      refine wpAnyH_ready (rs := [4]) (by kernel_rfl) (by simp) ?_
      refine AllReadyH.cons rfl (fun K hK => ?_) ?za4
      case za4 => exact AllReadyH.nil
      go_simp
      refine (CX.out _).mono ?_
      rintro e w9a4 ⟨rfl, b9⟩
      refine hK.out _ _ (SK.out _ (bt hHeld.1 b9)) (fun hNew => ?_)
      clear hHeld
      have hHeld := hNew
      clear hNew hK K
      refine rX ?_
      refine rN 5 ?_
      refine rV 6 ?_
      refine rV 7 ?_
      refine rV 8 ?_
      refine rV 9 ?_
      refine rV 10 ?_
      refine rV 11 ?_
      refine rV 12 ?_
      refine rV 13 ?_
      refine rV 14 ?_
      refine rN 15 ?_
      refine wpAnyH_done (by kernel_rfl) ?_ _
      rw [FN.out, List.append_nil] at FT
      rw [← FT.out] at HM
      have S2 := Lib.hid (hshr.out.keeps hHeld.1)
      rw [← FT.out] at S2
      have B2 := Lib.hid (bt hbel.out hHeld.1)
      clear hHeld hshr hbel F1 SK
      go_wp2
      go_roundw
      case rel => exact ⟨j + 1, m, by omega, by go_num, ⟨aoL, capL, rfl⟩, HM, S2, B2⟩
      case measure => simp [intOf]; omega
    have hne : ¬ T = ts ∨ (T = ts ∧ ¬ R = rs) ∨ (T = ts ∧ R = rs) := by
      by_cases h : T = ts
      · by_cases h2 : R = rs
        · exact .inr (.inr ⟨h, h2⟩)
        · exact .inr (.inl ⟨h, h2⟩)
      · exact .inl h
    rcases hne with hne | ⟨rfl, hne⟩ | ⟨rfl, rfl⟩
    · have FN : Hid ((if PB x = true then [x] else []) = []) := if_neg (by rw [PX]; simp [hne])
      have hi : ¬ ((T : Int) = (ts : Int)) := by omega
      clear PX HPB HO0 HV P0 HMY
      go_wp2
      refine wp_region_held_drew (S := fun w' => Below wr.heap.size wr w' ∧ w'.cell? ⟨bb, oo + j * 5, none⟩ = some (.int .u8 (k : Int)) ∧ w'.cell? ⟨bb, oo + j * 5 + 1, none⟩ = some (.int .u32 (t : Int)) ∧ w'.cell? ⟨bb, oo + j * 5 + 2, none⟩ = some (.int .u8 (r : Int)) ∧ w'.cell? ⟨bb, oo + j * 5 + 3, none⟩ = some (.slice uo nu uc) ∧ w'.cell? ⟨bb, oo + j * 5 + 4, none⟩ = some (.int .i64 p) ∧ w'.cell? ⟨w.heap.size, 0, none⟩ = some (.int .u32 (ts : Int)) ∧ w'.cell? ⟨w.heap.size, 1, none⟩ = some (.int .u8 (rs : Int))) (by kernel_rfl) (SK.out _ (drew1 _)) (fun hHeld => ?_)
      refine rN 0 ?_
      refine rN 1 ?_
      refine rN 2 ?_
      refine rN 3 ?_
      refine wpAnyH_ready (rs := [4]) (by kernel_rfl) (by simp) ?_
      refine AllReadyH.cons rfl (fun K hK => ?_) ?zb4
      case zb4 => exact AllReadyH.nil
      go_simp
      refine (CX.out _).mono ?_
      rintro e w9b4 ⟨rfl, b9⟩
      refine hK.out _ _ (SK.out _ (bt hHeld.1 b9)) (fun hNew => ?_)
      clear hHeld
      have hHeld := hNew
      clear hNew hK K
      refine rX ?_
      refine rN 5 ?_
      refine rN 6 ?_
      refine rN 7 ?_
      refine rN 8 ?_
      refine rN 9 ?_
      refine rN 10 ?_
      refine rN 11 ?_
      refine rN 13 ?_
      refine wpAnyH_ready (rs := [12]) (by kernel_rfl) (by simp) ?_
      refine AllReadyH.cons rfl (fun K hK => ?_) ?zb12
      case zb12 => exact AllReadyH.nil
      go_simp
      refine (HX.out _ hHeld.1).mono ?_
      rintro e w9b12 ⟨rfl, b9⟩
      refine hK.out _ _ (SK.out _ (bt hHeld.1 b9)) (fun hNew => ?_)
      clear hHeld
      have hHeld := hNew
      clear hNew hK K
      refine rX ?_
      refine rN 14 ?_
      refine rN 15 ?_
      refine wpAnyH_done (by kernel_rfl) ?_ _
      rw [FN.out, List.append_nil] at FT
      rw [← FT.out] at HM
      have S2 := Lib.hid (hshr.out.keeps hHeld.1)
      rw [← FT.out] at S2
      have B2 := Lib.hid (bt hbel.out hHeld.1)
      clear hHeld hshr hbel F1 SK
      go_wp2
      go_roundw
      case rel => exact ⟨j + 1, m, by omega, by go_num, ⟨aoL, capL, rfl⟩, HM, S2, B2⟩
      case measure => simp [intOf]; omega
    · have FN : Hid ((if PB x = true then [x] else []) = []) := if_neg (by rw [PX]; simp [hne])
      have hi : ¬ ((R : Int) = (rs : Int)) := by omega
      clear PX HPB HO0 HV P0 HMY
      go_wp2
      refine wp_region_held_drew (S := fun w' => Below wr.heap.size wr w' ∧ w'.cell? ⟨bb, oo + j * 5, none⟩ = some (.int .u8 (k : Int)) ∧ w'.cell? ⟨bb, oo + j * 5 + 1, none⟩ = some (.int .u32 (t : Int)) ∧ w'.cell? ⟨bb, oo + j * 5 + 2, none⟩ = some (.int .u8 (r : Int)) ∧ w'.cell? ⟨bb, oo + j * 5 + 3, none⟩ = some (.slice uo nu uc) ∧ w'.cell? ⟨bb, oo + j * 5 + 4, none⟩ = some (.int .i64 p) ∧ w'.cell? ⟨w.heap.size, 0, none⟩ = some (.int .u32 (T : Int)) ∧ w'.cell? ⟨w.heap.size, 1, none⟩ = some (.int .u8 (rs : Int))) (by kernel_rfl) (SK.out _ (drew1 _)) (fun hHeld => ?_)
      refine rN 0 ?_
      refine rN 1 ?_
      refine rN 2 ?_
      refine rN 3 ?_
      refine wpAnyH_ready (rs := [4]) (by kernel_rfl) (by simp) ?_
      refine AllReadyH.cons rfl (fun K hK => ?_) ?zc4
      case zc4 => exact AllReadyH.nil
      go_simp
      refine (CX.out _).mono ?_
      rintro e w9c4 ⟨rfl, b9⟩
      refine hK.out _ _ (SK.out _ (bt hHeld.1 b9)) (fun hNew => ?_)
      clear hHeld
      have hHeld := hNew
      clear hNew hK K
      refine rX ?_
      refine rN 5 ?_
      refine rN 6 ?_
      refine rN 7 ?_
      refine rN 8 ?_
      refine rN 9 ?_
      refine rN 10 ?_
      refine rN 11 ?_
      refine rN 13 ?_
      refine wpAnyH_ready (rs := [12]) (by kernel_rfl) (by simp) ?_
      refine AllReadyH.cons rfl (fun K hK => ?_) ?zc12
      case zc12 => exact AllReadyH.nil
      go_simp
      refine (HX.out _ hHeld.1).mono ?_
      rintro e w9c12 ⟨rfl, b9⟩
      refine hK.out _ _ (SK.out _ (bt hHeld.1 b9)) (fun hNew => ?_)
      clear hHeld
      have hHeld := hNew
      clear hNew hK K
      refine rX ?_
      refine rN 14 ?_
      refine rN 15 ?_
      refine wpAnyH_done (by kernel_rfl) ?_ _
      rw [FN.out, List.append_nil] at FT
      rw [← FT.out] at HM
      have S2 := Lib.hid (hshr.out.keeps hHeld.1)
      rw [← FT.out] at S2
      have B2 := Lib.hid (bt hbel.out hHeld.1)
      clear hHeld hshr hbel F1 SK
      go_wp2
      go_roundw
      case rel => exact ⟨j + 1, m, by omega, by go_num, ⟨aoL, capL, rfl⟩, HM, S2, B2⟩
      case measure => simp [intOf]; omega
    · have FN : Hid ((if PB x = true then [x] else []) = [x]) := if_pos (by rw [PX]; simp)
      clear PX HPB HO0 HV P0 HMY
      go_wp2
      refine wp_region_held_drew (S := fun w' => Below wr.heap.size wr w' ∧ w'.cell? ⟨bb, oo + j * 5, none⟩ = some (.int .u8 (k : Int)) ∧ w'.cell? ⟨bb, oo + j * 5 + 1, none⟩ = some (.int .u32 (t : Int)) ∧ w'.cell? ⟨bb, oo + j * 5 + 2, none⟩ = some (.int .u8 (r : Int)) ∧ w'.cell? ⟨bb, oo + j * 5 + 3, none⟩ = some (.slice uo nu uc) ∧ w'.cell? ⟨bb, oo + j * 5 + 4, none⟩ = some (.int .i64 p) ∧ w'.cell? ⟨w.heap.size, 0, none⟩ = some (.int .u32 (T : Int)) ∧ w'.cell? ⟨w.heap.size, 1, none⟩ = some (.int .u8 (R : Int))) (by kernel_rfl) (SK.out _ (drew1 _)) (fun hHeld => ?_)
      refine rN 0 ?_
      refine rN 1 ?_
      refine rN 2 ?_
      refine rN 3 ?_
      refine wpAnyH_ready (rs := [4]) (by kernel_rfl) (by simp) ?_
      refine AllReadyH.cons rfl (fun K hK => ?_) ?zd4
      case zd4 => exact AllReadyH.nil
      go_simp
      refine (CX.out _).mono ?_
      rintro e w9d4 ⟨rfl, b9⟩
      refine hK.out _ _ (SK.out _ (bt hHeld.1 b9)) (fun hNew => ?_)
      clear hHeld
      have hHeld := hNew
      clear hNew hK K
      refine rX ?_
      refine rN 5 ?_
      refine rN 6 ?_
      refine rN 7 ?_
      refine rN 8 ?_
      refine rN 9 ?_
      refine rN 10 ?_
      refine rN 11 ?_
      refine rN 13 ?_
      refine wpAnyH_ready (rs := [12]) (by kernel_rfl) (by simp) ?_
      refine AllReadyH.cons rfl (fun K hK => ?_) ?zd12
      case zd12 => exact AllReadyH.nil
      go_simp
      refine (HX.out _ hHeld.1).mono ?_
      rintro e w9d12 ⟨rfl, b9⟩
      refine hK.out _ _ (SK.out _ (bt hHeld.1 b9)) (fun hNew => ?_)
      clear hHeld
      have hHeld := hNew
      clear hNew hK K
      refine rX ?_
      refine rN 14 ?_
      refine rN 15 ?_
      refine wpAnyH_done (by kernel_rfl) ?_ _
      rw [FN.out] at FT
      have S2 := Lib.hid (hshr.out.keeps hHeld.1)
      have B2 := Lib.hid (bt hbel.out hHeld.1)
      have HZ := Lib.hid B2.out.size
      have hll := filter_take_len (P := PB) (l := l) j
      have HMM := Lib.hid (show (m + 1) * 48 ≤ 140737488355328 ∧ m ≤ 1000000000000 by have := HM.out; have := HN.out; omega)
      obtain ⟨h0, h1, h2, h3, h4⟩ := (F1.out.keeps hHeld.1).2
      clear hHeld hshr hll F1 SK
      go_wp2_with (at_builtin; refine wpList_append_enc (E := opE) Tryz.underlying22 op_info rfl (w0 := wl) (wp := w9d12) (by rfl) (.tmp 31) (.tmp 36) (by rfl) (by rfl) S2.out (G := w9d12.heap.size) (by rfl) rfl (c := #[.int .u8 (k : Int), .int .u32 (t : Int), .int .u8 (r : Int), .slice uo nu uc, .int .i64 p]) INN.out HM.out HMM.out.1 HMM.out.2 HZ.out ?_)
      rintro v6 w6 s6 va vc rfl b6
      have S6 := Lib.hid s6
      rw [← FT.out] at S6
      have M6 : Hid (m + 1 = ((l.take (j + 1)).filter PB).length) := by unfold Hid; rw [FT.out, List.length_append, ← HM.out]; rfl
      have B6 := Lib.hid (B2.out.trans b6)
      clear s6 b6 S2 B2 h0 h1 h2 h3 h4 FT HM FN hbel
      go_wp2
      go_roundw
      case rel => exact ⟨j + 1, m + 1, by omega, by go_num, ⟨va, vc, rfl⟩, M6, S6, B6⟩
      case measure => simp [intOf]; omega
end Go.Proofs.YtgjbnbojjgbmcaaGreat.Covers

namespace Go.Proofs.YtgjbnbojjgbmcaaGreat.Covers
open Go.RowKit Go.WideShapes Stamp Go.Proofs.YtgjbnbojjgbmcaaGreat.Place Ops Codes Bags Marks Homes
attribute [local go_sem ↓] Go.wp_at_zero Go.wp_at_succ
attribute [local go_sem] yielded_undef
theorem refFinal_may {v : Value} {q : List Run} {w : World} (hv : Runs w v q) (hm : mayB q = true) :
    Calls Tryz.prog 97 #[v] w fun e w' => e = .returned (.agg #[.int .u32 (lastV q).1, .int .u8 (lastV q).2]) ∧ Below w.heap.size w w' := by
  have hM := (mayB_iff q).1 hm
  have h1 := chain_one hM.2.2.1 (k := q.length - 1) (by have := hM.1; omega)
  have := final_any hv (k := q.length - 1) (by have := hM.1; omega) rfl h1 (by have := hM.2.1; omega)
  unfold lastV
  rw [if_pos hm]
  exact this
set_option maxRecDepth 100000 in
set_option maxHeartbeats 16000000 in
theorem refIs14_any {v u0 y : Value} {l live : List Opn} (s : Id) {o : Opn} {w : World} (hv : OpL w v l) (hu : OpL w u0 live) (hy : Runs w y o.pl) (ho : mayO o = true) (hmm : ∀ o ∈ live, mayO o = true) :
    Calls Tryz.prog 133 #[v, u0, .agg #[.int .u32 (s.t : Int), .int .u8 (s.r : Int)], opv o y] w fun e w' => e = .returned (.bool (isB l live s o)) ∧ Below w.heap.size w w' := by
  have hmo := (mayO_parts ho).2.1
  have hMo := (mayB_iff _).1 hmo
  obtain ⟨wb, hwb⟩ : ∃ x, x = w.alloc (.cells #[.int .u32 (s.t : Int), .int .u8 (s.r : Int)] 28) := ⟨_, rfl⟩
  obtain ⟨wl, hwl⟩ : ∃ x, x = wb.alloc (.cells #[.int .u8 (o.k : Int), .int .u32 (o.t : Int), .int .u8 (o.r : Int), y, .int .i64 o.p] 38) := ⟨_, rfl⟩
  have hsz : wb.heap.size = w.heap.size + 1 := by rw [hwb]; exact Array.size_push _
  have Bb : Below w.heap.size w wb := by rw [hwb]; exact (Below.refl _ _).alloc (Nat.le_refl _) _
  have Bbl : Below wb.heap.size wb wl := by rw [hwl]; exact (Below.refl _ _).alloc (Nat.le_refl _) _
  have B0 : Hid (Below w.heap.size w wl) := bt Bb Bbl
  have P0 : Hid (Pair wl w.heap.size (.int .u32 (s.t : Int)) (.int .u8 (s.r : Int))) := by
    have : Pair wb w.heap.size (.int .u32 (s.t : Int)) (.int .u8 (s.r : Int)) := by rw [hwb]; exact pair_new _ _ _ _
    exact this.keeps Bbl
  have O0 : Hid (wl.heap[w.heap.size + 1]? = some (.cells #[.int .u8 (o.k : Int), .int .u32 (o.t : Int), .int .u8 (o.r : Int), y, .int .i64 o.p] 38)) := by rw [hwl, ← hsz]; exact blk_new rfl
  have HW : Hid (wl = (w.alloc (.cells #[.int .u32 (s.t : Int), .int .u8 (s.r : Int)] 28)).alloc (.cells #[.int .u8 (o.k : Int), .int .u32 (o.t : Int), .int .u8 (o.r : Int), y, .int .i64 o.p] 38)) := by rw [hwl, hwb]; rfl
  have MA : Hid (∀ W : World, Below wl.heap.size wl W → Calls Tryz.prog 183 #[opv o y] W fun e w' => e = .returned (.int .i64 ((manyN o : Nat) : Int)) ∧ Below W.heap.size W w') := fun W h => refMany_any (hy.keeps (bt B0.out h)) hmo
  have CU : Hid (∀ (W : World) (j : Nat), Below wl.heap.size wl W → j ≤ 5000 → Calls Tryz.prog 184 #[y, .int .i64 (j : Int)] W fun e w' => ∃ v', e = .returned v' ∧ Runs w' v' (cutN o.pl j) ∧ Below W.heap.size W w') := fun W j h hj => refCut_any (hy.keeps (bt B0.out h)) hMo.2.2.1 (by have := hMo.2.1; omega) j hj
  have HO0 : Hid (∀ (W : World) (z : Value) (j : Nat), Below wl.heap.size wl W → Runs W z (cutN o.pl j) → Calls Tryz.prog 182 #[u0, z] W fun e w' => e = .returned (.agg #[.int .u32 ((homeM live (cutN o.pl j)).t : Int), .int .u8 ((homeM live (cutN o.pl j)).r : Int)]) ∧ Below W.heap.size W w') := fun W z j h hz => refHome_any (hu.keeps (bt B0.out h)) hz hmm (any_cutN hmo)
  have FI : Hid (∀ (W : World) (z : Value) (j : Nat), j < manyN o → Runs W z (cutN o.pl (j + 1)) → Calls Tryz.prog 97 #[z] W fun e w' => e = .returned (.agg #[.int .u32 (((all o.pl).getD j zid).t : Int), .int .u8 (((all o.pl).getD j zid).r : Int)]) ∧ Below W.heap.size W w') := fun W z j hj hz => by
    have := refFinal_may hz (may_cutN hmo (by omega))
    rw [last_cutN hmo (by unfold manyN at hj; omega)] at this
    exact this
  have HA : Hid (∀ (W : World) (a : Id), Below wl.heap.size wl W → Calls Tryz.prog 185 #[v, .agg #[.int .u32 (a.t : Int), .int .u8 (a.r : Int)]] W fun e w' => e = .returned (.bool (hasO l a)) ∧ Below W.heap.size W w') := fun W a h => refHasO_any a (hv.keeps (bt B0.out h))
  have HI : Hid (isB l live s o = true ↔ ∀ k, k < manyN o → homeM live (cutN o.pl (k + 1)) = s → hasO l ((all o.pl).getD k zid) = true) := isB_iff
  have hmn : manyN o ≤ 4096 := Nat.le_trans (Nat.sub_le _ _) (all_pos hmo).2.1
  obtain ⟨ao, cap, rfl⟩ := hv.shape
  obtain ⟨au, cu, rfl⟩ := hu.shape
  obtain ⟨yo, yc, rfl⟩ := hy.shape
  have HOV : Hid (∀ v : Value, opv o v = .agg #[.int .u8 (o.k : Int), .int .u32 (o.t : Int), .int .u8 (o.r : Int), v, .int .i64 o.p]) := fun v => rfl
  obtain ⟨n, hn⟩ : ∃ n, l.length = n := ⟨_, rfl⟩
  obtain ⟨nl, hnl⟩ : ∃ n, live.length = n := ⟨_, rfl⟩
  obtain ⟨ny, hny⟩ : ∃ n, o.pl.length = n := ⟨_, rfl⟩
  obtain ⟨M, hM⟩ : ∃ M, manyN o = M := ⟨_, rfl⟩
  rw [hn] at HA ⊢
  rw [hnl] at HO0 ⊢
  rw [hny] at MA CU O0 HW ⊢
  rw [hM] at MA FI HI hmn
  obtain ⟨I, hI⟩ : ∃ I, isB l live s o = I := ⟨_, rfl⟩
  rw [hI] at HI ⊢
  obtain ⟨hf, hhf⟩ : ∃ hf : Nat → Id, hf = fun j => homeM live (cutN o.pl j) := ⟨_, rfl⟩
  have HO1 : Hid (∀ (W : World) (z : Value) (j : Nat), Below wl.heap.size wl W → Runs W z (cutN o.pl j) → Calls Tryz.prog 182 #[.slice au nl cu, z] W fun e w' => e = .returned (.agg #[.int .u32 ((hf j).t : Int), .int .u8 ((hf j).r : Int)]) ∧ Below W.heap.size W w') := by rw [hhf]; exact HO0.out
  have HI1 : Hid (I = true ↔ ∀ k, k < M → ((hf (k + 1)).t = s.t ∧ (hf (k + 1)).r = s.r) → hasO l ((all o.pl).getD k zid) = true) := by
    unfold Hid
    rw [HI.out, hhf]
    constructor
    · intro h k hk e; exact h k hk (Id.eq_iff.2 e)
    · intro h k hk e; exact h k hk (Id.eq_iff.1 e)
  obtain ⟨af, haf⟩ : ∃ af : Nat → Id, af = fun k => (all o.pl).getD k zid := ⟨_, rfl⟩
  have FI1 : Hid (∀ (W : World) (z : Value) (j : Nat), j < M → Runs W z (cutN o.pl (j + 1)) → Calls Tryz.prog 97 #[z] W fun e w' => e = .returned (.agg #[.int .u32 ((af j).t : Int), .int .u8 ((af j).r : Int)]) ∧ Below W.heap.size W w') := by rw [haf]; exact FI.out
  have HI2 : Hid (I = true ↔ ∀ k, k < M → ((hf (k + 1)).t = s.t ∧ (hf (k + 1)).r = s.r) → hasO l (af k) = true) := by rw [haf]; exact HI1.out
  rw [HOV.out] at MA ⊢
  obtain ⟨ts, rs, hts, hrs⟩ := s
  simp only at P0 HI2 HW ⊢
  clear hv hu hy ho hmm hmo hMo hwb hwl hsz Bb Bbl hn hnl hny hM hI hhf haf HO0 HI HI1 FI
  obtain ⟨k, hk⟩ : ∃ z, o.k = z := ⟨_, rfl⟩
  obtain ⟨t, ht⟩ : ∃ z, o.t = z := ⟨_, rfl⟩
  obtain ⟨r, hr⟩ : ∃ z, o.r = z := ⟨_, rfl⟩
  obtain ⟨p, hp⟩ : ∃ z, o.p = z := ⟨_, rfl⟩
  rw [hk, ht, hr, hp] at MA O0 HW ⊢
  clear hk ht hr hp HOV
  have Z0 : Hid (Below wl.heap.size wl wl) := Below.refl _ _
  have hb0 : Hid (∀ i, i + 1 < 1 → ((hf (i + 1)).t = ts ∧ (hf (i + 1)).r = rs) → hasO l (af i) = true) := fun i hi => by omega
  go_enter Tryz.func133, Tryz.ntmps133
  go_wp2
  rw [← HW.out]
  go_loopw [9] (fun i wr => ∃ j : Nat, 1 ≤ j ∧ j ≤ M + 1 ∧ i = .int .i64 (j : Int) ∧ Hid (∀ i, i + 1 < j → ((hf (i + 1)).t = ts ∧ (hf (i + 1)).r = rs) → hasO l (af i) = true) ∧ Hid (Below wl.heap.size wl wr)) (fun i _ => M + 1 - (intOf i).toNat)
  case atStart => exact ⟨1, by omega, by omega, rfl, hb0, Z0⟩
  case round =>
    clear Z0 hb0
    obtain ⟨j, hj1, hj, rfl, hall, hbel⟩ := hrel
    have O1 := blk_below hbel.out O0.out
    obtain ⟨x0, x1, x2, x3, x4⟩ := cells5 O1
    clear O1
    go_wp2_with fail
    refine (MA.out _ hbel.out).mono ?_
    rintro e w1 ⟨rfl, b1⟩
    have B1 := Lib.hid (bt hbel.out b1)
    clear b1 x0 x1 x2 x3 x4 hbel
    by_cases hjM : j ≤ M
    rotate_left
    · have q3 : decide ((j : Int) ≤ (M : Int)) = false := decide_eq_false (by omega)
      have q3' : decide (j ≤ M) = false := decide_eq_false hjM
      obtain rfl : I = true := HI2.out.2 (fun i hi => hall.out i (by omega))
      have BE := Lib.hid (bt B0.out B1.out)
      clear HI2 hall MA CU HO1 FI1 HA
      go_wp2
      go_ret
      exact ⟨rfl, BE.out⟩
    have q3 : decide ((j : Int) ≤ (M : Int)) = true := decide_eq_true (by omega)
    have q3' : decide (j ≤ M) = true := decide_eq_true hjM
    obtain ⟨x0, x1, x2, x3, x4⟩ := cells5 (blk_below B1.out O0.out)
    go_wp2_with fail
    refine (CU.out _ j B1.out (by omega)).mono ?_
    rintro e w2 ⟨vp, rfl, r2, b2⟩
    obtain ⟨i, rfl⟩ : ∃ i, j = i + 1 := ⟨j - 1, by omega⟩
    have B2 := Lib.hid (bt B1.out b2)
    have R2 : Hid (∀ W : World, Below w2.heap.size w2 W → Runs W vp (cutN o.pl (i + 1))) := fun W h => r2.keeps h
    have HX : Hid (∀ W : World, Below w2.heap.size w2 W → Calls Tryz.prog 182 #[.slice au nl cu, vp] W fun e w' => e = .returned (.agg #[.int .u32 ((hf (i + 1)).t : Int), .int .u8 ((hf (i + 1)).r : Int)]) ∧ Below W.heap.size W w') := fun W h => HO1.out W vp (i + 1) (bt B2.out h) (R2.out W h)
    have FX : Hid (∀ W : World, Below w2.heap.size w2 W → Calls Tryz.prog 97 #[vp] W fun e w' => e = .returned (.agg #[.int .u32 ((af i).t : Int), .int .u8 ((af i).r : Int)]) ∧ Below W.heap.size W w') := fun W h => FI1.out W vp i (by omega) (R2.out W h)
    have AX : Hid (∀ W : World, Below w2.heap.size w2 W → Calls Tryz.prog 185 #[.slice ao n cap, .agg #[.int .u32 ((af i).t : Int), .int .u8 ((af i).r : Int)]] W fun e w' => e = .returned (.bool (hasO l (af i))) ∧ Below W.heap.size W w') := fun W h => HA.out W (af i) (bt B2.out h)
    obtain ⟨vpo, vpc, rfl⟩ := r2.shape
    obtain ⟨np, hnp⟩ : ∃ n, (cutN o.pl (i + 1)).length = n := ⟨_, rfl⟩
    rw [hnp] at HX FX ⊢
    have SK : Hid (∀ w' : World, Below w2.heap.size w2 w' → Below w2.heap.size w2 w' ∧ w'.cell? ⟨w.heap.size, 0, none⟩ = some (.int .u32 (ts : Int)) ∧ w'.cell? ⟨w.heap.size, 1, none⟩ = some (.int .u8 (rs : Int))) := fun W h => by
      have a2 := P0.out.keeps (bt B2.out h)
      exact ⟨h, a2.2.1, a2.2.2⟩
    have HST : Hid (((hf (i + 1)).t = ts ∧ (hf (i + 1)).r = rs → hasO l (af i) = true) → ∀ i2, i2 + 1 < i + 1 + 1 → ((hf (i2 + 1)).t = ts ∧ (hf (i2 + 1)).r = rs) → hasO l (af i2) = true) := fun h i2 h2 h3 => by
      by_cases e : i2 = i
      · subst e; exact h h3
      · exact hall.out i2 (by omega) h3
    have HNO : Hid ((hf (i + 1)).t = ts → (hf (i + 1)).r = rs → hasO l (af i) = false → I = false) := fun h1 h2 h3 => by
      cases hI : I
      · rfl
      · have := HI2.out.1 hI i (by omega) ⟨h1, h2⟩
        rw [h3] at this
        cases this
    obtain ⟨⟨T, R, hT, hR⟩, hh⟩ : ∃ z, hf (i + 1) = z := ⟨_, rfl⟩
    rw [hh] at HX HST HNO
    obtain ⟨⟨fT, fR, hfT, hfR⟩, hfa⟩ : ∃ z, af i = z := ⟨_, rfl⟩
    rw [hfa] at FX AX HST HNO
    simp only at HX FX AX HST HNO
    obtain ⟨b, hb⟩ : ∃ b, hasO l ⟨fT, fR, hfT, hfR⟩ = b := ⟨_, rfl⟩
    rw [hb] at AX HNO
    have HB := Lib.hid hb
    have ei : ((i + 1 : Nat) : Int) = (i : Int) + 1 := by omega
    clear b2 r2 x0 x1 x2 x3 x4 hall HI2 MA CU HO1 FI1 HA hh hfa hb R2 hnp
    have hne : ¬ T = ts ∨ (T = ts ∧ ¬ R = rs) ∨ (T = ts ∧ R = rs) := by
      by_cases h : T = ts
      · by_cases h2 : R = rs
        · exact .inr (.inr ⟨h, h2⟩)
        · exact .inr (.inl ⟨h, h2⟩)
      · exact .inl h
    rcases hne with hne | ⟨rfl, hne⟩ | ⟨rfl, rfl⟩
    · have hi : ¬ ((T : Int) = (ts : Int)) := by omega
      have NO := Lib.hid (HST.out (fun h => absurd h.1 hne))
      clear HST HNO HB FX AX
      go_wp2
      refine wp_region_held_drew (S := fun w' => Below w2.heap.size w2 w' ∧ w'.cell? ⟨w.heap.size, 0, none⟩ = some (.int .u32 (ts : Int)) ∧ w'.cell? ⟨w.heap.size, 1, none⟩ = some (.int .u8 (rs : Int))) (by kernel_rfl) (SK.out _ (drew1 _)) (fun hHeld => ?_)
      refine rN 0 ?_
      refine rN 1 ?_
      refine rN 3 ?_
      refine wpAnyH_ready (rs := [2]) (by kernel_rfl) (by simp) ?_
      refine AllReadyH.cons rfl (fun K hK => ?_) ?za2
      case za2 => exact AllReadyH.nil
      go_simp
      refine (HX.out _ hHeld.1).mono ?_
      rintro e w9a2 ⟨rfl, b9⟩
      refine hK.out _ _ (SK.out _ (bt hHeld.1 b9)) (fun hNew => ?_)
      clear hHeld
      have hHeld := hNew
      clear hNew hK K
      refine rX ?_
      refine rN 4 ?_
      refine rN 5 ?_
      refine rV 6 ?_
      refine rV 7 ?_
      refine rV 8 ?_
      refine rV 9 ?_
      refine rV 10 ?_
      refine rN 11 ?_
      refine wpAnyH_done (by kernel_rfl) ?_ _
      have BD := Lib.hid (bt B2.out hHeld.1)
      clear hHeld
      go_wp2
      go_roundw
      case rel => exact ⟨i + 1 + 1, by omega, by omega, by go_num, NO, BD⟩
      case measure => simp [intOf]; omega
    · have hi : ¬ ((R : Int) = (rs : Int)) := by omega
      have NO := Lib.hid (HST.out (fun h => absurd h.2 hne))
      clear HST HNO HB FX AX
      go_wp2
      refine wp_region_held_drew (S := fun w' => Below w2.heap.size w2 w' ∧ w'.cell? ⟨w.heap.size, 0, none⟩ = some (.int .u32 (T : Int)) ∧ w'.cell? ⟨w.heap.size, 1, none⟩ = some (.int .u8 (rs : Int))) (by kernel_rfl) (SK.out _ (drew1 _)) (fun hHeld => ?_)
      refine rN 0 ?_
      refine rN 1 ?_
      refine rN 3 ?_
      refine wpAnyH_ready (rs := [2]) (by kernel_rfl) (by simp) ?_
      refine AllReadyH.cons rfl (fun K hK => ?_) ?zb2
      case zb2 => exact AllReadyH.nil
      go_simp
      refine (HX.out _ hHeld.1).mono ?_
      rintro e w9b2 ⟨rfl, b9⟩
      refine hK.out _ _ (SK.out _ (bt hHeld.1 b9)) (fun hNew => ?_)
      clear hHeld
      have hHeld := hNew
      clear hNew hK K
      refine rX ?_
      refine rN 4 ?_
      refine rN 5 ?_
      refine rV 6 ?_
      refine rV 7 ?_
      refine rV 8 ?_
      refine rV 9 ?_
      refine rV 10 ?_
      refine rN 11 ?_
      refine wpAnyH_done (by kernel_rfl) ?_ _
      have BD := Lib.hid (bt B2.out hHeld.1)
      clear hHeld
      go_wp2
      go_roundw
      case rel => exact ⟨i + 1 + 1, by omega, by omega, by go_num, NO, BD⟩
      case measure => simp [intOf]; omega
    cases b
    · obtain rfl := HNO.out rfl rfl rfl
      clear HST HNO HB
      go_wp2
      refine wp_region_held_drew (S := fun w' => Below w2.heap.size w2 w' ∧ w'.cell? ⟨w.heap.size, 0, none⟩ = some (.int .u32 (T : Int)) ∧ w'.cell? ⟨w.heap.size, 1, none⟩ = some (.int .u8 (R : Int))) (by kernel_rfl) (SK.out _ (drew1 _)) (fun hHeld => ?_)
      refine rN 0 ?_
      refine rN 1 ?_
      refine rN 3 ?_
      refine wpAnyH_ready (rs := [2]) (by kernel_rfl) (by simp) ?_
      refine AllReadyH.cons rfl (fun K hK => ?_) ?zc2
      case zc2 => exact AllReadyH.nil
      go_simp
      refine (HX.out _ hHeld.1).mono ?_
      rintro e w9c2 ⟨rfl, b9⟩
      refine hK.out _ _ (SK.out _ (bt hHeld.1 b9)) (fun hNew => ?_)
      clear hHeld
      have hHeld := hNew
      clear hNew hK K
      refine rX ?_
      refine rN 4 ?_
      refine rN 5 ?_
      refine rN 6 ?_
      refine rN 7 ?_
      refine wpAnyH_ready (rs := [8]) (by kernel_rfl) (by simp) ?_
      refine AllReadyH.cons rfl (fun K hK => ?_) ?zc8
      case zc8 => exact AllReadyH.nil
      go_simp
      refine (FX.out _ hHeld.1).mono ?_
      rintro e w9c8 ⟨rfl, b9⟩
      refine hK.out _ _ (SK.out _ (bt hHeld.1 b9)) (fun hNew => ?_)
      clear hHeld
      have hHeld := hNew
      clear hNew hK K
      refine rX ?_
      refine wpAnyH_ready (rs := [9]) (by kernel_rfl) (by simp) ?_
      refine AllReadyH.cons rfl (fun K hK => ?_) ?zc9
      case zc9 => exact AllReadyH.nil
      go_simp
      refine (AX.out _ hHeld.1).mono ?_
      rintro e w9c9 ⟨rfl, b9⟩
      refine hK.out _ _ (SK.out _ (bt hHeld.1 b9)) (fun hNew => ?_)
      clear hHeld
      have hHeld := hNew
      clear hNew hK K
      refine rX ?_
      refine rN 10 ?_
      refine rN 11 ?_
      refine wpAnyH_done (by kernel_rfl) ?_ _
      have BE := Lib.hid (bt B0.out (bt B2.out hHeld.1))
      clear hHeld
      go_wp2
      go_ret
      exact ⟨rfl, BE.out⟩
    have NO := Lib.hid (HST.out (fun _ => HB.out))
    clear HST HNO HB
    go_wp2
    refine wp_region_held_drew (S := fun w' => Below w2.heap.size w2 w' ∧ w'.cell? ⟨w.heap.size, 0, none⟩ = some (.int .u32 (T : Int)) ∧ w'.cell? ⟨w.heap.size, 1, none⟩ = some (.int .u8 (R : Int))) (by kernel_rfl) (SK.out _ (drew1 _)) (fun hHeld => ?_)
    refine rN 0 ?_
    refine rN 1 ?_
    refine rN 3 ?_
    refine wpAnyH_ready (rs := [2]) (by kernel_rfl) (by simp) ?_
    refine AllReadyH.cons rfl (fun K hK => ?_) ?zd2
    case zd2 => exact AllReadyH.nil
    go_simp
    refine (HX.out _ hHeld.1).mono ?_
    rintro e w9d2 ⟨rfl, b9⟩
    refine hK.out _ _ (SK.out _ (bt hHeld.1 b9)) (fun hNew => ?_)
    clear hHeld
    have hHeld := hNew
    clear hNew hK K
    refine rX ?_
    refine rN 4 ?_
    refine rN 5 ?_
    refine rN 6 ?_
    refine rN 7 ?_
    refine wpAnyH_ready (rs := [8]) (by kernel_rfl) (by simp) ?_
    refine AllReadyH.cons rfl (fun K hK => ?_) ?zd8
    case zd8 => exact AllReadyH.nil
    go_simp
    refine (FX.out _ hHeld.1).mono ?_
    rintro e w9d8 ⟨rfl, b9⟩
    refine hK.out _ _ (SK.out _ (bt hHeld.1 b9)) (fun hNew => ?_)
    clear hHeld
    have hHeld := hNew
    clear hNew hK K
    refine rX ?_
    refine wpAnyH_ready (rs := [9]) (by kernel_rfl) (by simp) ?_
    refine AllReadyH.cons rfl (fun K hK => ?_) ?zd9
    case zd9 => exact AllReadyH.nil
    go_simp
    refine (AX.out _ hHeld.1).mono ?_
    rintro e w9d9 ⟨rfl, b9⟩
    refine hK.out _ _ (SK.out _ (bt hHeld.1 b9)) (fun hNew => ?_)
    clear hHeld
    have hHeld := hNew
    clear hNew hK K
    refine rX ?_
    refine rN 10 ?_
    refine rN 11 ?_
    refine wpAnyH_done (by kernel_rfl) ?_ _
    have BD := Lib.hid (bt B2.out hHeld.1)
    clear hHeld
    go_wp2
    go_roundw
    case rel => exact ⟨i + 1 + 1, by omega, by omega, by go_num, NO, BD⟩
    case measure => simp [intOf]; omega
end Go.Proofs.YtgjbnbojjgbmcaaGreat.Covers

namespace Go.Proofs.YtgjbnbojjgbmcaaGreat.Homes
open Go.RowKit Go.WideShapes Stamp Go.Proofs.YtgjbnbojjgbmcaaGreat.Place Ops Codes Bags Marks
attribute [local go_sem ↓] Go.wp_at_zero Go.wp_at_succ
attribute [local go_sem] yielded_undef
set_option maxRecDepth 100000 in
set_option maxHeartbeats 4000000 in
theorem refWhere_any {v : Value} {live : List Opn} (s : Id) {w : World} (hv : OpL w v live) (hl : live.length ≤ 1000000) :
    Calls Tryz.prog 52 #[v, .agg #[.int .u32 (s.t : Int), .int .u8 (s.r : Int)]] w fun e w' => e = .returned (.int .i64 (whereM live s)) ∧ Below w.heap.size w w' := by
  have B0 : Hid (Below w.heap.size w (w.alloc (.cells #[.int .u32 (s.t : Int), .int .u8 (s.r : Int)] 28))) := (Below.refl _ _).alloc (Nat.le_refl _) _
  have P0 : Hid (Pair (w.alloc (.cells #[.int .u32 (s.t : Int), .int .u8 (s.r : Int)] 28)) w.heap.size (.int .u32 (s.t : Int)) (.int .u8 (s.r : Int))) := pair_new _ _ _ _
  have SE := Lib.hid (refSections_any (hv.keeps B0.out) hl)
  have HN : Hid (live.length + 1 = (sectsM live).length) := (sectsM_len live).symm
  have HW : Hid (∀ j (hj : j < (sectsM live).length), (∀ i (h : i < (sectsM live).length), i < j → (sectsM live)[i]'h ≠ s) → (sectsM live)[j]'hj = s → whereM live s = j) := fun j hj h1 h2 => where_is hj h1 h2
  have HZ : Hid ((∀ i (h : i < (sectsM live).length), (sectsM live)[i]'h ≠ s) → whereM live s = -1) := fun h => where_no h
  obtain ⟨q, hq⟩ : ∃ q, whereM live s = q := ⟨_, rfl⟩
  rw [hq] at HW HZ ⊢
  obtain ⟨L, hL⟩ : ∃ z, sectsM live = z := ⟨_, rfl⟩
  rw [hL] at SE HN HW HZ
  obtain ⟨n, hn⟩ : ∃ n, live.length + 1 = n := ⟨_, rfl⟩
  rw [hn] at SE HN
  have hnm : n ≤ 1000001 := by omega
  obtain ⟨S, hS⟩ : ∃ z, s = z := ⟨_, rfl⟩
  have HSI : Hid (∀ x : Id, x = s ↔ x.t = s.t ∧ x.r = s.r) := fun x => Id.eq_iff
  rw [hS] at HW HZ
  have HSE : Hid (∀ x : Id, x = S ↔ x.t = s.t ∧ x.r = s.r) := by rw [← hS]; exact HSI.out
  obtain ⟨ts, rs, hts, hrs⟩ := s
  simp only at SE P0 B0 HSE ⊢
  clear hv hq hL hn hl hS HSI
  go_enter Tryz.func52, Tryz.ntmps52
  go_wp2_with fail
  refine SE.out.mono ?_
  rintro e w1 ⟨lo, lc, rfl, o1, b1⟩
  have B1 := Lib.hid (bt B0.out b1)
  have P1 := Lib.hid (P0.out.keeps b1)
  have SI : Hid (∀ W : World, Below w1.heap.size w1 W → Ids W (.slice lo n lc) L) := fun W h => (Go.Proofs.YtgjbnbojjgbmcaaGreat.Ids.own o1).keeps h
  have Z1 : Hid (Below w1.heap.size w1 w1) := Below.refl _ _
  clear o1 b1 SE B0 P0
  go_wp2
  go_loopw [6] (fun i wr => ∃ j : Nat, j ≤ n ∧ i = .int .i64 (j : Int) ∧ Hid (∀ k (h : k < L.length), k < j → L[k]'h ≠ S) ∧ Hid (Below w1.heap.size w1 wr)) (fun i _ => n - (intOf i).toNat)
  case atStart => exact ⟨0, by omega, rfl, fun k h hk => by omega, Z1⟩
  case round =>
    clear Z1
    obtain ⟨j, hj, rfl, hno, hbel⟩ := hrel
    have BW := Lib.hid (bt B1.out hbel.out)
    by_cases hjn : j < n
    rotate_left
    · have q3 : decide (j < n) = false := by simpa using hjn
      obtain rfl := HZ.out (fun i h => hno.out i h (by have := HN.out; omega))
      go_wp2
      go_ret
      exact ⟨rfl, BW.out⟩
    have q3 : decide (j < n) = true := by simpa using hjn
    have q4 : (0 : Int) ≤ (j : Int) := by omega
    have q5 : (j : Int) < (n : Int) := by omega
    have hjl : j < L.length := by rw [← HN.out]; exact hjn
    obtain ⟨bb, oo, e, hbb, h0, h1⟩ := Ids.at (SI.out wr hbel.out) j hjl
    subst e
    rw [getD_get hjl] at h0 h1
    obtain ⟨x, hx⟩ : ∃ x, L[j]'hjl = x := ⟨_, rfl⟩
    rw [hx] at h0 h1
    have HX : Hid (L[j]'hjl = x) := hx
    have HXS := Lib.hid (HSE.out x)
    obtain ⟨t, r, ht, hr⟩ := x
    simp only at h0 h1 HXS
    have P2 := (P1.out.keeps hbel.out)
    obtain ⟨hlt, f0, f1⟩ := P2
    clear hx hbb
    by_cases he : t = ts ∧ r = rs
    · obtain ⟨rfl, rfl⟩ := he
      obtain rfl := HW.out j hjl hno.out (by rw [HX.out]; exact HXS.out.2 ⟨rfl, rfl⟩)
      have BD : Hid (Below w.heap.size w wr.drew) := BW.out.drew
      clear HXS HX HW HZ hno
      go_wp2
      go_region
      go_wp2
      go_ret
      exact ⟨rfl, BD.out⟩
    have NO : Hid (∀ k (h : k < L.length), k < j + 1 → L[k]'h ≠ S) := fun k h hk => by
      by_cases e : k = j
      · subst e
        rw [HX.out]
        intro e2
        exact he (HXS.out.1 e2)
      · exact hno.out k h (by omega)
    have BD : Hid (Below w1.heap.size w1 wr.drew) := hbel.out.drew
    have hne : ¬ t = ts ∨ (t = ts ∧ ¬ r = rs) := by
      by_cases h : t = ts
      · exact .inr ⟨h, fun h2 => he ⟨h, h2⟩⟩
      · exact .inl h
    clear HXS HX HW HZ hno he BW
    rcases hne with hne | ⟨rfl, hne⟩
    · have hi : ¬ ((t : Int) = (ts : Int)) := by omega
      go_wp2
      go_region
      go_wp2
      go_roundw
      case rel => exact ⟨j + 1, by omega, by go_num, NO, BD⟩
      case measure => simp [intOf]; omega
    · have hi : ¬ ((r : Int) = (rs : Int)) := by omega
      go_wp2
      go_region
      go_wp2
      go_roundw
      case rel => exact ⟨j + 1, by omega, by go_num, NO, BD⟩
      case measure => simp [intOf]; omega
end Go.Proofs.YtgjbnbojjgbmcaaGreat.Homes

namespace Go.Proofs.YtgjbnbojjgbmcaaGreat.Homes
open Go.RowKit Go.WideShapes Stamp Go.Proofs.YtgjbnbojjgbmcaaGreat.Place Ops Codes Bags Marks
attribute [local go_sem ↓] Go.wp_at_zero Go.wp_at_succ
attribute [local go_sem] yielded_undef
set_option maxRecDepth 100000 in
set_option maxHeartbeats 4000000 in
theorem refBegin_any {v : Value} {live : List Opn} {w : World} (a : Int) (hv : OpL w v live) (ha : -1 ≤ a) (hb : a ≤ 2000000) :
    Calls Tryz.prog 54 #[v, .int .i64 a] w fun e w' => ∃ ao cap, e = .returned (.slice ao (beginM live a).length cap) ∧ Runs w (.slice ao (beginM live a).length cap) (beginM live a) ∧ w' = w := by
  obtain ⟨ao, cap, rfl⟩ := hv.shape
  by_cases h1 : a < 1
  · have d1 : decide (a < 1) = true := decide_eq_true h1
    rw [begin_low h1]
    generalize live.length = n
    clear hv
    go_enter Tryz.func54, Tryz.ntmps54
    go_wp2
    go_ret
    exact ⟨_, _, rfl, Sees.nil _ _, rfl⟩
  have d1 : decide (a < 1) = false := decide_eq_false h1
  by_cases h2 : (live.length : Int) < a
  · rw [begin_high h2]
    obtain ⟨n, hn⟩ : ∃ n, live.length = n := ⟨_, rfl⟩
    rw [hn] at h2 ⊢
    have d2 : decide ((n : Int) < a) = true := decide_eq_true h2
    clear hv hn
    go_enter Tryz.func54, Tryz.ntmps54
    go_wp2
    go_ret
    exact ⟨_, _, rfl, Sees.nil _ _, rfl⟩
  obtain ⟨i, hi⟩ : ∃ i : Nat, (i : Int) + 1 = a := ⟨(a - 1).toNat, by omega⟩
  have hil : i < live.length := by omega
  have hbg := begin_succ hil
  rw [hi] at hbg
  obtain ⟨bb, oo, y, e, hbb, hru, h0, h1', h2', h3, h4⟩ := opl_at hv i hil
  subst e
  rw [hbg]
  obtain ⟨L, hL⟩ : ∃ z, (live[i]'hil).pl = z := ⟨_, rfl⟩
  rw [hL] at hru ⊢
  obtain ⟨n, hn⟩ : ∃ n, live.length = n := ⟨_, rfl⟩
  rw [hn] at h2 hil ⊢
  have d2 : decide ((n : Int) < a) = false := decide_eq_false h2
  have ej : a - 1 = (i : Int) := by omega
  have ew : IntKind.i64.wrap (i : Int) = (i : Int) := IntWalk.i64_in _ (by omega)
  have q6 : (0 : Int) ≤ (i : Int) := by omega
  have q7 : (i : Int) < (n : Int) := by omega
  have RU := Lib.hid hru
  obtain ⟨yo, yc, rfl⟩ := hru.shape
  obtain ⟨m, hm⟩ : ∃ m, L.length = m := ⟨_, rfl⟩
  rw [hm] at RU h3 ⊢
  clear hv hbg hru h0 h1' h2' h4 hL hn hm hi
  go_enter Tryz.func54, Tryz.ntmps54
  go_wp2
  go_ret
  exact ⟨_, _, rfl, RU.out, rfl⟩
end Go.Proofs.YtgjbnbojjgbmcaaGreat.Homes

namespace Go.Proofs.YtgjbnbojjgbmcaaGreat.Covers
open Go.RowKit Go.WideShapes Stamp Go.Proofs.YtgjbnbojjgbmcaaGreat.Place Ops Codes Bags Marks Homes
attribute [local go_sem ↓] Go.wp_at_zero Go.wp_at_succ
attribute [local go_sem] yielded_undef
set_option maxRecDepth 100000 in
set_option maxHeartbeats 16000000 in
theorem refCounting_any {v u0 : Value} {l live : List Opn} (s : Id) {w : World} (hv : OpL w v l) (hu : OpL w u0 live) (hl : l.length ≤ 1000000) (hm : ∀ o ∈ l, mayO o = true) (hmm : ∀ o ∈ live, mayO o = true) :
    Calls Tryz.prog 93 #[v, u0, .agg #[.int .u32 (s.t : Int), .int .u8 (s.r : Int)]] w fun e w' => ∃ v', e = .returned v' ∧ OpL w' v' (countL l live s) ∧ Below w.heap.size w w' := by
  obtain ⟨ao, cap, rfl⟩ := hv.shape
  obtain ⟨wl, hwl⟩ : ∃ x, x = w.alloc (.cells #[.int .u32 (s.t : Int), .int .u8 (s.r : Int)] 28) := ⟨_, rfl⟩
  have B0 : Hid (Below w.heap.size w wl) := by rw [hwl]; exact (Below.refl _ _).alloc (Nat.le_refl _) _
  have P0 : Hid (Pair wl w.heap.size (.int .u32 (s.t : Int)) (.int .u8 (s.r : Int))) := by rw [hwl]; exact pair_new _ _ _ _
  have HW := Lib.hid hwl
  have IN : Hid (Calls Tryz.prog 132 #[.slice ao l.length cap, u0, .agg #[.int .u32 (s.t : Int), .int .u8 (s.r : Int)]] wl fun e w' => ∃ v', e = .returned v' ∧ OpL w' v' (inL l live s) ∧ Below wl.heap.size wl w') := refIn14_any s (hv.keeps B0.out) (hu.keeps B0.out) hl hm hmm
  have hal : (inL l live s).length ≤ 1000000 := Nat.le_trans (inL_sub l live s).length_le hl
  have IS : Hid (∀ (x : Opn) (y : Value) (W : World), x ∈ inL l live s → Runs W y x.pl → Below w.heap.size w W → Calls Tryz.prog 133 #[.slice ao l.length cap, u0, .agg #[.int .u32 (s.t : Int), .int .u8 (s.r : Int)], opv x y] W fun e w' => e = .returned (.bool (isB l live s x)) ∧ Below W.heap.size W w') := fun x y W hx hy h => refIs14_any s (hv.keeps h) (hu.keeps h) hy (hm x (mem_inL.1 hx).1) hmm
  obtain ⟨au, cu, rfl⟩ := hu.shape
  unfold countL
  obtain ⟨PB, hPB⟩ : ∃ PB : Opn → Bool, isB l live s = PB := ⟨_, rfl⟩
  rw [hPB] at IS ⊢
  obtain ⟨A, hA⟩ : ∃ A, inL l live s = A := ⟨_, rfl⟩
  rw [hA] at IN IS hal ⊢
  have M0 : Hid (0 = ((A.take 0).filter PB).length) := rfl
  obtain ⟨ts, rs, hts, hrs⟩ := s
  simp only at P0 HW IN IS ⊢
  obtain ⟨nl, hnl⟩ : ∃ nl, live.length = nl := ⟨_, rfl⟩
  obtain ⟨n0, hn0⟩ : ∃ n0, l.length = n0 := ⟨_, rfl⟩
  rw [hnl, hn0] at IN IS ⊢
  obtain ⟨n, hn⟩ : ∃ n, n = A.length := ⟨_, rfl⟩
  have hnm : n ≤ 1000000 := by omega
  have HN := Lib.hid hn
  clear hv hu hl hm hmm hwl hPB hA hnl hn0 hal hn
  go_enter Tryz.func93, Tryz.ntmps93
  obtain ⟨_, d0, d1⟩ := P0.out
  go_wp2_with fail
  rw [← HW.out]
  refine IN.out.mono ?_
  rintro e wk ⟨va, rfl, ol, bk⟩
  have BK := Lib.hid (bt B0.out bk)
  have PK := Lib.hid (P0.out.keeps bk)
  have HV : Hid (∀ W : World, Below wk.heap.size wk W → OpL W va A) := fun W h => ol.keeps h
  obtain ⟨aa, ca, rfl⟩ := ol.shape
  have S0 : Hid (Shr opE 38 wk wk (.slice none 0 0) ((A.take 0).filter PB)) := Shr.nil _ _ _ _
  have Z0 : Hid (Below wk.heap.size wk wk) := Below.refl _ _
  rw [← HN.out]
  clear d0 d1 IN HW B0 P0 bk ol
  go_wp2
  go_loopw [7, 9] (fun v i wr => ∃ j m : Nat, j ≤ n ∧ i = .int .i64 (j : Int) ∧ (∃ ao cap, v = .slice ao m cap) ∧ Hid (m = ((A.take j).filter PB).length) ∧ Hid (Shr opE 38 wk wr v ((A.take j).filter PB)) ∧ Hid (Below wk.heap.size wk wr)) (fun _ i _ => n - (intOf i).toNat)
  case atStart => exact ⟨0, 0, by omega, rfl, ⟨none, 0, rfl⟩, M0, S0, Z0⟩
  case round =>
    clear S0 M0 Z0
    obtain ⟨j, m, hj, rfl, ⟨aoL, capL, rfl⟩, HM, hshr, hbel⟩ := hrel
    by_cases hjn : j < n
    rotate_left
    · have q3 : decide (j < n) = false := by simpa using hjn
      have hkk : A.take j = A := List.take_of_length_le (by have := HN.out; omega)
      rw [hkk] at hshr
      have BE := Lib.hid (bt BK.out hbel.out)
      have SE := Lib.hid (hshr.out.seq hbel.out)
      clear hkk
      go_wp2
      go_ret
      exact ⟨_, rfl, SE.out, BE.out⟩
    have q3 : decide (j < n) = true := by simpa using hjn
    have q4 : (0 : Int) ≤ (j : Int) := by omega
    have q5 : (j : Int) < (n : Int) := by omega
    have hjl : j < A.length := by rw [← HN.out]; exact hjn
    obtain ⟨bb, oo, u, e, hbb, hru, h0, h1, h2, h3, h4⟩ := opl_at (HV.out wk (Below.refl _ _)) j hjl
    subst e
    obtain ⟨x, hx⟩ : ∃ x, x = A[j]'hjl := ⟨_, rfl⟩
    rw [← hx] at hru h0 h1 h2 h4
    have HO : Hid (∀ v : Value, opv x v = .agg #[.int .u8 (x.k : Int), .int .u32 (x.t : Int), .int .u8 (x.r : Int), v, .int .i64 x.p]) := fun v => rfl
    replace h0 := ((hbel.out).cell (p := ⟨bb, oo + j * 5, none⟩) hbb).trans h0
    replace h1 := ((hbel.out).cell (p := ⟨bb, oo + j * 5 + 1, none⟩) hbb).trans h1
    replace h2 := ((hbel.out).cell (p := ⟨bb, oo + j * 5 + 2, none⟩) hbb).trans h2
    replace h3 := ((hbel.out).cell (p := ⟨bb, oo + j * 5 + 3, none⟩) hbb).trans h3
    replace h4 := ((hbel.out).cell (p := ⟨bb, oo + j * 5 + 4, none⟩) hbb).trans h4
    have hbo := hbb
    replace hbb := Nat.lt_of_lt_of_le hbb (hbel.out).size
    obtain ⟨uo, uc, rfl⟩ := hru.shape
    obtain ⟨nu, hnu⟩ : ∃ n, n = x.pl.length := ⟨_, rfl⟩
    have HNU := Lib.hid hnu
    rw [← hnu] at hru h3
    clear hnu
    have hxm : x ∈ A := by rw [hx]; exact List.getElem_mem _
    have INN : Hid (opE.inn wk [.int .u8 (x.k : Int), .int .u32 (x.t : Int), .int .u8 (x.r : Int), .slice uo nu uc, .int .i64 x.p] x) := ⟨_, rfl, hru⟩
    have CX : Hid (∀ W : World, Below wr.heap.size wr W → Calls Tryz.prog 133 #[.slice ao n0 cap, .slice au nl cu, .agg #[.int .u32 (ts : Int), .int .u8 (rs : Int)], opv x (.slice uo nu uc)] W fun e w' => e = .returned (.bool (PB x)) ∧ Below W.heap.size W w') := fun W h => IS.out x _ W hxm (hru.keeps (bt hbel.out h)) (bt BK.out (bt hbel.out h))
    have FT := Lib.hid (filter_take (P := PB) hjl)
    rw [← hx] at FT
    obtain ⟨q, hq⟩ : ∃ b, PB x = b := ⟨_, rfl⟩
    rw [hq] at CX FT
    clear hx hru hq hxm
    obtain ⟨k, hk⟩ : ∃ z, x.k = z := ⟨_, rfl⟩
    obtain ⟨t, ht⟩ : ∃ z, x.t = z := ⟨_, rfl⟩
    obtain ⟨r, hr⟩ : ∃ z, x.r = z := ⟨_, rfl⟩
    obtain ⟨p, hp⟩ : ∃ z, x.p = z := ⟨_, rfl⟩
    rw [hk, ht, hr, hp] at HO
    rw [hk] at h0
    rw [ht] at h1
    rw [hr] at h2
    rw [hp] at h4
    simp only [HO.out] at CX
    rw [hk, ht, hr, hp] at INN
    have F1 : Hid (FiveAt wr bb (oo + j * 5) (.int .u8 (k : Int)) (.int .u32 (t : Int)) (.int .u8 (r : Int)) (.slice uo nu uc) (.int .i64 p)) := ⟨hbb, h0, h1, h2, h3, h4⟩
    have SK : Hid (∀ w' : World, Below wr.heap.size wr w' → Below wr.heap.size wr w' ∧ w'.cell? ⟨bb, oo + j * 5, none⟩ = some (.int .u8 (k : Int)) ∧ w'.cell? ⟨bb, oo + j * 5 + 1, none⟩ = some (.int .u32 (t : Int)) ∧ w'.cell? ⟨bb, oo + j * 5 + 2, none⟩ = some (.int .u8 (r : Int)) ∧ w'.cell? ⟨bb, oo + j * 5 + 3, none⟩ = some (.slice uo nu uc) ∧ w'.cell? ⟨bb, oo + j * 5 + 4, none⟩ = some (.int .i64 p) ∧ w'.cell? ⟨w.heap.size, 0, none⟩ = some (.int .u32 (ts : Int)) ∧ w'.cell? ⟨w.heap.size, 1, none⟩ = some (.int .u8 (rs : Int))) := fun W h => by
      have a1 := (F1.out.keeps h).2
      have a2 := PK.out.keeps (bt hbel.out h)
      exact ⟨h, a1.1, a1.2.1, a1.2.2.1, a1.2.2.2.1, a1.2.2.2.2, a2.2.1, a2.2.2⟩
    clear hk ht hr hp HO h0 h1 h2 h3 h4 HV IS PK
    cases q
    · have FN : Hid ((if false = true then [x] else []) = []) := rfl
      go_wp2
      refine wp_region_held_drew (S := fun w' => Below wr.heap.size wr w' ∧ w'.cell? ⟨bb, oo + j * 5, none⟩ = some (.int .u8 (k : Int)) ∧ w'.cell? ⟨bb, oo + j * 5 + 1, none⟩ = some (.int .u32 (t : Int)) ∧ w'.cell? ⟨bb, oo + j * 5 + 2, none⟩ = some (.int .u8 (r : Int)) ∧ w'.cell? ⟨bb, oo + j * 5 + 3, none⟩ = some (.slice uo nu uc) ∧ w'.cell? ⟨bb, oo + j * 5 + 4, none⟩ = some (.int .i64 p) ∧ w'.cell? ⟨w.heap.size, 0, none⟩ = some (.int .u32 (ts : Int)) ∧ w'.cell? ⟨w.heap.size, 1, none⟩ = some (.int .u8 (rs : Int))) (by kernel_rfl) (SK.out _ (drew1 _)) (fun hHeld => ?_)
      refine rN 0 ?_
      refine rN 1 ?_
      refine rN 2 ?_
      refine rN 3 ?_
      refine rN 4 ?_
      refine rN 5 ?_
      refine rN 6 ?_
      refine wpAnyH_ready (rs := [7]) (by kernel_rfl) (by simp) ?_
      refine AllReadyH.cons rfl (fun K hK => ?_) ?za7
      case za7 => exact AllReadyH.nil
      go_simp
      refine (CX.out _ hHeld.1).mono ?_
      rintro e w9a7 ⟨rfl, b9⟩
      refine hK.out _ _ (SK.out _ (bt hHeld.1 b9)) (fun hNew => ?_)
      clear hHeld
      have hHeld := hNew
      clear hNew hK K
      refine rX ?_
      refine wpAnyH_done (by kernel_rfl) ?_ _
      rw [FN.out, List.append_nil] at FT
      rw [← FT.out] at HM
      have S2 := Lib.hid (hshr.out.keeps hHeld.1)
      rw [← FT.out] at S2
      have B2 := Lib.hid (bt hbel.out hHeld.1)
      clear hHeld hshr hbel F1 SK
      go_wp2
      go_roundw
      case rel => exact ⟨j + 1, m, by omega, by go_num, ⟨aoL, capL, rfl⟩, HM, S2, B2⟩
      case measure => simp [intOf]; omega
    have FN : Hid ((if true = true then [x] else []) = [x]) := rfl
    go_wp2
    refine wp_region_held_drew (S := fun w' => Below wr.heap.size wr w' ∧ w'.cell? ⟨bb, oo + j * 5, none⟩ = some (.int .u8 (k : Int)) ∧ w'.cell? ⟨bb, oo + j * 5 + 1, none⟩ = some (.int .u32 (t : Int)) ∧ w'.cell? ⟨bb, oo + j * 5 + 2, none⟩ = some (.int .u8 (r : Int)) ∧ w'.cell? ⟨bb, oo + j * 5 + 3, none⟩ = some (.slice uo nu uc) ∧ w'.cell? ⟨bb, oo + j * 5 + 4, none⟩ = some (.int .i64 p) ∧ w'.cell? ⟨w.heap.size, 0, none⟩ = some (.int .u32 (ts : Int)) ∧ w'.cell? ⟨w.heap.size, 1, none⟩ = some (.int .u8 (rs : Int))) (by kernel_rfl) (SK.out _ (drew1 _)) (fun hHeld => ?_)
    refine rN 0 ?_
    refine rN 1 ?_
    refine rN 2 ?_
    refine rN 3 ?_
    refine rN 4 ?_
    refine rN 5 ?_
    refine rN 6 ?_
    refine wpAnyH_ready (rs := [7]) (by kernel_rfl) (by simp) ?_
    refine AllReadyH.cons rfl (fun K hK => ?_) ?zb7
    case zb7 => exact AllReadyH.nil
    go_simp
    refine (CX.out _ hHeld.1).mono ?_
    rintro e w9b7 ⟨rfl, b9⟩
    refine hK.out _ _ (SK.out _ (bt hHeld.1 b9)) (fun hNew => ?_)
    clear hHeld
    have hHeld := hNew
    clear hNew hK K
    refine rX ?_
    refine wpAnyH_done (by kernel_rfl) ?_ _
    rw [FN.out] at FT
    have S2 := Lib.hid (hshr.out.keeps hHeld.1)
    have B2 := Lib.hid (bt hbel.out hHeld.1)
    have HZ := Lib.hid B2.out.size
    have hll := filter_take_len (P := PB) (l := A) j
    have HMM := Lib.hid (show (m + 1) * 48 ≤ 140737488355328 ∧ m ≤ 1000000000000 by have := HM.out; have := HN.out; omega)
    obtain ⟨h0, h1, h2, h3, h4⟩ := (F1.out.keeps hHeld.1).2
    clear hHeld hshr hll F1 SK
    go_wp2_with (at_builtin; refine wpList_append_enc (E := opE) Tryz.underlying22 op_info rfl (w0 := wk) (wp := w9b7) (by rfl) (.tmp 28) (.tmp 33) (by rfl) (by rfl) S2.out (G := w9b7.heap.size) (by rfl) rfl (c := #[.int .u8 (k : Int), .int .u32 (t : Int), .int .u8 (r : Int), .slice uo nu uc, .int .i64 p]) INN.out HM.out HMM.out.1 HMM.out.2 HZ.out ?_)
    rintro v6 w6 s6 va vc rfl b6
    have S6 := Lib.hid s6
    rw [← FT.out] at S6
    have M6 : Hid (m + 1 = ((A.take (j + 1)).filter PB).length) := by unfold Hid; rw [FT.out, List.length_append, ← HM.out]; rfl
    have B6 := Lib.hid (B2.out.trans b6)
    clear s6 b6 S2 B2 h0 h1 h2 h3 h4 FT HM FN hbel
    go_wp2
    go_roundw
    case rel => exact ⟨j + 1, m + 1, by omega, by go_num, ⟨va, vc, rfl⟩, M6, S6, B6⟩
    case measure => simp [intOf]; omega
end Go.Proofs.YtgjbnbojjgbmcaaGreat.Covers

namespace Go.Proofs.YtgjbnbojjgbmcaaGreat.Views
open Go.RowKit Go.WideShapes Stamp Go.Proofs.YtgjbnbojjgbmcaaGreat.Place Ops Codes Bags Marks Homes Covers
attribute [local go_sem ↓] Go.wp_at_zero Go.wp_at_succ
attribute [local go_sem] yielded_undef
set_option maxRecDepth 100000 in
set_option maxHeartbeats 8000000 in
theorem refOf15_any {v u0 : Value} {l live : List Opn} (s : Id) {w : World} (hv : OpL w v l) (hu : OpL w u0 live) (hl : l.length ≤ 1000000) (hm : ∀ o ∈ l, mayO o = true) (hmm : ∀ o ∈ live, mayO o = true) :
    Calls Tryz.prog 44 #[v, u0, .agg #[.int .u32 (s.t : Int), .int .u8 (s.r : Int)]] w fun e w' => ∃ v', e = .returned v' ∧ ElL w' v' (seenM (countL l live s)) ∧ Below w.heap.size w w' := by
  obtain ⟨wl, hwl⟩ : ∃ x, x = w.alloc (.cells #[.int .u32 (s.t : Int), .int .u8 (s.r : Int)] 28) := ⟨_, rfl⟩
  have B0 : Hid (Below w.heap.size w wl) := by rw [hwl]; exact (Below.refl _ _).alloc (Nat.le_refl _) _
  have Y0 : Hid (wl.heap[w.heap.size]? = some (.cells #[.int .u32 (s.t : Int), .int .u8 (s.r : Int)] 28)) := by rw [hwl]; exact blk_new rfl
  have HW := Lib.hid hwl
  have CT : Hid (Calls Tryz.prog 93 #[v, u0, .agg #[.int .u32 (s.t : Int), .int .u8 (s.r : Int)]] wl fun e w' => ∃ v', e = .returned v' ∧ OpL w' v' (countL l live s) ∧ Below wl.heap.size wl w') := refCounting_any s (hv.keeps B0.out) (hu.keeps B0.out) hl hm hmm
  have SN : Hid (∀ (W : World) (y : Value), OpL W y (countL l live s) → Calls Tryz.prog 92 #[y] W fun e w' => ∃ v', e = .returned v' ∧ ElL w' v' (seenM (countL l live s)) ∧ Below W.heap.size W w') := fun W y h => refSeen_any h (fun o ho => hm o (mem_countL.1 ho).1.1) (Nat.le_trans (countL_sub l live s).length_le hl)
  obtain ⟨C, hC⟩ : ∃ C, countL l live s = C := ⟨_, rfl⟩
  rw [hC] at CT SN ⊢
  clear hv hu hl hm hmm hwl hC
  obtain ⟨ts, rs, hts, hrs⟩ := s
  simp only at Y0 HW CT ⊢
  have d0 := cell_of_row _ _ 0 _ _ _ Y0.out
  have d1 := cell_of_row _ _ 1 _ _ _ Y0.out
  go_enter Tryz.func44, Tryz.ntmps44
  go_wp2_with fail
  rw [← HW.out]
  refine CT.out.mono ?_
  rintro e w1 ⟨v1, rfl, o1, b1⟩
  have O1 := Lib.hid o1
  have B1 := Lib.hid (bt B0.out b1)
  clear b1 o1 Y0 B0 HW CT d0 d1
  go_wp2_with fail
  refine (SN.out _ _ O1.out).mono ?_
  rintro e w2 ⟨v2, rfl, o2, b2⟩
  have O2 := Lib.hid o2
  have B2 := Lib.hid (bt B1.out b2)
  clear b2 o2 O1 B1 SN
  go_wp2
  go_ret
  exact ⟨_, rfl, O2.out, B2.out⟩
end Go.Proofs.YtgjbnbojjgbmcaaGreat.Views
