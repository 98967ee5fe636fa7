/- octavoref15.Seen: what it answers. Conditions: operations that may be, not more than a million. octavoref06.Cut: what it answers. Conditions: the slice's cells are runs that may be, one behind the other. octavoref13.Home, Sections, Where, Begin: what each answers. Conditions: live marks that may be, in order; a place that may be, or the beginning. octavoref12.Lives, Live: what each answers. Conditions: of Lives: operations that may be, not too many. -/
import Derived.Test.YtgjbnbojjgbmcaaGreatChecked
import Derived.WalkKit
import Derived.WalkSpells
import Derived.WalkLawsBesides
import Derived.Laws.BytesArg
import Derived.Lib.Hide
import Derived.Deep.LoopGhost
import Derived.Laws.AppendOwnNone
import Derived.Laws.OwnMore
import Derived.WideShapes
import Derived.Maps.AppendAt
import Derived.RegionTactic
import Derived.Deep.RegionHeld3
import Derived.Deep.DrawnRows
import Derived.Deep.QuietTactic
import Derived.BigQuiet
import Derived.IntWalk
import Derived.Deep.DeepCutAuto
import Derived.ScopeJumps
import Derived.Test.YtgjbnbojjgbmcaaGreatProg
import Derived.LoopTactic
import Derived.Laws.EntriesVeiled
import Derived.RowKit
import Derived.Lib.DecodeN
import Derived.Lib.RuneBytes
import Derived.Test.YtgjbnbojjgbmcaaGreatRw
import Derived.Test.YtgjbnbojjgbmcaaGreatPk36
import Derived.Test.YtgjbnbojjgbmcaaGreatPk06
import Derived.Test.YtgjbnbojjgbmcaaGreatPk15
import Derived.Test.YtgjbnbojjgbmcaaGreatPk05
import Derived.Test.YtgjbnbojjgbmcaaGreatPk35
import Derived.Test.YtgjbnbojjgbmcaaGreatPk04
import Derived.Test.YtgjbnbojjgbmcaaGreatPk34
import Derived.Test.YtgjbnbojjgbmcaaGreatPk03
import Derived.Test.YtgjbnbojjgbmcaaGreatPk02
import Derived.Test.YtgjbnbojjgbmcaaGreatPk01
import Derived.Test.YtgjbnbojjgbmcaaGreatPk33
import Derived.Test.YtgjbnbojjgbmcaaGreatPk20
import Derived.Test.YtgjbnbojjgbmcaaGreatPk21
import Derived.Test.YtgjbnbojjgbmcaaGreatPk19

namespace Go.Proofs.YtgjbnbojjgbmcaaGreat.Views
open Go.RowKit Go.WideShapes Stamp Go.Proofs.YtgjbnbojjgbmcaaGreat.Place Ops Codes Bags Marks Homes Covers
attribute [local go_sem ↓] Go.wp_at_zero Go.wp_at_succ
attribute [local go_sem] yielded_undef
set_option maxRecDepth 100000 in
set_option maxHeartbeats 16000000 in
theorem refSeen_any {v : Value} {l : List Opn} {w : World} (hv : OpL w v l) (hm : ∀ o ∈ l, mayO o = true) (hl : l.length ≤ 1000000) :
    Calls Tryz.prog 92 #[v] w fun e w' => ∃ v', e = .returned v' ∧ ElL w' v' (seenM l) ∧ Below w.heap.size w w' := by
  obtain ⟨ao, cap, rfl⟩ := hv.shape
  obtain ⟨n, hn⟩ : ∃ n, n = l.length := ⟨_, rfl⟩
  have hnm : n ≤ 1000000 := by omega
  have HV : Hid (∀ W : World, Below w.heap.size w W → OpL W (.slice ao l.length cap) l) := fun W h => hv.keeps h
  have HN := Lib.hid hn
  have HMY := Lib.hid hm
  have GO : Hid (∀ (W : World) (a : Id), Below w.heap.size w W → Calls Tryz.prog 130 #[.slice ao l.length cap, .agg #[.int .u32 (a.t : Int), .int .u8 (a.r : Int)]] W fun e w' => e = .returned (.bool (goneM l a)) ∧ Below W.heap.size W w') := fun W a h => refGone_any a (hv.keeps h) hm
  have S0 : Hid (ElL w (.slice none 0 0) (seenF l (l.take 0))) := Seq.nil _ _
  have M0 : Hid (0 = (seenF l (l.take 0)).length) := rfl
  have B0 : Hid (Below w.heap.size w w) := Below.refl _ _
  have E0 : Hid (NonE (.slice none 0 0) (seenF l (l.take 0))) := .inl rfl
  have SLE : Hid (∀ j, (seenF l (l.take j)).length ≤ 1000000) := fun j => Nat.le_trans (seenF_le l (l.take j)) (by rw [List.length_take]; omega)
  have SMY : Hid (∀ j, ∀ y ∈ seenF l (l.take j), mayO y = true) := fun j y hy => hm y (List.mem_of_mem_take (mem_seenF.1 hy).1)
  unfold seenM
  rw [← hn] at GO ⊢
  clear hv hn hm hl
  go_enter Tryz.func92, Tryz.ntmps92
  go_wp2
  go_loopw [3, 4] (fun v i wr => ∃ j m : Nat, j ≤ n ∧ i = .int .i64 (j : Int) ∧ (∃ ao cap, v = .slice ao m cap) ∧ Hid (m = (seenF l (l.take j)).length) ∧ Hid (NonE v (seenF l (l.take j))) ∧ Hid (ElL wr v (seenF l (l.take j))) ∧ Hid (Below w.heap.size w wr)) (fun _ i _ => n - (intOf i).toNat)
  case atStart => exact ⟨0, 0, by omega, rfl, ⟨none, 0, rfl⟩, M0, E0, S0, B0⟩
  case round =>
    clear S0 M0 B0 E0
    obtain ⟨j, m, hj, rfl, ⟨aoL, capL, rfl⟩, HM, hnn, hsq, hbel⟩ := hrel
    by_cases hjn : j < n
    rotate_left
    · have q3 : decide (j < n) = false := by simpa using hjn
      have hkk : l.take j = l := List.take_of_length_le (by have := HN.out; omega)
      rw [hkk] at hsq
      clear hkk
      go_wp2
      go_ret
      exact ⟨_, rfl, hsq.out, hbel.out⟩
    have q3 : decide (j < n) = true := by simpa using hjn
    have q4 : (0 : Int) ≤ (j : Int) := by omega
    have q5 : (j : Int) < (n : Int) := by omega
    have hjl : j < l.length := by rw [← HN.out]; exact hjn
    obtain ⟨bb, oo, u, e, hbb, hru, h0, h1, h2, h3, h4⟩ := opl_at (HV.out w (Below.refl _ _)) j hjl
    subst e
    obtain ⟨x, hx⟩ : ∃ x, x = l[j]'hjl := ⟨_, rfl⟩
    rw [← hx] at hru h0 h1 h2 h4
    have HO : Hid (∀ v : Value, opv x v = .agg #[.int .u8 (x.k : Int), .int .u32 (x.t : Int), .int .u8 (x.r : Int), v, .int .i64 x.p]) := fun v => rfl
    replace h0 := ((hbel.out).cell (p := ⟨bb, oo + j * 5, none⟩) hbb).trans h0
    replace h1 := ((hbel.out).cell (p := ⟨bb, oo + j * 5 + 1, none⟩) hbb).trans h1
    replace h2 := ((hbel.out).cell (p := ⟨bb, oo + j * 5 + 2, none⟩) hbb).trans h2
    replace h3 := ((hbel.out).cell (p := ⟨bb, oo + j * 5 + 3, none⟩) hbb).trans h3
    replace h4 := ((hbel.out).cell (p := ⟨bb, oo + j * 5 + 4, none⟩) hbb).trans h4
    have hbo := hbb
    replace hbb := Nat.lt_of_lt_of_le hbb (hbel.out).size
    obtain ⟨uo, uc, rfl⟩ := hru.shape
    obtain ⟨nu, hnu⟩ : ∃ n, n = x.pl.length := ⟨_, rfl⟩
    have HNU := Lib.hid hnu
    rw [← hnu] at hru h3
    clear hnu
    have hxm : x ∈ l := by rw [hx]; exact List.getElem_mem _
    have hxy := HMY.out x hxm
    have hpx : x.pl.length ≤ 8796093022208 := by have := mayO_fits hxy; omega
    have GX : Hid (∀ W : World, Below wr.heap.size wr W → Calls Tryz.prog 130 #[.slice (some ⟨bb, oo, none⟩) n cap, .agg #[.int .u32 (x.t : Int), .int .u8 (x.r : Int)]] W fun e w' => e = .returned (.bool (goneM l (idO x))) ∧ Below W.heap.size W w') := fun W h => GO.out W (idO x) (bt hbel.out h)
    have TW : Hid (∀ W : World, Below wr.heap.size wr W → Calls Tryz.prog 53 #[.slice uo nu uc] W fun e w' => ∃ v', e = .returned v' ∧ Runs w' v' x.pl ∧ Below W.heap.size W w') := fun W h => by
      have C9 := Go.Proofs.YtgjbnbojjgbmcaaGreat.Place.twin_any (hru.keeps (bt hbel.out h)) hpx
      refine C9.mono ?_
      rintro e w' ⟨v', rfl, ho, hb'⟩
      exact ⟨v', rfl, Runs.own ho, hb'⟩
    have FT : Hid (seenF l (l.take (j + 1)) = seenStep l (seenF l (l.take j)) x) := by unfold Hid; rw [List.take_succ_eq_append_getElem hjl, seenF_snoc, ← hx]
    have PU : Hid (∀ (W : World) (u : Value), Below wr.heap.size wr W → Runs W u x.pl → Calls Tryz.prog 131 #[.slice aoL m capL, elv x u] W fun e w' => ∃ v', e = .returned v' ∧ ElL w' v' (insM (seenF l (l.take j)) x) ∧ Below W.heap.size W w') := fun W u h hu => refPut_any (hsq.out.keeps h) hnn.out hu (SMY.out j) hxy (SLE.out j)
    have HOE : Hid (∀ u : Value, elv x u = .agg #[.int .u32 (x.t : Int), .int .u8 (x.r : Int), u, .int .i64 x.p]) := fun u => rfl
    obtain ⟨out, hout⟩ : ∃ z, seenF l (l.take j) = z := ⟨_, rfl⟩
    rw [hout] at HM hnn hsq FT PU
    obtain ⟨q, hq⟩ : ∃ q, goneM l (idO x) = q := ⟨_, rfl⟩
    rw [hq] at GX
    have FQ : Hid (x.k = 1 → q = false → seenF l (l.take (j + 1)) = insM out x) := fun h1 h2 => by rw [FT.out]; unfold seenStep; rw [hq, h2]; exact if_pos ⟨h1, rfl⟩
    have FN : Hid (¬ (x.k = 1 ∧ q = false) → seenF l (l.take (j + 1)) = out) := fun h => by rw [FT.out]; unfold seenStep; rw [hq]; exact if_neg h
    clear hx hru hxm hxy hpx hout hq GO HMY SLE SMY HV FT
    obtain ⟨k, hk⟩ : ∃ z, x.k = z := ⟨_, rfl⟩
    obtain ⟨t, ht⟩ : ∃ z, x.t = z := ⟨_, rfl⟩
    obtain ⟨r, hr⟩ : ∃ z, x.r = z := ⟨_, rfl⟩
    obtain ⟨p, hp⟩ : ∃ z, x.p = z := ⟨_, rfl⟩
    rw [hk, ht, hr, hp] at HO
    rw [hk] at h0
    rw [ht] at h1
    rw [hr] at h2
    rw [hp] at h4
    rw [hk] at FQ FN
    rw [ht, hr] at GX
    simp only [HOE.out] at PU
    rw [ht, hr, hp] at PU
    have F1 : Hid (FiveAt wr bb (oo + j * 5) (.int .u8 (k : Int)) (.int .u32 (t : Int)) (.int .u8 (r : Int)) (.slice uo nu uc) (.int .i64 p)) := ⟨hbb, h0, h1, h2, h3, h4⟩
    clear hk ht hr hp HO HOE
    by_cases hk1 : k = 1
    rotate_left
    · have qk : ((k : Int) == 1) = false := by simp; omega
      have FE := Lib.hid (FN.out (fun h => hk1 h.1))
      rw [← FE.out] at HM hnn hsq
      clear FQ FN PU TW GX
      go_wp2
      go_roundw
      case rel => exact ⟨j + 1, m, by omega, by go_num, ⟨aoL, capL, rfl⟩, HM, hnn, Lib.hid (hsq.out.keeps (Below.refl _ _)), Lib.hid (bt hbel.out (Below.refl _ _))⟩
      case measure => simp [intOf]; omega
    subst hk1
    have GXX := Lib.hid (GX.out _ (Below.refl _ _))
    go_wp2_with fail
    refine GXX.out.mono ?_
    rintro e w5 ⟨rfl, b5⟩
    have Q5 := Lib.hid b5
    clear b5 GX GXX h0 h1 h2 h3 h4
    cases q
    rotate_left
    · have FE := Lib.hid (FN.out (fun h => by cases h.2))
      rw [← FE.out] at HM hnn hsq
      have S5 := Lib.hid (hsq.out.keeps Q5.out)
      have Z5 := Lib.hid (bt hbel.out Q5.out)
      clear FQ FN PU TW hsq hbel Q5 F1
      go_wp2
      go_roundw
      case rel => exact ⟨j + 1, m, by omega, by go_num, ⟨aoL, capL, rfl⟩, HM, hnn, S5, Z5⟩
      case measure => simp [intOf]; omega
    have FE := Lib.hid (FQ.out (by first | rfl | trivial) (by first | rfl | trivial))
    clear FQ FN
    have SK : Hid (∀ w' : World, Below w5.heap.size w5 w' → Below w5.heap.size w5 w' ∧ w'.cell? ⟨bb, oo + j * 5, none⟩ = some (.int .u8 ((1 : Nat) : Int)) ∧ w'.cell? ⟨bb, oo + j * 5 + 1, none⟩ = some (.int .u32 (t : Int)) ∧ w'.cell? ⟨bb, oo + j * 5 + 2, none⟩ = some (.int .u8 (r : Int)) ∧ w'.cell? ⟨bb, oo + j * 5 + 3, none⟩ = some (.slice uo nu uc) ∧ w'.cell? ⟨bb, oo + j * 5 + 4, none⟩ = some (.int .i64 p)) := fun W h => by
      have a1 := (F1.out.keeps (bt Q5.out h)).2
      exact ⟨h, a1.1, a1.2.1, a1.2.2.1, a1.2.2.2.1, a1.2.2.2.2⟩
    go_wp2
    refine wp_region_held_drew (S := fun w' => Below w5.heap.size w5 w' ∧ w'.cell? ⟨bb, oo + j * 5, none⟩ = some (.int .u8 ((1 : Nat) : Int)) ∧ w'.cell? ⟨bb, oo + j * 5 + 1, none⟩ = some (.int .u32 (t : Int)) ∧ w'.cell? ⟨bb, oo + j * 5 + 2, none⟩ = some (.int .u8 (r : Int)) ∧ w'.cell? ⟨bb, oo + j * 5 + 3, none⟩ = some (.slice uo nu uc) ∧ w'.cell? ⟨bb, oo + j * 5 + 4, none⟩ = some (.int .i64 p)) (by kernel_rfl) (SK.out _ (drew1 _)) (fun hHeld => ?_)
    refine rN 0 ?_
    refine rN 1 ?_
    refine rN 2 ?_
    refine rN 3 ?_
    refine rN 4 ?_
    refine rN 5 ?_
    refine rN 6 ?_
    refine rN 7 ?_
    refine rN 8 ?_
    refine rN 9 ?_
    refine rN 10 ?_
    refine rN 12 ?_
    refine rN 13 ?_
    refine rN 14 ?_
    refine rN 15 ?_
    refine rN 16 ?_
    refine wpAnyH_ready (rs := [11]) (by kernel_rfl) (by simp) ?_
    refine AllReadyH.cons rfl (fun K hK => ?_) ?za11
    case za11 => exact AllReadyH.nil
    go_simp
    refine (TW.out _ (bt Q5.out hHeld.1)).mono ?_
    rintro e w9a11 ⟨vt, rfl, rt, b9⟩
    have RT := Lib.hid rt
    obtain ⟨tO, tC, rfl⟩ := rt.shape
    clear rt
    refine hK.out _ _ (SK.out _ (bt hHeld.1 b9)) (fun hNew => ?_)
    clear hHeld
    have hHeld := hNew
    clear hNew hK K
    refine rX ?_
    refine rN 17 ?_
    refine wpAnyH_ready (rs := [18]) (by kernel_rfl) (by simp) ?_
    refine AllReadyH.cons rfl (fun K hK => ?_) ?za18
    case za18 => exact AllReadyH.nil
    go_simp
    refine (PU.out _ _ (bt Q5.out hHeld.1) RT.out).mono ?_
    rintro e w9a18 ⟨vz, rfl, ez, b9⟩
    have EZ := Lib.hid ez
    clear ez
    refine hK.out _ _ (SK.out _ (bt hHeld.1 b9)) (fun hNew => ?_)
    clear hHeld
    have hHeld := hNew
    clear hNew hK K
    refine rX ?_
    refine rN 19 ?_
    refine wpAnyH_done (by kernel_rfl) ?_ _
    have ZE := Lib.hid (bt hbel.out (bt Q5.out hHeld.1))
    obtain ⟨az, cz, rfl⟩ := EZ.out.shape
    rw [← FE.out] at EZ ⊢
    have NE : Hid (NonE (.slice az (seenF l (l.take (j + 1))).length cz) (seenF l (l.take (j + 1)))) := .inr (by rw [FE.out]; intro h; have := insM_len out x; rw [h] at this; simp at this)
    have HM2 : Hid ((seenF l (l.take (j + 1))).length = (seenF l (l.take (j + 1))).length) := rfl
    obtain ⟨mz, hmz⟩ : ∃ z, (seenF l (l.take (j + 1))).length = z := ⟨_, rfl⟩
    have HMZ : Hid (mz = (seenF l (l.take (j + 1))).length) := hmz.symm
    rw [hmz] at EZ NE ⊢
    clear hHeld SK F1 Q5 PU TW hsq hnn HM hmz HM2 FE hbel
    go_wp2
    go_roundw
    case rel => exact ⟨j + 1, mz, by omega, by go_num, ⟨az, cz, rfl⟩, HMZ, NE, EZ, ZE⟩
    case measure => simp [intOf]; omega
end Go.Proofs.YtgjbnbojjgbmcaaGreat.Views

namespace Go.Proofs.YtgjbnbojjgbmcaaGreat.Covers
open Go.RowKit Go.WideShapes Ops Stamp Bags Marks Homes Go.Proofs.YtgjbnbojjgbmcaaGreat.Place
attribute [local go_sem ↓] Go.wp_at_zero Go.wp_at_succ
attribute [local go_sem] yielded_undef
def runE : Enc Run where
  sz := 3
  pos := by decide
  inn _ cs x := cs = [.int .u32 (x.t : Int), .int .u8 (x.r : Int), .int .i64 x.m]
  len := by rintro w cs x rfl; rfl
  one := by
    rintro w cs x rfl u hu
    simp only [List.mem_cons, List.not_mem_nil, or_false] at hu
    rcases hu with rfl | rfl | rfl <;> rfl
  keep := by rintro w w' cs x _ h; exact h
theorem runE_rows {w : World} : ∀ {cs : List Value} {l : List Run}, runE.rows w cs l → cs = runs l
  | _, [], h => h
  | _, _ :: _, ⟨c, d, h1, h2, h3⟩ => by
    rw [h1, show c = _ from h2, runE_rows h3]
    rfl
theorem shr_runs {w0 w : World} {v : Value} {l : List Run} (h : Shr runE 32 w0 w v l) : Runs w v l := by
  obtain ⟨cs, h1, h2⟩ := h
  have h3 := Sees.own h1
  rw [runE_rows h2] at h3
  exact h3
theorem cutN_step {p : List Run} {j r : Nat} (hj : j < p.length) (hr : 0 < r) :
    cutN (p.drop j) r = if (p.getD j zrun).m ≤ (r : Int) then p.getD j zrun :: cutN (p.drop (j + 1)) (r - (p.getD j zrun).m.toNat) else [mkRun (p.getD j zrun).t (p.getD j zrun).r (r : Int)] := by
  have e : p.drop j = p.getD j zrun :: p.drop (j + 1) := by
    rw [List.getD_eq_getElem?_getD, List.getElem?_eq_getElem hj]
    exact List.drop_eq_getElem_cons hj
  rw [e]
  show (if r = 0 then _ else _) = _
  rw [if_neg (by omega)]
set_option maxRecDepth 100000 in
set_option maxHeartbeats 4000000 in
theorem refCut_any {v : Value} {p : List Run} {w : World} (hv : Runs w v p) (hc : Chain p) (hl : p.length ≤ 100) (k : Nat) (hk : k ≤ 5000) :
    Calls Tryz.prog 184 #[v, .int .i64 (k : Int)] w fun e w' => ∃ v', e = .returned v' ∧ Runs w' v' (cutN p k) ∧ Below w.heap.size w w' := by
  obtain ⟨ao, cap, rfl⟩ := hv.shape
  obtain ⟨n, hn⟩ : ∃ n, n = p.length := ⟨_, rfl⟩
  have hnm : n ≤ 100 := by omega
  have HV : Hid (∀ W : World, Below w.heap.size w W → Runs W (.slice ao p.length cap) p) := fun W h => hv.keeps h
  have HN := Lib.hid hn
  have HC := Lib.hid hc
  rw [← hn]
  have S0 : Hid (Shr runE 32 w w (.slice none 0 0) []) := Shr.nil _ _ _ _
  have L0 : Hid (cutN p k = [] ++ cutN (p.drop 0) k) := rfl
  have M0 : Hid (0 = ([] : List Run).length) := rfl
  have B0 : Hid (Below w.heap.size w w) := Below.refl _ _
  obtain ⟨R, hR⟩ : ∃ R, cutN p k = R := ⟨_, rfl⟩
  rw [hR] at L0 ⊢
  clear hv hn hl hc hR
  go_enter Tryz.func184, Tryz.ntmps184
  go_wp2
  go_loopw [1, 5, 6] (fun y v i wr => ∃ (j r m : Nat) (L : List Run), j ≤ n ∧ m ≤ j ∧ r ≤ 5000 ∧ y = .int .i64 (r : Int) ∧ i = .int .i64 (j : Int) ∧ (∃ ao cap, v = .slice ao m cap) ∧ Hid (m = L.length) ∧ Hid (R = L ++ cutN (p.drop j) r) ∧ Hid (Shr runE 32 w wr v L) ∧ Hid (Below w.heap.size w wr)) (fun _ _ i _ => n - (intOf i).toNat)
  case atStart => exact ⟨0, k, 0, [], by omega, by omega, hk, rfl, rfl, ⟨none, 0, rfl⟩, M0, L0, S0, B0⟩
  case round =>
    clear S0 M0 B0 L0
    obtain ⟨j, r, m, L, hj, hmj, hr, rfl, rfl, ⟨aoL, capL, rfl⟩, hM, hL, hshr, hbel⟩ := hrel
    by_cases hjn : j < n
    rotate_left
    · have q3 : decide (j < n) = false := by simpa using hjn
      have hR : R = L := by
        have h1 := hL.out
        rw [List.drop_of_length_le (by have := HN.out; omega)] at h1
        simpa [cutN] using h1
      have HR : Hid (Runs wr (.slice aoL m capL) R) := by unfold Hid; rw [hR]; exact shr_runs hshr.out
      clear hR hL hM
      go_wp2
      go_ret
      exact ⟨_, rfl, HR.out, hbel.out⟩
    have q3 : decide (j < n) = true := by simpa using hjn
    by_cases hr0 : r = 0
    · subst hr0
      have q5 : decide ((0 : Int) < ((0 : Nat) : Int)) = false := rfl
      have hR : R = L := by
        have h1 := hL.out
        rw [cutN_zero] at h1
        simpa using h1
      have HR : Hid (Runs wr (.slice aoL m capL) R) := by unfold Hid; rw [hR]; exact shr_runs hshr.out
      clear hR hL hM
      go_wp2
      go_ret
      exact ⟨_, rfl, HR.out, hbel.out⟩
    have q4 : decide (0 < r) = true := decide_eq_true (by omega)
    have q4' : decide ((0 : Int) < (r : Int)) = true := decide_eq_true (by omega)
    have q6 : (0 : Int) ≤ (j : Int) := by omega
    have q7 : (j : Int) < (n : Int) := by omega
    obtain ⟨b, off, e, hb, h0, h1, h2⟩ := (HV.out wr hbel.out).at j (by rw [← HN.out]; exact hjn)
    subst e
    have hx1 : Go.Proofs.YtgjbnbojjgbmcaaGreat.Place.One (p.getD j zrun) := chain_one HC.out (by rw [← HN.out]; exact hjn)
    have hst := cutN_step (r := r) (by rw [← HN.out]; exact hjn) (by omega)
    obtain ⟨x, hx⟩ : ∃ x, p.getD j zrun = x := ⟨_, rfl⟩
    rw [hx] at h0 h1 h2 hx1 hst
    obtain ⟨o1, o2, o3, o4, o5, o6⟩ := hx1
    have hst2 := hL.out.trans (by rw [hst] : L ++ cutN (p.drop j) r = L ++ _)
    have INN : Hid (∀ z : Run, runE.inn w [.int .u32 (z.t : Int), .int .u8 (z.r : Int), .int .i64 z.m] z) := fun z => rfl
    obtain ⟨t, rr, mm, ht, hrr, hmm⟩ := x
    simp only at h0 h1 h2 o1 o2 o3 o4 o5 o6 hst2
    have hne : ¬ b = wr.heap.size := by omega
    clear hst hx hL
    by_cases hle : mm ≤ (r : Int)
    · rw [if_pos hle] at hst2
      obtain ⟨mn, rfl⟩ : ∃ mn : Nat, mm = (mn : Int) := ⟨mm.toNat, by omega⟩
      have d1 : decide ((r : Int) < (mn : Int)) = false := decide_eq_false (by omega)
      have d2 : decide (r < mn) = false := decide_eq_false (by omega)
      have e1 : (r : Int) - (mn : Int) = ((r - mn : Nat) : Int) := by omega
      have e2 : IntKind.i64.wrap ((r : Int) - (mn : Int)) = ((r - mn : Nat) : Int) := by rw [← e1]; exact IntWalk.i64_in _ (by omega)
      have HST : Hid (R = (L ++ [(⟨t, rr, (mn : Int), ht, hrr, hmm⟩ : Run)]) ++ cutN (p.drop (j + 1)) (r - mn)) := by
        unfold Hid
        rw [hst2, List.append_assoc]
        rfl
      have INX : Hid (runE.inn w [.int .u32 (t : Int), .int .u8 (rr : Int), .int .i64 (mn : Int)] (⟨t, rr, (mn : Int), ht, hrr, hmm⟩ : Run)) := INN.out ⟨t, rr, (mn : Int), ht, hrr, hmm⟩
      obtain ⟨X, hX⟩ : ∃ X : Run, (⟨t, rr, (mn : Int), ht, hrr, hmm⟩ : Run) = X := ⟨_, rfl⟩
      rw [hX] at HST INX
      have BL := Lib.hid ((Below.refl wr.heap.size wr).alloc (Nat.le_refl _) (.cells #[.int .u32 (t : Int), .int .u8 (rr : Int), .int .i64 (mn : Int)] 32))
      have SH := Lib.hid (hshr.out.keeps BL.out)
      have BW := Lib.hid (bt hbel.out BL.out)
      have HZ := Lib.hid BW.out.size
      have HG : Hid ((wr.alloc (.cells #[.int .u32 (t : Int), .int .u8 (rr : Int), .int .i64 (mn : Int)] 32)).heap.size = wr.heap.size + 1) := Array.size_push _
      obtain ⟨rn, hrn⟩ : ∃ rn, r - mn = rn := ⟨_, rfl⟩
      rw [hrn] at HST e1 e2
      have hrn5 : rn ≤ 5000 := by omega
      have HLL : Hid (m + 1 = (L ++ [X]).length) := by unfold Hid; rw [List.length_append, List.length_singleton, ← hM.out]
      clear hst2 INN hX o1 o2 o3 o6 hrn
      go_wp2_with (at_builtin; refine wpList_append_enc (E := runE) Tryz.underlying33 run_info rfl (w0 := w) (wp := wr.alloc (.cells #[.int .u32 (t : Int), .int .u8 (rr : Int), .int .i64 (mn : Int)] 32)) (by rfl) (.tmp 32) (.tmp 34) (by rfl) (by rfl) SH.out (G := wr.heap.size + 1) (by rfl) HG.out (c := #[.int .u32 (t : Int), .int .u8 (rr : Int), .int .i64 (mn : Int)]) INX.out hM.out (by omega) (by omega) HZ.out ?_)
      rintro v6 w6 s6 va vc rfl b6
      have S6 := Lib.hid s6
      have B6 := Lib.hid (BW.out.trans b6)
      clear s6 b6 SH BW HZ HG BL h0 h1 h2 hshr hbel
      go_wp2
      go_roundw
      case rel => exact ⟨j + 1, rn, m + 1, L ++ [X], by omega, by omega, hrn5, rfl, by go_num, ⟨va, vc, rfl⟩, HLL, HST, S6, B6⟩
      case measure => simp [intOf]; omega
    · rw [if_neg hle] at hst2
      have d1 : decide ((r : Int) < mm) = true := decide_eq_true (by omega)
      have HST : Hid (R = (L ++ [mkRun t rr (r : Int)]) ++ cutN (p.drop (j + 1)) 0) := by
        unfold Hid
        rw [hst2, cutN_zero, List.append_nil]
      have INX : Hid (runE.inn w [.int .u32 (t : Int), .int .u8 (rr : Int), .int .i64 (r : Int)] (mkRun t rr (r : Int))) := by
        have := INN.out (mkRun t rr (r : Int))
        rw [mkRun_t ht, mkRun_r hrr, mkRun_m (by omega)] at this
        exact this
      obtain ⟨X, hX⟩ : ∃ X : Run, mkRun t rr (r : Int) = X := ⟨_, rfl⟩
      rw [hX] at HST INX
      have BL := Lib.hid ((Below.refl wr.heap.size wr).alloc (Nat.le_refl _) (.cells #[.int .u32 (t : Int), .int .u8 (rr : Int), .int .i64 (r : Int)] 32))
      have SH := Lib.hid (hshr.out.keeps BL.out)
      have BW := Lib.hid (bt hbel.out BL.out)
      have HZ := Lib.hid BW.out.size
      have HG : Hid ((wr.alloc (.cells #[.int .u32 (t : Int), .int .u8 (rr : Int), .int .i64 (r : Int)] 32)).heap.size = wr.heap.size + 1) := Array.size_push _
      have e1 : (r : Int) - (r : Int) = 0 := by omega
      have HLL : Hid (m + 1 = (L ++ [X]).length) := by unfold Hid; rw [List.length_append, List.length_singleton, ← hM.out]
      clear hst2 INN hX o1 o2 o3 o4 o5 o6
      go_wp2_with (at_builtin; refine wpList_append_enc (E := runE) Tryz.underlying33 run_info rfl (w0 := w) (wp := wr.alloc (.cells #[.int .u32 (t : Int), .int .u8 (rr : Int), .int .i64 (r : Int)] 32)) (by rfl) (.tmp 32) (.tmp 34) (by rfl) (by rfl) SH.out (G := wr.heap.size + 1) (by rfl) HG.out (c := #[.int .u32 (t : Int), .int .u8 (rr : Int), .int .i64 (r : Int)]) INX.out hM.out (by omega) (by omega) HZ.out ?_)
      rintro v6 w6 s6 va vc rfl b6
      have S6 := Lib.hid s6
      have B6 := Lib.hid (BW.out.trans b6)
      clear s6 b6 SH BW HZ HG BL h0 h1 h2 hshr hbel
      go_wp2
      go_roundw
      case rel => exact ⟨j + 1, 0, m + 1, L ++ [X], by omega, by omega, by omega, rfl, by go_num, ⟨va, vc, rfl⟩, HLL, HST, S6, B6⟩
      case measure => simp [intOf]; omega
end Go.Proofs.YtgjbnbojjgbmcaaGreat.Covers

namespace Go.Proofs.YtgjbnbojjgbmcaaGreat.Homes
open Go.RowKit Go.WideShapes Stamp Go.Proofs.YtgjbnbojjgbmcaaGreat.Place Ops Codes Bags Marks
attribute [local go_sem ↓] Go.wp_at_zero Go.wp_at_succ
attribute [local go_sem] yielded_undef
/-- Two cells of a block stored. -/
def put2 (X : World) (g : Nat) (d0 d1 : Value) : World := (X.setCell ⟨g, 0, none⟩ d0).setCell ⟨g, 1, none⟩ d1
theorem put2_same {X : World} {g : Nat} {c0 c1 : Value} (d0 d1 : Value) {e : TypeId} (h : X.heap[g]? = some (.cells #[c0, c1] e)) : (put2 X g d0 d1).heap[g]? = some (.cells #[d0, d1] e) := set_blk h
theorem put2_other {X : World} {g k : Nat} (d0 d1 : Value) {o : Obj} (hk : k ≠ g) (h : X.heap[k]? = some o) : (put2 X g d0 d1).heap[k]? = some o := by
  unfold put2
  rw [heap_setCell_other _ _ _ _ hk, heap_setCell_other _ _ _ _ hk]
  exact h
theorem put2_below {B g : Nat} {W X : World} (d0 d1 : Value) (hg : B ≤ g) (h : Below B W X) : Below B W (put2 X g d0 d1) := set_below hg h
theorem frz2 {X : World} {g : Nat} {cs : Array Value} {e : TypeId} (h : X.heap[g]? = some (.cells cs e)) (o : Nat) : X.frozen? ⟨g, o, none⟩ = false := by simp [World.frozen?, h]
theorem homeM_take {live : List Opn} {p : List Run} {j : Nat} (hj : j < live.length) : homeM (live.take (j + 1)) p = if notBehind (live[j]'hj) p = true then idO (live[j]'hj) else homeM (live.take j) p := by
  rw [List.take_succ_eq_append_getElem hj, homeM_snoc]
set_option maxRecDepth 100000 in
set_option maxHeartbeats 8000000 in
theorem refHome_any {v u : Value} {live : List Opn} {p : List Run} {w : World} (hv : OpL w v live) (hu : Runs w u p) (hm : ∀ o ∈ live, mayO o = true) (hp : anyB p = true) :
    Calls Tryz.prog 182 #[v, u] w fun e w' => e = .returned (.agg #[.int .u32 ((homeM live p).t : Int), .int .u8 ((homeM live p).r : Int)]) ∧ Below w.heap.size w w' := by
  obtain ⟨ao, cap, rfl⟩ := hv.shape
  obtain ⟨n, hn⟩ : ∃ n, n = live.length := ⟨_, rfl⟩
  have hmx : n ≤ 9223372036854775807 := by rw [hn]; exact hv.max
  have HV : Hid (∀ W : World, Below w.heap.size w W → OpL W (.slice ao live.length cap) live) := fun W h => hv.keeps h
  have HN := Lib.hid hn
  have AP := (anyB_iff p).1 hp
  have HE : Hid (∀ (x : Opn) (y : Value) (W : World), x ∈ live → Runs w y x.pl → Below w.heap.size w W → Calls Tryz.prog 129 #[y, u] W fun e w' => e = .returned (.int .i64 (Go.Proofs.YtgjbnbojjgbmcaaGreat.Place.hold (all x.pl) (all p))) ∧ Below W.heap.size W w') := fun x y W hx hy h => by
    have M := (mayB_iff _).1 (mayO_parts (hm x hx)).2.1
    have hlp : p.length ≤ 100 := by
      rcases AP with rfl | h
      · simp
      · exact Nat.le_trans h.2.1 (by decide)
    exact held_any (hy.keeps h) (hu.keeps h) M.2.2.1 AP.chain (Nat.le_trans M.2.1 (by decide)) hlp
  rw [← hn]
  obtain ⟨wl, hwl⟩ : ∃ x, x = (w.alloc (.cells #[.int .u32 0, .int .u8 0] 28)).alloc (.cells #[.int .u32 0, .int .u8 0] 28) := ⟨_, rfl⟩
  have X0 : Hid (wl.heap[w.heap.size]? = some (.cells #[.int .u32 0, .int .u8 0] 28)) := by rw [hwl]; exact blk_old (blk_new rfl)
  have Y0 : Hid (wl.heap[w.heap.size + 1]? = some (.cells #[.int .u32 ((homeM (live.take 0) p).t : Int), .int .u8 ((homeM (live.take 0) p).r : Int)] 28)) := by rw [hwl]; exact blk_new (by simp)
  have B0 : Hid (Below w.heap.size w wl) := by rw [hwl]; exact ((Below.refl _ _).alloc (Nat.le_refl _) _).alloc (by simp) _
  have HW := Lib.hid hwl
  obtain ⟨R, hR⟩ : ∃ z, homeM live p = z := ⟨_, rfl⟩
  rw [hR]
  obtain ⟨T, r, hT, hr⟩ := R
  have HR := Lib.hid hR
  simp only
  clear hv hn hm hp AP hu hwl hR
  go_enter Tryz.func182, Tryz.ntmps182
  go_wp2
  rw [← HW.out]
  go_loopw [6] (fun i wr => ∃ j : Nat, j ≤ n ∧ i = .int .i64 (j : Int) ∧ Hid (wr.heap[w.heap.size]? = some (.cells #[.int .u32 0, .int .u8 0] 28)) ∧ Hid (wr.heap[w.heap.size + 1]? = some (.cells #[.int .u32 ((homeM (live.take j) p).t : Int), .int .u8 ((homeM (live.take j) p).r : Int)] 28)) ∧ Hid (Below w.heap.size w wr)) (fun i _ => n - (intOf i).toNat)
  case atStart => exact ⟨0, by omega, rfl, X0, Y0, B0⟩
  case round =>
    clear X0 Y0 B0 HW wl
    obtain ⟨j, hj, rfl, hx0, hy0, hbel⟩ := hrel
    by_cases hjn : j < n
    rotate_left
    · have q3 : decide (j < n) = false := by simpa using hjn
      have hkk : live.take j = live := List.take_of_length_le (by have := HN.out; omega)
      rw [hkk, HR.out] at hy0
      simp only at hy0
      have c0 := cell_of_row _ _ 0 _ _ _ hy0.out
      have c1 := cell_of_row _ _ 1 _ _ _ hy0.out
      have d0 := cell_of_row _ _ 0 _ _ _ hx0.out
      have d1 := cell_of_row _ _ 1 _ _ _ hx0.out
      have f0 : ∀ o, wr.frozen? ⟨w.heap.size, o, none⟩ = false := fun o => frz2 hx0.out o
      obtain ⟨WF, hWF⟩ : ∃ WF, WF = put2 wr w.heap.size (.int .u32 (T : Int)) (.int .u8 (r : Int)) := ⟨_, rfl⟩
      have HF := put2_same (.int .u32 (T : Int)) (.int .u8 (r : Int)) hx0.out
      have BF := put2_below (.int .u32 (T : Int)) (.int .u8 (r : Int)) (Nat.le_refl w.heap.size) hbel.out
      rw [← hWF] at HF BF
      have HF2 := Lib.hid HF
      have BF2 := Lib.hid BF
      unfold put2 at hWF
      have HW := Lib.hid hWF
      clear hkk hWF HF BF hx0 hy0 hbel
      go_wp2
      rw [← HW.out]
      have e0 := cell_of_row _ _ 0 _ _ _ HF2.out
      have e1 := cell_of_row _ _ 1 _ _ _ HF2.out
      exact bodyPost_ret (v := .agg #[.int .u32 (T : Int), .int .u8 (r : Int)]) (by simp [results, Tryz.results182, go_sem, e0, e1]) rfl ⟨rfl, BF2.out⟩
    have q3 : decide (j < n) = true := by simpa using hjn
    have q4 : (0 : Int) ≤ (j : Int) := by omega
    have q5 : (j : Int) < (n : Int) := by omega
    have hjl : j < live.length := by rw [← HN.out]; exact hjn
    obtain ⟨bb, oo, y, e, hbb, hru, h0, h1, h2, h3, h4⟩ := opl_at (HV.out w (Below.refl _ _)) j hjl
    subst e
    obtain ⟨x, hx⟩ : ∃ x, x = live[j]'hjl := ⟨_, rfl⟩
    rw [← hx] at hru h0 h1 h2 h4
    have hxm : x ∈ live := by rw [hx]; exact List.getElem_mem _
    have hst := homeM_take (p := p) hjl
    rw [← hx] at hst
    have HX := Lib.hid (HE.out x y wr hxm hru hbel.out)
    have hnb : notBehind x p = decide (Go.Proofs.YtgjbnbojjgbmcaaGreat.Place.hold (all x.pl) (all p) ≤ 0) := rfl
    obtain ⟨h, hh⟩ : ∃ z, Go.Proofs.YtgjbnbojjgbmcaaGreat.Place.hold (all x.pl) (all p) = z := ⟨_, rfl⟩
    rw [hh] at HX hnb
    obtain ⟨t, ht⟩ : ∃ z, x.t = z := ⟨_, rfl⟩
    obtain ⟨rx, hrx⟩ : ∃ z, x.r = z := ⟨_, rfl⟩
    rw [ht] at h1
    rw [hrx] at h2
    have HID : Hid ((idO x).t = t ∧ (idO x).r = rx) := ⟨ht, hrx⟩
    have HST := Lib.hid hst
    have HNB := Lib.hid hnb
    have C1 : Hid (∀ W : World, Below w.heap.size w W → W.cell? ⟨bb, oo + j * 5 + 1, none⟩ = some (.int .u32 (t : Int)) ∧ W.cell? ⟨bb, oo + j * 5 + 2, none⟩ = some (.int .u8 (rx : Int))) := fun W h => ⟨(h.cell (p := ⟨bb, oo + j * 5 + 1, none⟩) hbb).trans h1, (h.cell (p := ⟨bb, oo + j * 5 + 2, none⟩) hbb).trans h2⟩
    replace h3 := (hbel.out.cell (p := ⟨bb, oo + j * 5 + 3, none⟩) hbb).trans h3
    obtain ⟨yo, yc, rfl⟩ := hru.shape
    obtain ⟨ny, hny⟩ : ∃ n, x.pl.length = n := ⟨_, rfl⟩
    rw [hny] at HX h3
    clear hx hxm hst hnb hh ht hrx h0 h1 h2 h4 hny hru hbb
    go_wp2_with fail
    clear h3
    refine HX.out.mono ?_
    rintro e w1 ⟨rfl, b1⟩
    have B1 := Lib.hid (bt hbel.out b1)
    have X1 := Lib.hid (blk_below b1 hx0.out)
    have Y1 := Lib.hid (blk_below b1 hy0.out)
    obtain ⟨c1, c2⟩ := C1.out w1 B1.out
    clear b1 HX hx0 hy0 hbel
    by_cases hle : h ≤ 0
    rotate_left
    · have d1 : decide (h ≤ 0) = false := decide_eq_false hle
      have Y2 : Hid (w1.heap[w.heap.size + 1]? = some (.cells #[.int .u32 ((homeM (live.take (j + 1)) p).t : Int), .int .u8 ((homeM (live.take (j + 1)) p).r : Int)] 28)) := by
        unfold Hid
        rw [HST.out, if_neg (by rw [HNB.out, d1]; decide)]
        exact Y1.out
      clear HST HNB HID Y1 hle c1 c2
      go_wp2
      go_roundw
      case rel => exact ⟨j + 1, by omega, by go_num, X1, Y2, B1⟩
      case measure => simp [intOf]; omega
    have d1 : decide (h ≤ 0) = true := decide_eq_true hle
    have k0 := cell_of_row _ _ 0 _ _ _ Y1.out
    have k1 := cell_of_row _ _ 1 _ _ _ Y1.out
    have f0 : ∀ o, w1.frozen? ⟨w.heap.size + 1, o, none⟩ = false := fun o => frz2 Y1.out o
    obtain ⟨WF, hWF⟩ : ∃ WF, WF = put2 w1 (w.heap.size + 1) (.int .u32 (t : Int)) (.int .u8 (rx : Int)) := ⟨_, rfl⟩
    have Y2 : Hid (WF.heap[w.heap.size + 1]? = some (.cells #[.int .u32 ((homeM (live.take (j + 1)) p).t : Int), .int .u8 ((homeM (live.take (j + 1)) p).r : Int)] 28)) := by
      unfold Hid
      rw [HST.out, if_pos (by rw [HNB.out, d1]), HID.out.1, HID.out.2, hWF]
      exact put2_same _ _ Y1.out
    have X2 : Hid (WF.heap[w.heap.size]? = some (.cells #[.int .u32 0, .int .u8 0] 28)) := by
      rw [hWF]
      exact put2_other _ _ (by omega) X1.out
    have B2 : Hid (Below w.heap.size w WF) := by
      rw [hWF]
      exact put2_below _ _ (Nat.le_succ _) B1.out
    unfold put2 at hWF
    have HW := Lib.hid hWF
    clear hWF HST HNB HID Y1 X1 B1 hle
    go_wp2
    rw [← HW.out]
    clear k0 k1 f0 c1 c2 HW
    go_roundw
    case rel => exact ⟨j + 1, by omega, by go_num, X2, Y2, B2⟩
    case measure => simp [intOf]; omega
theorem sects_take {live : List Opn} {j : Nat} (hj : j < live.length) : sectsM (live.take (j + 1)) = sectsM (live.take j) ++ [idO (live[j]'hj)] := by
  unfold sectsM
  rw [List.take_succ_eq_append_getElem hj, List.map_append]
  rfl
set_option maxRecDepth 100000 in
set_option maxHeartbeats 4000000 in
theorem refSections_any {v : Value} {live : List Opn} {w : World} (hv : OpL w v live) (hl : live.length ≤ 1000000) :
    Calls Tryz.prog 100 #[v] w fun e w' => ∃ ao cap, e = .returned (.slice ao (live.length + 1) cap) ∧ OwnI w' w.heap.size (.slice ao (live.length + 1) cap) (sectsM live) ∧ Below w.heap.size w w' := by
  obtain ⟨ao, cap, rfl⟩ := hv.shape
  obtain ⟨n, hn⟩ : ∃ n, n = live.length := ⟨_, rfl⟩
  have HV : Hid (∀ W : World, Below w.heap.size w W → OpL W (.slice ao live.length cap) live) := fun W h => hv.keeps h
  have HN := Lib.hid hn
  rw [← hn] at hl ⊢
  have S0 : Hid (Shr idE 28 w (w.alloc (.cells #[.int .u32 0, .int .u8 0] 28)) (.slice (some ⟨w.heap.size, 0, none⟩) 1 1) (sectsM (live.take 0))) :=
    by
    have e0 : sectsM (live.take 0) = [zid] := by simp [sectsM]
    unfold Hid
    rw [e0]
    exact ⟨[.int .u32 0, .int .u8 0], ⟨rfl, .inr ⟨w.heap.size, 1, #[.int .u32 0, .int .u8 0], rfl, Nat.le_refl _, heap_alloc_new w _, by simp, by decide, rfl, rfl⟩⟩, ⟨[.int .u32 0, .int .u8 0], [], rfl, rfl, rfl⟩⟩
  have B0 : Hid (Below w.heap.size w (w.alloc (.cells #[.int .u32 0, .int .u8 0] 28))) := (Below.refl _ _).alloc (Nat.le_refl _) _
  clear hv hn
  go_enter Tryz.func100, Tryz.ntmps100
  go_wp2
  go_loopw [3, 4] (fun v i wr => ∃ j : Nat, j ≤ n ∧ i = .int .i64 (j : Int) ∧ (∃ ao cap, v = .slice ao (j + 1) cap) ∧ Hid (Shr idE 28 w wr v (sectsM (live.take j))) ∧ Hid (Below w.heap.size w wr)) (fun _ i _ => n - (intOf i).toNat)
  case atStart => exact ⟨0, by omega, rfl, ⟨_, _, rfl⟩, S0, B0⟩
  case round =>
    clear S0 B0
    obtain ⟨j, hj, rfl, ⟨aoL, capL, rfl⟩, hshr, hbel⟩ := hrel
    by_cases hjn : j < n
    rotate_left
    · have q3 : decide (j < n) = false := by simpa using hjn
      have hkk : live.take j = live := List.take_of_length_le (by have := HN.out; omega)
      obtain rfl : j = n := by omega
      rw [hkk] at hshr
      clear hkk
      go_wp2
      go_ret
      exact ⟨_, _, rfl, OwnI.of hshr.out, hbel.out⟩
    have q3 : decide (j < n) = true := by simpa using hjn
    have q4 : (0 : Int) ≤ (j : Int) := by omega
    have q5 : (j : Int) < (n : Int) := by omega
    have hjl : j < live.length := by rw [← HN.out]; exact hjn
    obtain ⟨bb, oo, y, e, hbb, hru, h0, h1, h2, h3, h4⟩ := opl_at (HV.out wr hbel.out) j hjl
    subst e
    obtain ⟨x, hx⟩ : ∃ x, x = live[j]'hjl := ⟨_, rfl⟩
    rw [← hx] at h1 h2
    have INN : Hid (idE.inn w [.int .u32 (x.t : Int), .int .u8 (x.r : Int)] (idO x)) := rfl
    have FT : Hid (sectsM (live.take (j + 1)) = sectsM (live.take j) ++ [idO x]) := by rw [hx]; exact sects_take hjl
    have HM : Hid (j + 1 = (sectsM (live.take j)).length) := by unfold Hid; rw [sectsM_len, List.length_take, ← HN.out]; omega
    obtain ⟨t, ht⟩ : ∃ z, x.t = z := ⟨_, rfl⟩
    obtain ⟨r, hr⟩ : ∃ z, x.r = z := ⟨_, rfl⟩
    rw [ht] at h1
    rw [hr] at h2
    rw [ht, hr] at INN
    have HZ : Hid (w.heap.size ≤ wr.heap.size) := hbel.out.size
    clear hx hru ht hr h0 h3 h4
    go_wp2_with (at_builtin; refine wpList_append_enc (E := idE) Tryz.underlying58 id_info rfl (w0 := w) (wp := wr) (by rfl) (.tmp 13) (.tmp 19) (by rfl) (by rfl) hshr.out (G := wr.heap.size) (by rfl) rfl (c := #[.int .u32 (t : Int), .int .u8 (r : Int)]) INN.out HM.out (by omega) (by omega) HZ.out ?_)
    rintro v6 w6 s6 va vc rfl b6
    have S6 := Lib.hid s6
    rw [← FT.out] at S6
    have B6 := Lib.hid (hbel.out.trans b6)
    clear s6 b6 h1 h2 hshr
    go_wp2
    go_roundw
    case rel => exact ⟨j + 1, by omega, by go_num, ⟨va, vc, rfl⟩, S6, B6⟩
    case measure => simp [intOf]; omega
end Go.Proofs.YtgjbnbojjgbmcaaGreat.Homes

namespace Go.Proofs.YtgjbnbojjgbmcaaGreat.Marks
open Go.RowKit Go.WideShapes Stamp Go.Proofs.YtgjbnbojjgbmcaaGreat.Place Ops Codes Bags
attribute [local go_sem ↓] Go.wp_at_zero Go.wp_at_succ
attribute [local go_sem] yielded_undef
theorem refHeldM_any {a b : Value} {x y : Opn} {w : World} (ha : Runs w a x.pl) (hb : Runs w b y.pl) (hx : mayO x = true) (hy : mayO y = true) :
    Calls Tryz.prog 129 #[a, b] w fun e w' => e = .returned (.int .i64 (cmp x.pl y.pl)) ∧ Below w.heap.size w w' := by
  have m1 := (mayB_iff _).1 (mayO_parts hx).2.1
  have m2 := (mayB_iff _).1 (mayO_parts hy).2.1
  have e : cmp x.pl y.pl = Go.Proofs.YtgjbnbojjgbmcaaGreat.Place.hold (all x.pl) (all y.pl) := by unfold cmp; rw [if_pos ⟨anyB_may (mayO_parts hx).2.1, anyB_may (mayO_parts hy).2.1⟩]
  rw [e]
  exact held_any ha hb m1.2.2.1 m2.2.2.1 (Nat.le_trans m1.2.1 (by decide)) (Nat.le_trans m2.2.1 (by decide))
set_option maxRecDepth 100000 in
set_option maxHeartbeats 16000000 in
theorem refLives_any {v0 : Value} {l : List Opn} {w : World} (hv : OpL w v0 l) (hm : ∀ o ∈ l, mayO o = true) (hl : l.length ≤ 1024) :
    Calls Tryz.prog 91 #[v0] w fun e w' => ∃ v', e = .returned v' ∧ OpL w' v' (livesM l l) ∧ Below w.heap.size w w' := by
  obtain ⟨ao, cap, rfl⟩ := hv.shape
  obtain ⟨n, hn⟩ : ∃ n, n = l.length := ⟨_, rfl⟩
  have hnm : n ≤ 1024 := by omega
  have HV : Hid (∀ W : World, Below w.heap.size w W → OpL W (.slice ao l.length cap) l) := fun W h => hv.keeps h
  have HN := Lib.hid hn
  have HMY := Lib.hid hm
  have EN : Hid (∀ (x : Opn) (W : World), Below w.heap.size w W → Calls Tryz.prog 128 #[.slice ao n cap, .agg #[.int .u32 (x.t : Int), .int .u8 (x.r : Int)]] W fun e w' => e = .returned (.bool (ended l (idO x))) ∧ Below W.heap.size W w') := fun x W h => by
    have := refEnded_any (idO x) (HV.out W h) HMY.out
    rw [← hn] at this
    exact this
  rw [← hn]
  have S0 : Hid (ShrO w w (.slice none 0 0) (livesM l (l.take 0))) := Shr.nil _ _ _ _
  have M0 : Hid (0 = (livesM l (l.take 0)).length) := rfl
  have B0 : Hid (Below w.heap.size w w) := Below.refl _ _
  clear hv hn hl hm
  go_enter Tryz.func91, Tryz.ntmps91
  go_wp2
  go_loopw [3, 4] (fun v i wr => ∃ j m : Nat, j ≤ n ∧ i = .int .i64 (j : Int) ∧ (∃ ao cap, v = .slice ao m cap) ∧ Hid (m = (livesM l (l.take j)).length) ∧ Hid (ShrO w wr v (livesM l (l.take j))) ∧ Hid (Below w.heap.size w wr)) (fun _ i _ => n - (intOf i).toNat)
  case atStart => exact ⟨0, 0, by omega, rfl, ⟨none, 0, rfl⟩, M0, S0, B0⟩
  case round =>
    clear S0 M0 B0
    obtain ⟨j, m, hj, rfl, ⟨aoL, capL, rfl⟩, HM, hshr, hbel⟩ := hrel
    by_cases hjn : j < n
    rotate_left
    · have q3 : decide (j < n) = false := by simpa using hjn
      have hkk : l.take j = l := List.take_of_length_le (by have := HN.out; omega)
      rw [hkk] at hshr
      clear hkk
      go_wp2
      go_ret
      exact ⟨_, rfl, hshr.out.seq hbel.out, hbel.out⟩
    have q3 : decide (j < n) = true := by simpa using hjn
    have q4 : (0 : Int) ≤ (j : Int) := by omega
    have q5 : (j : Int) < (n : Int) := by omega
    have hjl : j < l.length := by rw [← HN.out]; exact hjn
    have hmj : m ≤ j := by have h1 := livesM_le l (l.take j); rw [List.length_take] at h1; have := HM.out; omega
    obtain ⟨bb, oo, u, e, hbb, hru, h0, h1, h2, h3, h4⟩ := opl_at (HV.out w (Below.refl _ _)) j hjl
    subst e
    obtain ⟨x, hx⟩ : ∃ x, x = l[j]'hjl := ⟨_, rfl⟩
    rw [← hx] at hru h0 h1 h2 h4
    have HO : Hid (∀ v : Value, opv x v = .agg #[.int .u8 (x.k : Int), .int .u32 (x.t : Int), .int .u8 (x.r : Int), v, .int .i64 x.p]) := fun v => rfl
    replace h0 := ((hbel.out).cell (p := ⟨bb, oo + j * 5, none⟩) hbb).trans h0
    replace h1 := ((hbel.out).cell (p := ⟨bb, oo + j * 5 + 1, none⟩) hbb).trans h1
    replace h2 := ((hbel.out).cell (p := ⟨bb, oo + j * 5 + 2, none⟩) hbb).trans h2
    replace h3 := ((hbel.out).cell (p := ⟨bb, oo + j * 5 + 3, none⟩) hbb).trans h3
    replace h4 := ((hbel.out).cell (p := ⟨bb, oo + j * 5 + 4, none⟩) hbb).trans h4
    have hbo := hbb
    replace hbb := Nat.lt_of_lt_of_le hbb (hbel.out).size
    obtain ⟨uo, uc, rfl⟩ := hru.shape
    obtain ⟨nu, hnu⟩ : ∃ n, n = x.pl.length := ⟨_, rfl⟩
    have HNU := Lib.hid hnu
    rw [← hnu] at hru h3
    clear hnu
    have hxm : x ∈ l := by rw [hx]; exact List.getElem_mem _
    have MX := Lib.hid (HMY.out x hxm)
    have RX : Hid (Runs w (.slice uo nu uc) x.pl) := hru
    have INN : Hid (opE.inn w [.int .u8 (x.k : Int), .int .u32 (x.t : Int), .int .u8 (x.r : Int), .slice uo nu uc, .int .i64 x.p] x) := ⟨_, rfl, hru⟩
    have ST : Hid (livesM l (l.take (j + 1)) = if x.k = 2 ∧ ended l (idO x) = false then insM (livesM l (l.take j)) x else livesM l (l.take j)) := by unfold Hid; rw [List.take_succ_eq_append_getElem hjl, livesM_snoc, ← hx]; rfl
    have EX := Lib.hid (EN.out x)
    have ML : Hid (∀ y ∈ livesM l (l.take j), mayO y = true) := fun y hy => HMY.out y (List.mem_of_mem_take (mem_livesM.1 hy).1)
    obtain ⟨out, hout⟩ : ∃ z, livesM l (l.take j) = z := ⟨_, rfl⟩
    rw [hout] at HM hshr ST ML
    obtain ⟨en, hen⟩ : ∃ b, ended l (idO x) = b := ⟨_, rfl⟩
    rw [hen] at EX ST
    clear hx hru hxm hout hen
    obtain ⟨k, hk⟩ : ∃ z, x.k = z := ⟨_, rfl⟩
    obtain ⟨t, ht⟩ : ∃ z, x.t = z := ⟨_, rfl⟩
    obtain ⟨r, hr⟩ : ∃ z, x.r = z := ⟨_, rfl⟩
    obtain ⟨p, hp⟩ : ∃ z, x.p = z := ⟨_, rfl⟩
    rw [hk, ht, hr, hp] at HO
    rw [hk] at h0
    rw [ht] at h1
    rw [hr] at h2
    rw [hp] at h4
    rw [hk, ht, hr, hp] at INN
    rw [ht, hr] at EX
    rw [hk] at ST
    have F1 : Hid (FiveAt wr bb (oo + j * 5) (.int .u8 (k : Int)) (.int .u32 (t : Int)) (.int .u8 (r : Int)) (.slice uo nu uc) (.int .i64 p)) := ⟨hbb, h0, h1, h2, h3, h4⟩
    have SK : Hid (∀ w' : World, Below wr.heap.size wr w' → Below wr.heap.size wr w' ∧ w'.cell? ⟨bb, oo + j * 5, none⟩ = some (.int .u8 (k : Int)) ∧ w'.cell? ⟨bb, oo + j * 5 + 1, none⟩ = some (.int .u32 (t : Int)) ∧ w'.cell? ⟨bb, oo + j * 5 + 2, none⟩ = some (.int .u8 (r : Int)) ∧ w'.cell? ⟨bb, oo + j * 5 + 3, none⟩ = some (.slice uo nu uc) ∧ w'.cell? ⟨bb, oo + j * 5 + 4, none⟩ = some (.int .i64 p)) := fun W h => ⟨h, (F1.out.keeps h).2⟩
    clear hk ht hr hp HO
    by_cases hk2 : k = 2
    rotate_left
    · have qk : ((k : Int) == 2) = false := by simp; omega
      rw [show (if k = 2 ∧ en = false then insM out x else out) = out from if_neg (fun h => hk2 h.1)] at ST
      rw [← ST.out] at HM hshr
      go_wp2
      go_roundw
      case rel => exact ⟨j + 1, m, by omega, by go_num, ⟨aoL, capL, rfl⟩, HM, Lib.hid (hshr.out.keeps (Below.refl _ _)), Lib.hid (bt hbel.out (Below.refl _ _))⟩
      case measure => simp [intOf]; omega
    subst hk2
    have ST1 : Hid (en = true → livesM l (l.take (j + 1)) = out) := fun h => by rw [ST.out, h]; exact if_neg (fun h => by cases h.2)
    have ST2 : Hid (en = false → livesM l (l.take (j + 1)) = insM out x) := fun h => by rw [ST.out, h]; exact if_pos ⟨rfl, rfl⟩
    clear ST
    go_wp2_with fail
    refine (EX.out _ hbel.out).mono ?_
    rintro e w5 ⟨rfl, b5⟩
    cases en
    rotate_left
    · have e9 := ST1.out rfl
      rw [← e9] at HM hshr
      clear e9
      go_wp2
      go_roundw
      case rel => exact ⟨j + 1, m, by omega, by go_num, ⟨aoL, capL, rfl⟩, HM, Lib.hid (hshr.out.keeps b5), Lib.hid (bt hbel.out b5)⟩
      case measure => simp [intOf]; omega
    have ST := Lib.hid (ST2.out rfl)
    clear ST1 ST2
    have hsh := Lib.hid (hshr.out.keeps b5)
    have hb2 := Lib.hid (bt hbel.out b5)
    have F2 := Lib.hid (F1.out.keeps b5)
    clear b5 hshr hbel F1 SK EX hbb h0 h1 h2 h3 h4
    have hmo : out.length = m := HM.out.symm
    go_wp2
    go_loopw [5] (fun a wz => ∃ i : Nat, i ≤ m ∧ a = .int .i64 (i : Int) ∧ Hid (∀ k (h : k < out.length), k < i → ahead (out[k]'h) x = true) ∧ Hid (Below w5.heap.size w5 wz)) (fun a _ => m - (intOf a).toNat)
    case atStart => exact ⟨0, by omega, rfl, fun k h hk => by omega, Below.refl _ _⟩
    case round =>
      obtain ⟨i, him, rfl, hah, hbz⟩ := hrel
      have OZ := Lib.hid ((hsh.out.keeps hbz.out).seq (bt hb2.out hbz.out))
      have k0 : i ≤ capL := by have := (shr_fix hsh.out).cap; omega
      have k1 : (0 : Int) ≤ (i : Int) := by omega
      have k2 : (i : Int) ≤ (capL : Int) := by omega
      have k3 : (i : Int) ≤ (m : Int) := by omega
      by_cases hlt : i < m
      · have q6 : decide ((i : Int) < (m : Int)) = true := decide_eq_true (by omega)
        have q7 : decide (i < m) = true := decide_eq_true (by omega)
        have q8 : (i : Int) < (m : Int) := by omega
        have hil : i < out.length := by omega
        obtain ⟨bby, ooy, uy, ey, hbby, hruy, h0y, h1y, h2y, h3y, h4y⟩ := opl_at (OZ.out) i hil
        subst ey
        obtain ⟨xy, hxy⟩ : ∃ x, x = out[i]'hil := ⟨_, rfl⟩
        rw [← hxy] at hruy h0y h1y h2y h4y
        have HOy : Hid (∀ v : Value, opv xy v = .agg #[.int .u8 (xy.k : Int), .int .u32 (xy.t : Int), .int .u8 (xy.r : Int), v, .int .i64 xy.p]) := fun v => rfl
        have hym : xy ∈ out := by rw [hxy]; exact List.getElem_mem _
        have HE : Hid (∀ W : World, Below wr.heap.size wr W → Calls Tryz.prog 129 #[uy, .slice uo nu uc] W fun e w' => e = .returned (.int .i64 (cmp xy.pl x.pl)) ∧ Below W.heap.size W w') := fun W h => refHeldM_any (hruy.keeps h) (RX.out.keeps (bt (bt hb2.out hbz.out) h)) (ML.out xy hym) MX.out
        obtain ⟨c, hc⟩ : ∃ c, cmp xy.pl x.pl = c := ⟨_, rfl⟩
        rw [hc] at HE
        have HAH : Hid (ahead (out[i]'hil) x = decide (c < 0)) := by unfold Hid ahead; rw [← hxy, hc]
        have f3 := ((F2.out.keeps hbz.out).2).2.2.2.1
        have g3 := (F2.out.keeps hbz.out).1
        have SK : Hid (∀ w' : World, Below wr.heap.size wr w' → Below wr.heap.size wr w' ∧ w'.cell? ⟨bb, oo + j * 5 + 3, none⟩ = some (.slice uo nu uc) ∧ w'.cell? ⟨bby, ooy + i * 5 + 3, none⟩ = some uy) := fun W h => ⟨h, (h.cell (p := ⟨bb, oo + j * 5 + 3, none⟩) g3).trans f3, (h.cell (p := ⟨bby, ooy + i * 5 + 3, none⟩) hbby).trans h3y⟩
        clear h0y h1y h2y h3y h4y f3 g3 hbby hruy hym hxy hc HOy
        by_cases hcn : c < 0
        · have q9 : decide (c < 0) = true := decide_eq_true hcn
          have AH : Hid (∀ k (h : k < out.length), k < i + 1 → ahead (out[k]'h) x = true) := fun k h hk => by
            by_cases e : k = i
            · subst e; rw [HAH.out]; exact q9
            · exact hah.out k h (by omega)
          clear HAH hah
          go_wp2
          refine wp_region_held_drew (S := fun w' => Below wr.heap.size wr w' ∧ w'.cell? ⟨bb, oo + j * 5 + 3, none⟩ = some (.slice uo nu uc) ∧ w'.cell? ⟨bby, ooy + i * 5 + 3, none⟩ = some uy) (by kernel_rfl) (SK.out _ (drew1 _)) (fun hHeld => ?_)
          refine rN 0 ?_
          refine rN 1 ?_
          refine rN 2 ?_
          refine rN 3 ?_
          refine rN 4 ?_
          refine rN 5 ?_
          refine rN 6 ?_
          refine rN 7 ?_
          refine rN 8 ?_
          refine rN 9 ?_
          refine rN 10 ?_
          refine rN 11 ?_
          refine rN 12 ?_
          refine rN 13 ?_
          refine rN 14 ?_
          refine wpAnyH_ready (rs := [15]) (by kernel_rfl) (by simp) ?_
          refine AllReadyH.cons rfl (fun K hK => ?_) ?zd15
          case zd15 => exact AllReadyH.nil
          go_simp
          refine (HE.out _ hHeld.1).mono ?_
          rintro e w9d15 ⟨rfl, b9⟩
          refine hK.out _ _ (SK.out _ (bt hHeld.1 b9)) (fun hNew => ?_)
          clear hHeld
          have hHeld := hNew
          clear hNew hK K
          refine rX ?_
          refine rN 16 ?_
          refine rN 17 ?_
          refine wpAnyH_done (by kernel_rfl) ?_ _
          go_wp2
          go_roundw
          case rel => exact ⟨i + 1, by omega, by go_num, AH, Lib.hid (bt hbz.out hHeld.1)⟩
          case measure => simp [intOf]; omega
        · have q9 : decide (c < 0) = false := decide_eq_false hcn
          have AT : Hid (atM out x = i) := atM_is (by omega) hah.out (fun h => by rw [HAH.out]; exact q9)
          clear HAH
          go_wp2
          refine wp_region_held_drew (S := fun w' => Below wr.heap.size wr w' ∧ w'.cell? ⟨bb, oo + j * 5 + 3, none⟩ = some (.slice uo nu uc) ∧ w'.cell? ⟨bby, ooy + i * 5 + 3, none⟩ = some uy) (by kernel_rfl) (SK.out _ (drew1 _)) (fun hHeld => ?_)
          refine rN 0 ?_
          refine rN 1 ?_
          refine rN 2 ?_
          refine rN 3 ?_
          refine rN 4 ?_
          refine rN 5 ?_
          refine rN 6 ?_
          refine rN 7 ?_
          refine rN 8 ?_
          refine rN 9 ?_
          refine rN 10 ?_
          refine rN 11 ?_
          refine rN 12 ?_
          refine rN 13 ?_
          refine rN 14 ?_
          refine wpAnyH_ready (rs := [15]) (by kernel_rfl) (by simp) ?_
          refine AllReadyH.cons rfl (fun K hK => ?_) ?ze15
          case ze15 => exact AllReadyH.nil
          go_simp
          refine (HE.out _ hHeld.1).mono ?_
          rintro e w9e15 ⟨rfl, b9⟩
          refine hK.out _ _ (SK.out _ (bt hHeld.1 b9)) (fun hNew => ?_)
          clear hHeld
          have hHeld := hNew
          clear hNew hK K
          refine rX ?_
          refine rN 16 ?_
          refine rN 17 ?_
          refine wpAnyH_done (by kernel_rfl) ?_ _
          have SZ := Lib.hid ((hsh.out.keeps hbz.out).keeps hHeld.1)
          have BZ := Lib.hid (bt (bt hb2.out hbz.out) hHeld.1)
          have FZ := Lib.hid (F2.out.keeps (bt hbz.out hHeld.1))
          clear hHeld OZ hsh hb2 F2 hbz hah
          rcases shr_drop SZ.out him with ⟨e1, -, -, -⟩ | ⟨ab, aof, a', e1, hif, hpart⟩
          · cases e1
          have PT := Lib.hid hpart
          cases e1
          clear hpart
          try dsimp only at hif
          have HN1 : Hid (i = ([] : List Opn).length + (out.take i).length) := by unfold Hid; rw [List.length_nil, List.length_take]; omega
          have HN2 : Hid (i = (out.take i).length) := by unfold Hid; rw [List.length_take]; omega
          have HN3 : Hid (m + 1 = (out.take i ++ [x]).length + (out.drop i).length) := by unfold Hid; rw [List.length_append, List.length_take, List.length_drop, List.length_singleton]; omega
          have HTK : Hid (Seq (fixE (fixE opE w) w9e15) w9e15 (.slice (some ⟨bby, ooy, none⟩) i capL) (out.take i)) := (shr_fix SZ.out).take (m := i) (by omega)
          go_wp2_with (at_builtin; refine wpList_append_shr (E := fixE opE w) Tryz.underlying22 op_info rfl (w0 := w9e15) (by rfl) (.tmp 48) (.tmp 51) (by rfl) (by rfl) (Shr.nil _ _ _ _) (by rfl) HTK.out HN1.out (by omega) (by omega) (Nat.le_refl _) ?_)
          rintro v6 w6 s6 a6 c6 rfl b6
          have S6 := Lib.hid s6
          have W6 := Lib.hid b6
          obtain ⟨h0, h1, h2, h3, h4⟩ := (FZ.out.keeps b6).2
          clear s6 b6 FZ HTK
          go_wp2_with (at_builtin; refine wpList_append_enc (E := fixE opE w) Tryz.underlying22 op_info rfl (w0 := w9e15) (wp := w6) (by rfl) (.tmp 53) (.tmp 58) (by rfl) (by rfl) S6.out (G := w6.heap.size) (by rfl) rfl (c := #[.int .u8 2, .int .u32 (t : Int), .int .u8 (r : Int), .slice uo nu uc, .int .i64 p]) INN.out HN2.out (by omega) (by omega) W6.out.size ?_)
          rintro v7 w7 s7 a7 c7 rfl b7
          have S7 := Lib.hid s7
          have W7 := Lib.hid (W6.out.trans b7)
          clear s7 b7 S6 W6 h0 h1 h2 h3 h4
          have P7 : Hid (Seq (fixE (fixE opE w) w9e15) w7 (.slice (some a') (m - i) (capL - i)) (out.drop i)) := (Seq.keeps PT.out W7.out)
          go_wp2_with (at_builtin; refine wpList_append_shr (E := fixE opE w) Tryz.underlying22 op_info rfl (w0 := w9e15) (by rfl) (.tmp 60) (.tmp 63) (by rfl) (by rfl) S7.out (by rfl) P7.out HN3.out (by omega) (by omega) W7.out.size ?_)
          rintro v8 w8 s8 a8 c8 rfl b8
          have S8 := Lib.hid s8
          have B8 := Lib.hid (bt BZ.out (W7.out.trans b8))
          have O8 : Hid (ShrO w w8 (.slice a8 (m + 1) c8) (livesM l (l.take (j + 1)))) := by
            unfold Hid
            have h9 := shr_unfix S8.out BZ.out.size
            rw [ST.out]
            unfold insM
            rw [AT.out]
            simpa using h9
          have M8 : Hid (m + 1 = (livesM l (l.take (j + 1))).length) := by unfold Hid; rw [ST.out, insM_len]; omega
          clear S8
          go_wp2
          go_roundw
          case rel => exact ⟨j + 1, m + 1, by omega, by go_num, ⟨a8, c8, rfl⟩, M8, O8, B8⟩
          case measure => simp [intOf]; omega
      · have him3 : ¬ (i : Int) < (m : Int) := by omega
        have q6 : decide ((i : Int) < (m : Int)) = false := decide_eq_false (by omega)
        have q7 : decide (i < m) = false := decide_eq_false (by omega)
        have AT : Hid (atM out x = i) := atM_is (by omega) hah.out (fun h => by omega)
        have SK : Hid (∀ w' : World, Below wr.heap.size wr w' → Below wr.heap.size wr w' ∧ True) := fun W h => ⟨h, trivial⟩
        go_wp2
        refine wp_region_held_drew (S := fun w' => Below wr.heap.size wr w' ∧ True) (by kernel_rfl) (SK.out _ (drew1 _)) (fun hHeld => ?_)
        refine rN 0 ?_
        refine rN 1 ?_
        refine rN 2 ?_
        refine rN 3 ?_
        refine rN 4 ?_
        refine rV 5 ?_
        refine rV 6 ?_
        refine rV 7 ?_
        refine rV 8 ?_
        refine rV 9 ?_
        refine rV 10 ?_
        refine rV 11 ?_
        refine rV 12 ?_
        refine rV 13 ?_
        refine rV 14 ?_
        refine rV 15 ?_
        refine rV 16 ?_
        refine rN 17 ?_
        refine wpAnyH_done (by kernel_rfl) ?_ _
        have SZ := Lib.hid ((hsh.out.keeps hbz.out).keeps hHeld.1)
        have BZ := Lib.hid (bt (bt hb2.out hbz.out) hHeld.1)
        have FZ := Lib.hid (F2.out.keeps (bt hbz.out hHeld.1))
        clear hHeld OZ hsh hb2 F2 hbz hah
        generalize wr.drew = WB at SZ BZ FZ ⊢
        rcases shr_drop SZ.out him with ⟨e1, e2, e3, e4⟩ | ⟨ab, aof, a', e1, hif, hpart⟩
        · subst e1 e2 e3 e4
          obtain rfl : i = 0 := by omega
          have HN1 : Hid (0 = ([] : List Opn).length + (([] : List Opn).take 0).length) := by unfold Hid; rw [List.length_nil, List.length_take]; omega
          have HN2 : Hid (0 = (([] : List Opn).take 0).length) := by unfold Hid; rw [List.length_take]; omega
          have HN3 : Hid (0 + 1 = (([] : List Opn).take 0 ++ [x]).length + (([] : List Opn).drop 0).length) := by unfold Hid; rw [List.length_append, List.length_take, List.length_drop, List.length_singleton]; omega
          have HTK : Hid (Seq (fixE (fixE opE w) WB) WB (.slice none 0 0) (([] : List Opn).take 0)) := (shr_fix SZ.out).take (m := 0) (by omega)
          go_wp2_with (at_builtin; refine wpList_append_shr (E := fixE opE w) Tryz.underlying22 op_info rfl (w0 := WB) (by rfl) (.tmp 48) (.tmp 51) (by rfl) (by rfl) (Shr.nil _ _ _ _) (by rfl) HTK.out HN1.out (by omega) (by omega) (Nat.le_refl _) ?_)
          rintro v6 w6 s6 a6 c6 rfl b6
          have S6 := Lib.hid s6
          have W6 := Lib.hid b6
          obtain ⟨h0, h1, h2, h3, h4⟩ := (FZ.out.keeps b6).2
          clear s6 b6 FZ HTK
          go_wp2_with (at_builtin; refine wpList_append_enc (E := fixE opE w) Tryz.underlying22 op_info rfl (w0 := WB) (wp := w6) (by rfl) (.tmp 53) (.tmp 58) (by rfl) (by rfl) S6.out (G := w6.heap.size) (by rfl) rfl (c := #[.int .u8 2, .int .u32 (t : Int), .int .u8 (r : Int), .slice uo nu uc, .int .i64 p]) INN.out HN2.out (by omega) (by omega) W6.out.size ?_)
          rintro v7 w7 s7 a7 c7 rfl b7
          have S7 := Lib.hid s7
          have W7 := Lib.hid (W6.out.trans b7)
          clear s7 b7 S6 W6 h0 h1 h2 h3 h4
          have P7 : Hid (Seq (fixE (fixE opE w) WB) w7 (.slice none 0 0) ([] : List Opn)) := Seq.nil _ _
          go_wp2_with (at_builtin; refine wpList_append_shr (E := fixE opE w) Tryz.underlying22 op_info rfl (w0 := WB) (by rfl) (.tmp 60) (.tmp 63) (by rfl) (by rfl) S7.out (by rfl) P7.out HN3.out (by omega) (by omega) W7.out.size ?_)
          rintro v8 w8 s8 a8 c8 rfl b8
          have S8 := Lib.hid s8
          have B8 := Lib.hid (bt BZ.out (W7.out.trans b8))
          have O8 : Hid (ShrO w w8 (.slice a8 (0 + 1) c8) (livesM l (l.take (j + 1)))) := by
            unfold Hid
            have h9 := shr_unfix S8.out BZ.out.size
            rw [ST.out]
            unfold insM
            rw [AT.out]
            simpa using h9
          have M8 : Hid (0 + 1 = (livesM l (l.take (j + 1))).length) := by unfold Hid; rw [ST.out, insM_len]; omega
          clear S8
          go_wp2
          go_roundw
          case rel => exact ⟨j + 1, 0 + 1, by omega, by go_num, ⟨a8, c8, rfl⟩, M8, O8, B8⟩
          case measure => simp [intOf]; omega
        have PT := Lib.hid hpart
        try dsimp only at hif
        subst e1
        clear hpart
        have HN1 : Hid (i = ([] : List Opn).length + (out.take i).length) := by unfold Hid; rw [List.length_nil, List.length_take]; omega
        have HN2 : Hid (i = (out.take i).length) := by unfold Hid; rw [List.length_take]; omega
        have HN3 : Hid (m + 1 = (out.take i ++ [x]).length + (out.drop i).length) := by unfold Hid; rw [List.length_append, List.length_take, List.length_drop, List.length_singleton]; omega
        have HTK : Hid (Seq (fixE (fixE opE w) WB) WB (.slice (some ⟨ab, aof, none⟩) i capL) (out.take i)) := (shr_fix SZ.out).take (m := i) (by omega)
        go_wp2_with (at_builtin; refine wpList_append_shr (E := fixE opE w) Tryz.underlying22 op_info rfl (w0 := WB) (by rfl) (.tmp 48) (.tmp 51) (by rfl) (by rfl) (Shr.nil _ _ _ _) (by rfl) HTK.out HN1.out (by omega) (by omega) (Nat.le_refl _) ?_)
        rintro v6 w6 s6 a6 c6 rfl b6
        have S6 := Lib.hid s6
        have W6 := Lib.hid b6
        obtain ⟨h0, h1, h2, h3, h4⟩ := (FZ.out.keeps b6).2
        clear s6 b6 FZ HTK
        go_wp2_with (at_builtin; refine wpList_append_enc (E := fixE opE w) Tryz.underlying22 op_info rfl (w0 := WB) (wp := w6) (by rfl) (.tmp 53) (.tmp 58) (by rfl) (by rfl) S6.out (G := w6.heap.size) (by rfl) rfl (c := #[.int .u8 2, .int .u32 (t : Int), .int .u8 (r : Int), .slice uo nu uc, .int .i64 p]) INN.out HN2.out (by omega) (by omega) W6.out.size ?_)
        rintro v7 w7 s7 a7 c7 rfl b7
        have S7 := Lib.hid s7
        have W7 := Lib.hid (W6.out.trans b7)
        clear s7 b7 S6 W6 h0 h1 h2 h3 h4
        have P7 : Hid (Seq (fixE (fixE opE w) WB) w7 (.slice (some a') (m - i) (capL - i)) (out.drop i)) := (Seq.keeps PT.out W7.out)
        go_wp2_with (at_builtin; refine wpList_append_shr (E := fixE opE w) Tryz.underlying22 op_info rfl (w0 := WB) (by rfl) (.tmp 60) (.tmp 63) (by rfl) (by rfl) S7.out (by rfl) P7.out HN3.out (by omega) (by omega) W7.out.size ?_)
        rintro v8 w8 s8 a8 c8 rfl b8
        have S8 := Lib.hid s8
        have B8 := Lib.hid (bt BZ.out (W7.out.trans b8))
        have O8 : Hid (ShrO w w8 (.slice a8 (m + 1) c8) (livesM l (l.take (j + 1)))) := by
          unfold Hid
          have h9 := shr_unfix S8.out BZ.out.size
          rw [ST.out]
          unfold insM
          rw [AT.out]
          simpa using h9
        have M8 : Hid (m + 1 = (livesM l (l.take (j + 1))).length) := by unfold Hid; rw [ST.out, insM_len]; omega
        clear S8
        go_wp2
        go_roundw
        case rel => exact ⟨j + 1, m + 1, by omega, by go_num, ⟨a8, c8, rfl⟩, M8, O8, B8⟩
        case measure => simp [intOf]; omega
end Go.Proofs.YtgjbnbojjgbmcaaGreat.Marks
