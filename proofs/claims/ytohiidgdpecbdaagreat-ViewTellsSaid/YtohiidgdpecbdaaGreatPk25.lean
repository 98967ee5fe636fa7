/- octavoref13.Where, Begin, All, Of, Ahead, Span: what each answers. Conditions: the slices' cells are operations, runs. octavoref14.Counting, asked, Homed, Counts, Known, Version: what each answers. Conditions: the slices' cells are operations. octavoref15.Of, Elements, Before, Offset, At: what each answers. Conditions: the slices' cells are operations, runs. Elements of the call's own, their places too; what stays of them where they are written over. Conditions: none. octavo/view.Offset: its closure, and the search. Conditions: elements in order, a place that may be, or the beginning. -/
import Derived.Test.YtohiidgdpecbdaaGreatChecked
import Derived.WalkKit
import Derived.WalkSpells
import Derived.WalkLawsBesides
import Derived.Laws.BytesArg
import Derived.Lib.Hide
import Derived.Deep.LoopGhost
import Derived.Laws.AppendOwnNone
import Derived.Laws.OwnMore
import Derived.WideShapes
import Derived.Maps.AppendAt
import Derived.RegionTactic
import Derived.Deep.RegionHeld3
import Derived.Deep.DrawnRows
import Derived.Deep.QuietTactic
import Derived.BigQuiet
import Derived.IntWalk
import Derived.Deep.DeepCutAuto
import Derived.ScopeJumps
import Derived.Test.YtohiidgdpecbdaaGreatProg
import Derived.LoopTactic
import Derived.Laws.EntriesVeiled
import Derived.RowKit
import Derived.Lib.DecodeN
import Derived.Lib.RuneBytes
import Derived.Shelf.Abstract
import Derived.Test.YtohiidgdpecbdaaGreatRw
import Derived.Test.YtohiidgdpecbdaaGreatPk05
import Derived.Test.YtohiidgdpecbdaaGreatPk23
import Derived.Test.YtohiidgdpecbdaaGreatPk21
import Derived.Test.YtohiidgdpecbdaaGreatPk04
import Derived.Test.YtohiidgdpecbdaaGreatPk20
import Derived.Test.YtohiidgdpecbdaaGreatPk03
import Derived.Test.YtohiidgdpecbdaaGreatPk02
import Derived.Test.YtohiidgdpecbdaaGreatPk01
import Derived.Test.YtohiidgdpecbdaaGreatPk19
import Derived.Test.YtohiidgdpecbdaaGreatPk24
import Derived.Test.YtohiidgdpecbdaaGreatPk22

namespace Go.Proofs.YtohiidgdpecbdaaGreat.Homes
open Go.RowKit Go.WideShapes Stamp Go.Proofs.YtohiidgdpecbdaaGreat.Place Ops Codes Bags Marks
attribute [local go_sem ↓] Go.wp_at_zero Go.wp_at_succ
attribute [local go_sem] yielded_undef
set_option maxRecDepth 100000 in
set_option maxHeartbeats 4000000 in
theorem refWhere_any {v : Value} {live : List Opn} (s : Id) {w : World} (hv : OpL w v live) (hl : live.length ≤ 1000000) :
    Calls Tryz.prog 30 #[v, .agg #[.int .u32 (s.t : Int), .int .u8 (s.r : Int)]] w fun e w' => e = .returned (.int .i64 (whereM live s)) ∧ Below w.heap.size w w' := by
  have B0 : Hid (Below w.heap.size w (w.alloc (.cells #[.int .u32 (s.t : Int), .int .u8 (s.r : Int)] 25))) := (Below.refl _ _).alloc (Nat.le_refl _) _
  have P0 : Hid (Pair (w.alloc (.cells #[.int .u32 (s.t : Int), .int .u8 (s.r : Int)] 25)) w.heap.size (.int .u32 (s.t : Int)) (.int .u8 (s.r : Int))) := pair_new _ _ _ _
  have SE := Lib.hid (refSections_any (hv.keeps B0.out) hl)
  have HN : Hid (live.length + 1 = (sectsM live).length) := (sectsM_len live).symm
  have HW : Hid (∀ j (hj : j < (sectsM live).length), (∀ i (h : i < (sectsM live).length), i < j → (sectsM live)[i]'h ≠ s) → (sectsM live)[j]'hj = s → whereM live s = j) := fun j hj h1 h2 => where_is hj h1 h2
  have HZ : Hid ((∀ i (h : i < (sectsM live).length), (sectsM live)[i]'h ≠ s) → whereM live s = -1) := fun h => where_no h
  obtain ⟨q, hq⟩ : ∃ q, whereM live s = q := ⟨_, rfl⟩
  rw [hq] at HW HZ ⊢
  obtain ⟨L, hL⟩ : ∃ z, sectsM live = z := ⟨_, rfl⟩
  rw [hL] at SE HN HW HZ
  obtain ⟨n, hn⟩ : ∃ n, live.length + 1 = n := ⟨_, rfl⟩
  rw [hn] at SE HN
  have hnm : n ≤ 1000001 := by omega
  obtain ⟨S, hS⟩ : ∃ z, s = z := ⟨_, rfl⟩
  have HSI : Hid (∀ x : Id, x = s ↔ x.t = s.t ∧ x.r = s.r) := fun x => Id.eq_iff
  rw [hS] at HW HZ
  have HSE : Hid (∀ x : Id, x = S ↔ x.t = s.t ∧ x.r = s.r) := by rw [← hS]; exact HSI.out
  obtain ⟨ts, rs, hts, hrs⟩ := s
  simp only at SE P0 B0 HSE ⊢
  clear hv hq hL hn hl hS HSI
  go_enter Tryz.func30, Tryz.ntmps30
  go_wp2_with fail
  refine SE.out.mono ?_
  rintro e w1 ⟨lo, lc, rfl, o1, b1⟩
  have B1 := Lib.hid (bt B0.out b1)
  have P1 := Lib.hid (P0.out.keeps b1)
  have SI : Hid (∀ W : World, Below w1.heap.size w1 W → Ids W (.slice lo n lc) L) := fun W h => (Go.Proofs.YtohiidgdpecbdaaGreat.Ids.own o1).keeps h
  have Z1 : Hid (Below w1.heap.size w1 w1) := Below.refl _ _
  clear o1 b1 SE B0 P0
  go_wp2
  go_loopw [6] (fun i wr => ∃ j : Nat, j ≤ n ∧ i = .int .i64 (j : Int) ∧ Hid (∀ k (h : k < L.length), k < j → L[k]'h ≠ S) ∧ Hid (Below w1.heap.size w1 wr)) (fun i _ => n - (intOf i).toNat)
  case atStart => exact ⟨0, by omega, rfl, fun k h hk => by omega, Z1⟩
  case round =>
    clear Z1
    obtain ⟨j, hj, rfl, hno, hbel⟩ := hrel
    have BW := Lib.hid (bt B1.out hbel.out)
    by_cases hjn : j < n
    rotate_left
    · have q3 : decide (j < n) = false := by simpa using hjn
      obtain rfl := HZ.out (fun i h => hno.out i h (by have := HN.out; omega))
      go_wp2
      go_ret
      exact ⟨rfl, BW.out⟩
    have q3 : decide (j < n) = true := by simpa using hjn
    have q4 : (0 : Int) ≤ (j : Int) := by omega
    have q5 : (j : Int) < (n : Int) := by omega
    have hjl : j < L.length := by rw [← HN.out]; exact hjn
    obtain ⟨bb, oo, e, hbb, h0, h1⟩ := Ids.at (SI.out wr hbel.out) j hjl
    subst e
    rw [getD_get hjl] at h0 h1
    obtain ⟨x, hx⟩ : ∃ x, L[j]'hjl = x := ⟨_, rfl⟩
    rw [hx] at h0 h1
    have HX : Hid (L[j]'hjl = x) := hx
    have HXS := Lib.hid (HSE.out x)
    obtain ⟨t, r, ht, hr⟩ := x
    simp only at h0 h1 HXS
    have P2 := (P1.out.keeps hbel.out)
    obtain ⟨hlt, f0, f1⟩ := P2
    clear hx hbb
    by_cases he : t = ts ∧ r = rs
    · obtain ⟨rfl, rfl⟩ := he
      obtain rfl := HW.out j hjl hno.out (by rw [HX.out]; exact HXS.out.2 ⟨rfl, rfl⟩)
      have BD : Hid (Below w.heap.size w wr.drew) := BW.out.drew
      clear HXS HX HW HZ hno
      go_wp2
      go_region
      go_wp2
      go_ret
      exact ⟨rfl, BD.out⟩
    have NO : Hid (∀ k (h : k < L.length), k < j + 1 → L[k]'h ≠ S) := fun k h hk => by
      by_cases e : k = j
      · subst e
        rw [HX.out]
        intro e2
        exact he (HXS.out.1 e2)
      · exact hno.out k h (by omega)
    have BD : Hid (Below w1.heap.size w1 wr.drew) := hbel.out.drew
    have hne : ¬ t = ts ∨ (t = ts ∧ ¬ r = rs) := by
      by_cases h : t = ts
      · exact .inr ⟨h, fun h2 => he ⟨h, h2⟩⟩
      · exact .inl h
    clear HXS HX HW HZ hno he BW
    rcases hne with hne | ⟨rfl, hne⟩
    · have hi : ¬ ((t : Int) = (ts : Int)) := by omega
      go_wp2
      go_region
      go_wp2
      go_roundw
      case rel => exact ⟨j + 1, by omega, by go_num, NO, BD⟩
      case measure => simp [intOf]; omega
    · have hi : ¬ ((r : Int) = (rs : Int)) := by omega
      go_wp2
      go_region
      go_wp2
      go_roundw
      case rel => exact ⟨j + 1, by omega, by go_num, NO, BD⟩
      case measure => simp [intOf]; omega
end Go.Proofs.YtohiidgdpecbdaaGreat.Homes

namespace Go.Proofs.YtohiidgdpecbdaaGreat.Covers
open Go.RowKit Go.WideShapes Stamp Go.Proofs.YtohiidgdpecbdaaGreat.Place Ops Codes Bags Marks Homes
attribute [local go_sem ↓] Go.wp_at_zero Go.wp_at_succ
attribute [local go_sem] yielded_undef
set_option maxRecDepth 100000 in
set_option maxHeartbeats 16000000 in
theorem refCounting_any {v u0 : Value} {l live : List Opn} (s : Id) {w : World} (hv : OpL w v l) (hu : OpL w u0 live) (hl : l.length ≤ 1000000) (hm : ∀ o ∈ l, mayO o = true) (hmm : ∀ o ∈ live, mayO o = true) :
    Calls Tryz.prog 65 #[v, u0, .agg #[.int .u32 (s.t : Int), .int .u8 (s.r : Int)]] w fun e w' => ∃ v', e = .returned v' ∧ OpL w' v' (countL l live s) ∧ Below w.heap.size w w' := by
  obtain ⟨ao, cap, rfl⟩ := hv.shape
  obtain ⟨wl, hwl⟩ : ∃ x, x = w.alloc (.cells #[.int .u32 (s.t : Int), .int .u8 (s.r : Int)] 25) := ⟨_, rfl⟩
  have B0 : Hid (Below w.heap.size w wl) := by rw [hwl]; exact (Below.refl _ _).alloc (Nat.le_refl _) _
  have P0 : Hid (Pair wl w.heap.size (.int .u32 (s.t : Int)) (.int .u8 (s.r : Int))) := by rw [hwl]; exact pair_new _ _ _ _
  have HW := Lib.hid hwl
  have IN : Hid (Calls Tryz.prog 107 #[.slice ao l.length cap, u0, .agg #[.int .u32 (s.t : Int), .int .u8 (s.r : Int)]] wl fun e w' => ∃ v', e = .returned v' ∧ OpL w' v' (inL l live s) ∧ Below wl.heap.size wl w') := refIn14_any s (hv.keeps B0.out) (hu.keeps B0.out) hl hm hmm
  have hal : (inL l live s).length ≤ 1000000 := Nat.le_trans (inL_sub l live s).length_le hl
  have IS : Hid (∀ (x : Opn) (y : Value) (W : World), x ∈ inL l live s → Runs W y x.pl → Below w.heap.size w W → Calls Tryz.prog 108 #[.slice ao l.length cap, u0, .agg #[.int .u32 (s.t : Int), .int .u8 (s.r : Int)], opv x y] W fun e w' => e = .returned (.bool (isB l live s x)) ∧ Below W.heap.size W w') := fun x y W hx hy h => refIs14_any s (hv.keeps h) (hu.keeps h) hy (hm x (mem_inL.1 hx).1) hmm
  obtain ⟨au, cu, rfl⟩ := hu.shape
  unfold countL
  obtain ⟨PB, hPB⟩ : ∃ PB : Opn → Bool, isB l live s = PB := ⟨_, rfl⟩
  rw [hPB] at IS ⊢
  obtain ⟨A, hA⟩ : ∃ A, inL l live s = A := ⟨_, rfl⟩
  rw [hA] at IN IS hal ⊢
  have M0 : Hid (0 = ((A.take 0).filter PB).length) := rfl
  obtain ⟨ts, rs, hts, hrs⟩ := s
  simp only at P0 HW IN IS ⊢
  obtain ⟨nl, hnl⟩ : ∃ nl, live.length = nl := ⟨_, rfl⟩
  obtain ⟨n0, hn0⟩ : ∃ n0, l.length = n0 := ⟨_, rfl⟩
  rw [hnl, hn0] at IN IS ⊢
  obtain ⟨n, hn⟩ : ∃ n, n = A.length := ⟨_, rfl⟩
  have hnm : n ≤ 1000000 := by omega
  have HN := Lib.hid hn
  clear hv hu hl hm hmm hwl hPB hA hnl hn0 hal hn
  go_enter Tryz.func65, Tryz.ntmps65
  obtain ⟨_, d0, d1⟩ := P0.out
  go_wp2_with fail
  rw [← HW.out]
  refine IN.out.mono ?_
  rintro e wk ⟨va, rfl, ol, bk⟩
  have BK := Lib.hid (bt B0.out bk)
  have PK := Lib.hid (P0.out.keeps bk)
  have HV : Hid (∀ W : World, Below wk.heap.size wk W → OpL W va A) := fun W h => ol.keeps h
  obtain ⟨aa, ca, rfl⟩ := ol.shape
  have S0 : Hid (Shr opE 62 wk wk (.slice none 0 0) ((A.take 0).filter PB)) := Shr.nil _ _ _ _
  have Z0 : Hid (Below wk.heap.size wk wk) := Below.refl _ _
  rw [← HN.out]
  clear d0 d1 IN HW B0 P0 bk ol
  go_wp2
  go_loopw [7, 9] (fun v i wr => ∃ j m : Nat, j ≤ n ∧ i = .int .i64 (j : Int) ∧ (∃ ao cap, v = .slice ao m cap) ∧ Hid (m = ((A.take j).filter PB).length) ∧ Hid (Shr opE 62 wk wr v ((A.take j).filter PB)) ∧ Hid (Below wk.heap.size wk wr)) (fun _ i _ => n - (intOf i).toNat)
  case atStart => exact ⟨0, 0, by omega, rfl, ⟨none, 0, rfl⟩, M0, S0, Z0⟩
  case round =>
    clear S0 M0 Z0
    obtain ⟨j, m, hj, rfl, ⟨aoL, capL, rfl⟩, HM, hshr, hbel⟩ := hrel
    by_cases hjn : j < n
    rotate_left
    · have q3 : decide (j < n) = false := by simpa using hjn
      have hkk : A.take j = A := List.take_of_length_le (by have := HN.out; omega)
      rw [hkk] at hshr
      have BE := Lib.hid (bt BK.out hbel.out)
      have SE := Lib.hid (hshr.out.seq hbel.out)
      clear hkk
      go_wp2
      go_ret
      exact ⟨_, rfl, SE.out, BE.out⟩
    have q3 : decide (j < n) = true := by simpa using hjn
    have q4 : (0 : Int) ≤ (j : Int) := by omega
    have q5 : (j : Int) < (n : Int) := by omega
    have hjl : j < A.length := by rw [← HN.out]; exact hjn
    obtain ⟨bb, oo, u, e, hbb, hru, h0, h1, h2, h3, h4⟩ := opl_at (HV.out wk (Below.refl _ _)) j hjl
    subst e
    obtain ⟨x, hx⟩ : ∃ x, x = A[j]'hjl := ⟨_, rfl⟩
    rw [← hx] at hru h0 h1 h2 h4
    have HO : Hid (∀ v : Value, opv x v = .agg #[.int .u8 (x.k : Int), .int .u32 (x.t : Int), .int .u8 (x.r : Int), v, .int .i64 x.p]) := fun v => rfl
    replace h0 := ((hbel.out).cell (p := ⟨bb, oo + j * 5, none⟩) hbb).trans h0
    replace h1 := ((hbel.out).cell (p := ⟨bb, oo + j * 5 + 1, none⟩) hbb).trans h1
    replace h2 := ((hbel.out).cell (p := ⟨bb, oo + j * 5 + 2, none⟩) hbb).trans h2
    replace h3 := ((hbel.out).cell (p := ⟨bb, oo + j * 5 + 3, none⟩) hbb).trans h3
    replace h4 := ((hbel.out).cell (p := ⟨bb, oo + j * 5 + 4, none⟩) hbb).trans h4
    have hbo := hbb
    replace hbb := Nat.lt_of_lt_of_le hbb (hbel.out).size
    obtain ⟨uo, uc, rfl⟩ := hru.shape
    obtain ⟨nu, hnu⟩ : ∃ n, n = x.pl.length := ⟨_, rfl⟩
    have HNU := Lib.hid hnu
    rw [← hnu] at hru h3
    clear hnu
    have hxm : x ∈ A := by rw [hx]; exact List.getElem_mem _
    have INN : Hid (opE.inn wk [.int .u8 (x.k : Int), .int .u32 (x.t : Int), .int .u8 (x.r : Int), .slice uo nu uc, .int .i64 x.p] x) := ⟨_, rfl, hru⟩
    have CX : Hid (∀ W : World, Below wr.heap.size wr W → Calls Tryz.prog 108 #[.slice ao n0 cap, .slice au nl cu, .agg #[.int .u32 (ts : Int), .int .u8 (rs : Int)], opv x (.slice uo nu uc)] W fun e w' => e = .returned (.bool (PB x)) ∧ Below W.heap.size W w') := fun W h => IS.out x _ W hxm (hru.keeps (bt hbel.out h)) (bt BK.out (bt hbel.out h))
    have FT := Lib.hid (filter_take (P := PB) hjl)
    rw [← hx] at FT
    obtain ⟨q, hq⟩ : ∃ b, PB x = b := ⟨_, rfl⟩
    rw [hq] at CX FT
    clear hx hru hq hxm
    obtain ⟨k, hk⟩ : ∃ z, x.k = z := ⟨_, rfl⟩
    obtain ⟨t, ht⟩ : ∃ z, x.t = z := ⟨_, rfl⟩
    obtain ⟨r, hr⟩ : ∃ z, x.r = z := ⟨_, rfl⟩
    obtain ⟨p, hp⟩ : ∃ z, x.p = z := ⟨_, rfl⟩
    rw [hk, ht, hr, hp] at HO
    rw [hk] at h0
    rw [ht] at h1
    rw [hr] at h2
    rw [hp] at h4
    simp only [HO.out] at CX
    rw [hk, ht, hr, hp] at INN
    have F1 : Hid (FiveAt wr bb (oo + j * 5) (.int .u8 (k : Int)) (.int .u32 (t : Int)) (.int .u8 (r : Int)) (.slice uo nu uc) (.int .i64 p)) := ⟨hbb, h0, h1, h2, h3, h4⟩
    have SK : Hid (∀ w' : World, Below wr.heap.size wr w' → Below wr.heap.size wr w' ∧ w'.cell? ⟨bb, oo + j * 5, none⟩ = some (.int .u8 (k : Int)) ∧ w'.cell? ⟨bb, oo + j * 5 + 1, none⟩ = some (.int .u32 (t : Int)) ∧ w'.cell? ⟨bb, oo + j * 5 + 2, none⟩ = some (.int .u8 (r : Int)) ∧ w'.cell? ⟨bb, oo + j * 5 + 3, none⟩ = some (.slice uo nu uc) ∧ w'.cell? ⟨bb, oo + j * 5 + 4, none⟩ = some (.int .i64 p) ∧ w'.cell? ⟨w.heap.size, 0, none⟩ = some (.int .u32 (ts : Int)) ∧ w'.cell? ⟨w.heap.size, 1, none⟩ = some (.int .u8 (rs : Int))) := fun W h => by
      have a1 := (F1.out.keeps h).2
      have a2 := PK.out.keeps (bt hbel.out h)
      exact ⟨h, a1.1, a1.2.1, a1.2.2.1, a1.2.2.2.1, a1.2.2.2.2, a2.2.1, a2.2.2⟩
    clear hk ht hr hp HO h0 h1 h2 h3 h4 HV IS PK
    cases q
    · have FN : Hid ((if false = true then [x] else []) = []) := rfl
      go_wp2
      refine wp_region_held_drew (S := fun w' => Below wr.heap.size wr w' ∧ w'.cell? ⟨bb, oo + j * 5, none⟩ = some (.int .u8 (k : Int)) ∧ w'.cell? ⟨bb, oo + j * 5 + 1, none⟩ = some (.int .u32 (t : Int)) ∧ w'.cell? ⟨bb, oo + j * 5 + 2, none⟩ = some (.int .u8 (r : Int)) ∧ w'.cell? ⟨bb, oo + j * 5 + 3, none⟩ = some (.slice uo nu uc) ∧ w'.cell? ⟨bb, oo + j * 5 + 4, none⟩ = some (.int .i64 p) ∧ w'.cell? ⟨w.heap.size, 0, none⟩ = some (.int .u32 (ts : Int)) ∧ w'.cell? ⟨w.heap.size, 1, none⟩ = some (.int .u8 (rs : Int))) (by kernel_rfl) (SK.out _ (drew1 _)) (fun hHeld => ?_)
      refine rN 0 ?_
      refine rN 1 ?_
      refine rN 2 ?_
      refine rN 3 ?_
      refine rN 4 ?_
      refine rN 5 ?_
      refine rN 6 ?_
      refine wpAnyH_ready (rs := [7]) (by kernel_rfl) (by simp) ?_
      refine AllReadyH.cons rfl (fun K hK => ?_) ?za7
      case za7 => exact AllReadyH.nil
      go_simp
      refine (CX.out _ hHeld.1).mono ?_
      rintro e w9a7 ⟨rfl, b9⟩
      refine hK.out _ _ (SK.out _ (bt hHeld.1 b9)) (fun hNew => ?_)
      clear hHeld
      have hHeld := hNew
      clear hNew hK K
      refine rX ?_
      refine wpAnyH_done (by kernel_rfl) ?_ _
      rw [FN.out, List.append_nil] at FT
      rw [← FT.out] at HM
      have S2 := Lib.hid (hshr.out.keeps hHeld.1)
      rw [← FT.out] at S2
      have B2 := Lib.hid (bt hbel.out hHeld.1)
      clear hHeld hshr hbel F1 SK
      go_wp2
      go_roundw
      case rel => exact ⟨j + 1, m, by omega, by go_num, ⟨aoL, capL, rfl⟩, HM, S2, B2⟩
      case measure => simp [intOf]; omega
    have FN : Hid ((if true = true then [x] else []) = [x]) := rfl
    go_wp2
    refine wp_region_held_drew (S := fun w' => Below wr.heap.size wr w' ∧ w'.cell? ⟨bb, oo + j * 5, none⟩ = some (.int .u8 (k : Int)) ∧ w'.cell? ⟨bb, oo + j * 5 + 1, none⟩ = some (.int .u32 (t : Int)) ∧ w'.cell? ⟨bb, oo + j * 5 + 2, none⟩ = some (.int .u8 (r : Int)) ∧ w'.cell? ⟨bb, oo + j * 5 + 3, none⟩ = some (.slice uo nu uc) ∧ w'.cell? ⟨bb, oo + j * 5 + 4, none⟩ = some (.int .i64 p) ∧ w'.cell? ⟨w.heap.size, 0, none⟩ = some (.int .u32 (ts : Int)) ∧ w'.cell? ⟨w.heap.size, 1, none⟩ = some (.int .u8 (rs : Int))) (by kernel_rfl) (SK.out _ (drew1 _)) (fun hHeld => ?_)
    refine rN 0 ?_
    refine rN 1 ?_
    refine rN 2 ?_
    refine rN 3 ?_
    refine rN 4 ?_
    refine rN 5 ?_
    refine rN 6 ?_
    refine wpAnyH_ready (rs := [7]) (by kernel_rfl) (by simp) ?_
    refine AllReadyH.cons rfl (fun K hK => ?_) ?zb7
    case zb7 => exact AllReadyH.nil
    go_simp
    refine (CX.out _ hHeld.1).mono ?_
    rintro e w9b7 ⟨rfl, b9⟩
    refine hK.out _ _ (SK.out _ (bt hHeld.1 b9)) (fun hNew => ?_)
    clear hHeld
    have hHeld := hNew
    clear hNew hK K
    refine rX ?_
    refine wpAnyH_done (by kernel_rfl) ?_ _
    rw [FN.out] at FT
    have S2 := Lib.hid (hshr.out.keeps hHeld.1)
    have B2 := Lib.hid (bt hbel.out hHeld.1)
    have HZ := Lib.hid B2.out.size
    have hll := filter_take_len (P := PB) (l := A) j
    have HMM := Lib.hid (show (m + 1) * 48 ≤ 140737488355328 ∧ m ≤ 1000000000000 by have := HM.out; have := HN.out; omega)
    obtain ⟨h0, h1, h2, h3, h4⟩ := (F1.out.keeps hHeld.1).2
    clear hHeld hshr hll F1 SK
    go_wp2_with (at_builtin; refine wpList_append_enc (E := opE) Tryz.underlying22 op_info rfl (w0 := wk) (wp := w9b7) (by rfl) (.tmp 28) (.tmp 33) (by rfl) (by rfl) S2.out (G := w9b7.heap.size) (by rfl) rfl (c := #[.int .u8 (k : Int), .int .u32 (t : Int), .int .u8 (r : Int), .slice uo nu uc, .int .i64 p]) INN.out HM.out HMM.out.1 HMM.out.2 HZ.out ?_)
    rintro v6 w6 s6 va vc rfl b6
    have S6 := Lib.hid s6
    rw [← FT.out] at S6
    have M6 : Hid (m + 1 = ((A.take (j + 1)).filter PB).length) := by unfold Hid; rw [FT.out, List.length_append, ← HM.out]; rfl
    have B6 := Lib.hid (B2.out.trans b6)
    clear s6 b6 S2 B2 h0 h1 h2 h3 h4 FT HM FN hbel
    go_wp2
    go_roundw
    case rel => exact ⟨j + 1, m + 1, by omega, by go_num, ⟨va, vc, rfl⟩, M6, S6, B6⟩
    case measure => simp [intOf]; omega
end Go.Proofs.YtohiidgdpecbdaaGreat.Covers

namespace Go.Proofs.YtohiidgdpecbdaaGreat.Views
open Go.RowKit Go.WideShapes Stamp Go.Proofs.YtohiidgdpecbdaaGreat.Place Ops Codes Bags Marks Homes Covers
attribute [local go_sem ↓] Go.wp_at_zero Go.wp_at_succ
attribute [local go_sem] yielded_undef
set_option maxRecDepth 100000 in
set_option maxHeartbeats 8000000 in
theorem refOf15_any {v u0 : Value} {l live : List Opn} (s : Id) {w : World} (hv : OpL w v l) (hu : OpL w u0 live) (hl : l.length ≤ 1000000) (hm : ∀ o ∈ l, mayO o = true) (hmm : ∀ o ∈ live, mayO o = true) :
    Calls Tryz.prog 31 #[v, u0, .agg #[.int .u32 (s.t : Int), .int .u8 (s.r : Int)]] w fun e w' => ∃ v', e = .returned v' ∧ ElL w' v' (seenM (countL l live s)) ∧ Below w.heap.size w w' := by
  obtain ⟨wl, hwl⟩ : ∃ x, x = w.alloc (.cells #[.int .u32 (s.t : Int), .int .u8 (s.r : Int)] 25) := ⟨_, rfl⟩
  have B0 : Hid (Below w.heap.size w wl) := by rw [hwl]; exact (Below.refl _ _).alloc (Nat.le_refl _) _
  have Y0 : Hid (wl.heap[w.heap.size]? = some (.cells #[.int .u32 (s.t : Int), .int .u8 (s.r : Int)] 25)) := by rw [hwl]; exact blk_new rfl
  have HW := Lib.hid hwl
  have CT : Hid (Calls Tryz.prog 65 #[v, u0, .agg #[.int .u32 (s.t : Int), .int .u8 (s.r : Int)]] wl fun e w' => ∃ v', e = .returned v' ∧ OpL w' v' (countL l live s) ∧ Below wl.heap.size wl w') := refCounting_any s (hv.keeps B0.out) (hu.keeps B0.out) hl hm hmm
  have SN : Hid (∀ (W : World) (y : Value), OpL W y (countL l live s) → Calls Tryz.prog 64 #[y] W fun e w' => ∃ v', e = .returned v' ∧ ElL w' v' (seenM (countL l live s)) ∧ Below W.heap.size W w') := fun W y h => refSeen_any h (fun o ho => hm o (mem_countL.1 ho).1.1) (Nat.le_trans (countL_sub l live s).length_le hl)
  obtain ⟨C, hC⟩ : ∃ C, countL l live s = C := ⟨_, rfl⟩
  rw [hC] at CT SN ⊢
  clear hv hu hl hm hmm hwl hC
  obtain ⟨ts, rs, hts, hrs⟩ := s
  simp only at Y0 HW CT ⊢
  have d0 := cell_of_row _ _ 0 _ _ _ Y0.out
  have d1 := cell_of_row _ _ 1 _ _ _ Y0.out
  go_enter Tryz.func31, Tryz.ntmps31
  go_wp2_with fail
  rw [← HW.out]
  refine CT.out.mono ?_
  rintro e w1 ⟨v1, rfl, o1, b1⟩
  have O1 := Lib.hid o1
  have B1 := Lib.hid (bt B0.out b1)
  clear b1 o1 Y0 B0 HW CT d0 d1
  go_wp2_with fail
  refine (SN.out _ _ O1.out).mono ?_
  rintro e w2 ⟨v2, rfl, o2, b2⟩
  have O2 := Lib.hid o2
  have B2 := Lib.hid (bt B1.out b2)
  clear b2 o2 O1 B1 SN
  go_wp2
  go_ret
  exact ⟨_, rfl, O2.out, B2.out⟩
/-- Elements, and an error. -/
def DoneE (L : List Opn) (x : Int) (w : World) (e : Ending) (w' : World) : Prop := ∃ v, e = .returned (.tuple #[v, .int .i64 x]) ∧ ElL w' v L ∧ Below w.heap.size w w'
set_option maxRecDepth 100000 in
set_option maxHeartbeats 8000000 in
theorem refElements_any {v : Value} {l : List Opn} (s : Id) {w : World} (hv : OpL w v l) : Calls Tryz.prog 8 #[v, .agg #[.int .u32 (s.t : Int), .int .u8 (s.r : Int)]] w (DoneE (elmL l s) (spanE l s) w) := by
  obtain ⟨wl, hwl⟩ : ∃ x, x = w.alloc (.cells #[.int .u32 (s.t : Int), .int .u8 (s.r : Int)] 25) := ⟨_, rfl⟩
  have B0 : Hid (Below w.heap.size w wl) := by rw [hwl]; exact (Below.refl _ _).alloc (Nat.le_refl _) _
  have Y0 : Hid (wl.heap[w.heap.size]? = some (.cells #[.int .u32 (s.t : Int), .int .u8 (s.r : Int)] 25)) := by rw [hwl]; exact blk_new rfl
  have HW := Lib.hid hwl
  have ML : Hid (Calls Tryz.prog 28 #[v] wl fun e w' => e = .returned (.bool (bagB l)) ∧ Below wl.heap.size wl w') := refMayL_any (hv.keeps B0.out)
  have LV : Hid (Bag l → ∀ W : World, Below w.heap.size w W → Calls Tryz.prog 29 #[v] W fun e w' => ∃ v', e = .returned v' ∧ OpL w' v' (livesM l l) ∧ Below W.heap.size W w') := fun hb W h => refLives_any (hv.keeps h) hb.2.1 hb.1
  have WH : Hid (Bag l → ∀ (W : World) (y : Value), OpL W y (livesM l l) → Calls Tryz.prog 30 #[y, .agg #[.int .u32 (s.t : Int), .int .u8 (s.r : Int)]] W fun e w' => e = .returned (.int .i64 (whereM (livesM l l) s)) ∧ Below W.heap.size W w') := fun hb W y h => refWhere_any s h (by have := (lives_fits hb).1; omega)
  have OF : Hid (Bag l → ∀ (W : World) (y : Value), Below w.heap.size w W → OpL W y (livesM l l) → Calls Tryz.prog 31 #[v, y, .agg #[.int .u32 (s.t : Int), .int .u8 (s.r : Int)]] W fun e w' => ∃ v', e = .returned v' ∧ ElL w' v' (seenM (countL l (livesM l l) s)) ∧ Below W.heap.size W w') := fun hb W y h hy => refOf15_any s (hv.keeps h) hy (by have := hb.1; omega) hb.2.1 (lives_fits hb).2
  clear hv hwl
  by_cases hb : Bag l
  rotate_left
  · have e3 : spanE l s = 8 := by unfold spanE; rw [bagB_no hb]; rfl
    have e4 : elmL l s = [] := elm_no (by rw [e3]; decide)
    rw [bagB_no hb] at ML
    rw [e3, e4]
    clear LV WH OF hb e3 e4
    go_enter Tryz.func8, Tryz.ntmps8
    go_wp2_with fail
    rw [← HW.out]
    refine ML.out.mono ?_
    rintro e w1 ⟨rfl, b1⟩
    have B1 := Lib.hid (bt B0.out b1)
    clear b1 Y0 B0 HW ML
    go_wp2
    exact bodyPost_ret (v := .tuple #[.slice none 0 0, .int .i64 8]) (by simp [results, Tryz.results8, go_sem]) rfl ⟨_, rfl, Seq.nil _ _, B1.out⟩
  rw [(bagB_iff l).2 hb] at ML
  have LV2 := Lib.hid (LV.out hb)
  have WH2 := Lib.hid (WH.out hb)
  have OF2 := Lib.hid (OF.out hb)
  have aE : spanE l s = if 0 ≤ whereM (livesM l l) s then 0 else 130 := by unfold spanE; rw [(bagB_iff l).2 hb]; simp
  have aL : elmL l s = if 0 ≤ whereM (livesM l l) s then seenM (countL l (livesM l l) s) else [] := by
    by_cases h : 0 ≤ whereM (livesM l l) s
    · rw [if_pos h]
      exact elm_yes (by rw [aE, if_pos h])
    · rw [if_neg h]
      exact elm_no (by rw [aE, if_neg h]; decide)
  rw [aE, aL]
  clear LV WH OF hb aE aL
  obtain ⟨x, hx⟩ : ∃ x, whereM (livesM l l) s = x := ⟨_, rfl⟩
  rw [hx] at WH2 ⊢
  obtain ⟨V, hV⟩ : ∃ V, livesM l l = V := ⟨_, rfl⟩
  rw [hV] at LV2 WH2 OF2 ⊢
  obtain ⟨R, hR⟩ : ∃ R, seenM (countL l V s) = R := ⟨_, rfl⟩
  rw [hR] at OF2 ⊢
  clear hx hV hR
  obtain ⟨ts, rs, hts, hrs⟩ := s
  simp only at Y0 HW WH2 OF2 ⊢
  by_cases hx : 0 ≤ x
  rotate_left
  · rw [if_neg hx, if_neg hx]
    have q : decide (x < 0) = true := decide_eq_true (by omega)
    go_enter Tryz.func8, Tryz.ntmps8
    go_wp2_with fail
    rw [← HW.out]
    refine ML.out.mono ?_
    rintro e w1 ⟨rfl, b1⟩
    have B1 := Lib.hid (bt B0.out b1)
    have Y1 := Lib.hid (blk_below b1 Y0.out)
    clear b1 Y0 B0 HW ML
    go_wp2_with fail
    refine (LV2.out _ B1.out).mono ?_
    rintro e w2 ⟨v2, rfl, o2, b2⟩
    have B2 := Lib.hid (bt B1.out b2)
    have Y2 := Lib.hid (blk_below b2 Y1.out)
    have O2 := Lib.hid o2
    clear b2 o2 Y1 B1 LV2
    have d0 := cell_of_row _ _ 0 _ _ _ Y2.out
    have d1 := cell_of_row _ _ 1 _ _ _ Y2.out
    go_wp2_with fail
    refine (WH2.out _ _ O2.out).mono ?_
    rintro e w3 ⟨rfl, b3⟩
    have B3 := Lib.hid (bt B2.out b3)
    have Y3 := Lib.hid (blk_below b3 Y2.out)
    have O3 := Lib.hid (O2.out.keeps b3)
    clear b3 d0 d1 Y2 B2 O2 WH2
    clear OF2 O3 Y3
    go_wp2
    exact bodyPost_ret (v := .tuple #[.slice none 0 0, .int .i64 130]) (by simp [results, Tryz.results8, go_sem]) rfl ⟨_, rfl, Seq.nil _ _, B3.out⟩
  rw [if_pos hx, if_pos hx]
  have q : decide (x < 0) = false := decide_eq_false (by omega)
  go_enter Tryz.func8, Tryz.ntmps8
  go_wp2_with fail
  rw [← HW.out]
  refine ML.out.mono ?_
  rintro e w1 ⟨rfl, b1⟩
  have B1 := Lib.hid (bt B0.out b1)
  have Y1 := Lib.hid (blk_below b1 Y0.out)
  clear b1 Y0 B0 HW ML
  go_wp2_with fail
  refine (LV2.out _ B1.out).mono ?_
  rintro e w2 ⟨v2, rfl, o2, b2⟩
  have B2 := Lib.hid (bt B1.out b2)
  have Y2 := Lib.hid (blk_below b2 Y1.out)
  have O2 := Lib.hid o2
  clear b2 o2 Y1 B1 LV2
  have d0 := cell_of_row _ _ 0 _ _ _ Y2.out
  have d1 := cell_of_row _ _ 1 _ _ _ Y2.out
  go_wp2_with fail
  refine (WH2.out _ _ O2.out).mono ?_
  rintro e w3 ⟨rfl, b3⟩
  have B3 := Lib.hid (bt B2.out b3)
  have Y3 := Lib.hid (blk_below b3 Y2.out)
  have O3 := Lib.hid (O2.out.keeps b3)
  clear b3 d0 d1 Y2 B2 O2 WH2
  have d0 := cell_of_row _ _ 0 _ _ _ Y3.out
  have d1 := cell_of_row _ _ 1 _ _ _ Y3.out
  go_wp2_with fail
  refine (OF2.out _ _ B3.out O3.out).mono ?_
  rintro e w4 ⟨v4, rfl, o4, b4⟩
  have O4 := Lib.hid o4
  have B4 := Lib.hid (bt B3.out b4)
  clear b4 o4 d0 d1 Y3 O3 B3 OF2
  go_wp2
  exact bodyPost_ret (v := .tuple #[v4, .int .i64 0]) (by simp [results, Tryz.results8, go_sem]) rfl ⟨_, rfl, O4.out, B4.out⟩
theorem befM_snoc {c : List Opn} {p : List Run} {j : Nat} (h : j < c.length) : befM (c.take (j + 1)) p = befM (c.take j) p + (if Go.Proofs.YtohiidgdpecbdaaGreat.Place.hold (all (c[j]'h).pl) (all p) < 0 then 1 else 0) := by
  unfold befM
  rw [List.take_succ_eq_append_getElem h, List.filter_append, List.length_append]
  congr 1
  by_cases hh : Go.Proofs.YtohiidgdpecbdaaGreat.Place.hold (all (c[j]'h).pl) (all p) < 0
  · rw [if_pos hh, List.filter_cons_of_pos (by simpa using hh)]; rfl
  · rw [if_neg hh, List.filter_cons_of_neg (by simpa using hh)]; rfl
set_option maxRecDepth 100000 in
set_option maxHeartbeats 8000000 in
theorem refBefore_any {v u : Value} {c : List Opn} {p : List Run} {w : World} (hv : ElL w v c) (hu : Runs w u p) (hm : ∀ o ∈ c, mayO o = true) (hp : anyB p = true) (hl : c.length ≤ 1000000) :
    Calls Tryz.prog 39 #[v, u] w fun e w' => e = .returned (.int .i64 ((befM c p : Nat) : Int)) ∧ Below w.heap.size w w' := by
  obtain ⟨ao, cap, rfl⟩ := hv.shape
  obtain ⟨n, hn⟩ : ∃ n, n = c.length := ⟨_, rfl⟩
  have hnm : n ≤ 1000000 := by omega
  have HV : Hid (∀ W : World, Below w.heap.size w W → ElL W (.slice ao c.length cap) c) := fun W h => hv.keeps h
  have HN := Lib.hid hn
  have AP := (anyB_iff p).1 hp
  have HE : Hid (∀ (x : Opn) (y : Value) (W : World), x ∈ c → Runs W y x.pl → Below w.heap.size w W → Calls Tryz.prog 62 #[y, u] W fun e w' => e = .returned (.int .i64 (Go.Proofs.YtohiidgdpecbdaaGreat.Place.hold (all x.pl) (all p))) ∧ Below W.heap.size W w') := fun x y W hx hy h => by
    have M := (mayB_iff _).1 (mayO_parts (hm x hx)).2.1
    have hlp : p.length ≤ 100 := by
      rcases AP with rfl | h
      · simp
      · exact Nat.le_trans h.2.1 (by decide)
    exact held_any hy (hu.keeps h) M.2.2.1 AP.chain (Nat.le_trans M.2.1 (by decide)) hlp
  rw [← hn]
  have B0 : Hid (Below w.heap.size w w) := Below.refl _ _
  have M0 : Hid (0 = befM (c.take 0) p) := rfl
  obtain ⟨R, hR⟩ : ∃ R, befM c p = R := ⟨_, rfl⟩
  have HR := Lib.hid hR
  rw [hR]
  clear hv hn hl hm hp AP hR
  obtain ⟨uo, uc, rfl⟩ := hu.shape
  obtain ⟨np, hnp⟩ : ∃ n, p.length = n := ⟨_, rfl⟩
  rw [hnp] at HE ⊢
  clear hu hnp
  go_enter Tryz.func39, Tryz.ntmps39
  go_wp2
  go_loopw [5, 6] (fun y i wr => ∃ j m : Nat, j ≤ n ∧ m ≤ j ∧ y = .int .i64 (m : Int) ∧ i = .int .i64 (j : Int) ∧ Hid (m = befM (c.take j) p) ∧ Hid (Below w.heap.size w wr)) (fun _ i _ => n - (intOf i).toNat)
  case atStart => exact ⟨0, 0, by omega, by omega, rfl, rfl, M0, B0⟩
  case round =>
    clear B0 M0
    obtain ⟨j, m, hj, hmj, rfl, rfl, hM, hbel⟩ := hrel
    by_cases hjn : j < n
    rotate_left
    · have q3 : decide (j < n) = false := by simpa using hjn
      have hkk : c.take j = c := List.take_of_length_le (by have := HN.out; omega)
      obtain rfl : R = m := by rw [hM.out, hkk]; exact HR.out.symm
      clear hkk hM
      go_wp2
      go_ret
      exact ⟨rfl, hbel.out⟩
    have q3 : decide (j < n) = true := by simpa using hjn
    have q4 : (0 : Int) ≤ (j : Int) := by omega
    have q5 : (j : Int) < (n : Int) := by omega
    have hjl : j < c.length := by rw [← HN.out]; exact hjn
    obtain ⟨bb, oo, y, e, hbb, hru, h0, h1, h2, h3⟩ := el_at (HV.out wr hbel.out) j hjl
    cases e
    have HX := HE.out _ y wr (List.getElem_mem hjl) hru hbel.out
    have ST := befM_snoc (p := p) hjl
    rw [← hM.out] at ST
    obtain ⟨h, hh⟩ : ∃ z, Go.Proofs.YtohiidgdpecbdaaGreat.Place.hold (all (c[j]'hjl).pl) (all p) = z := ⟨_, rfl⟩
    rw [hh] at HX ST
    have HX2 := Lib.hid HX
    obtain ⟨yo, yc, rfl⟩ := hru.shape
    obtain ⟨ny, hny⟩ : ∃ z, (c[j]'hjl).pl.length = z := ⟨_, rfl⟩
    rw [hny] at HX2 h2
    have HST := Lib.hid ST
    clear HX hh hru hny h0 h1 h3 hM hbb ST HV HE
    go_wp2_with fail
    refine HX2.out.mono ?_
    rintro e w1 ⟨rfl, b1⟩
    have B1 := Lib.hid (bt hbel.out b1)
    clear b1 h2 HX2 hbel
    by_cases hlt : h < 0
    · have d1 : decide (h < 0) = true := decide_eq_true hlt
      have M1 : Hid (m + 1 = befM (c.take (j + 1)) p) := by unfold Hid; rw [HST.out, if_pos hlt]
      clear HST
      go_wp2
      go_roundw
      case rel => exact ⟨j + 1, m + 1, by omega, by omega, by go_num, by go_num, M1, B1⟩
      case measure => simp [intOf]; omega
    · have d1 : decide (h < 0) = false := decide_eq_false hlt
      have M1 : Hid (m = befM (c.take (j + 1)) p) := by unfold Hid; rw [HST.out, if_neg hlt]; rfl
      clear HST
      go_wp2
      go_roundw
      case rel => exact ⟨j + 1, m, by omega, by omega, rfl, by go_num, M1, B1⟩
      case measure => simp [intOf]; omega
set_option maxRecDepth 100000 in
set_option maxHeartbeats 8000000 in
theorem refOffset_any {v u : Value} {l : List Opn} {p : List Run} (s : Id) {w : World} (hv : OpL w v l) (hu : Runs w u p) : Calls Tryz.prog 12 #[v, .agg #[.int .u32 (s.t : Int), .int .u8 (s.r : Int)], u] w fun e w' => e = .returned (.tuple #[.int .i64 ((offN l s p : Nat) : Int), .int .i64 (offE l s p)]) ∧ Below w.heap.size w w' := by
  obtain ⟨wl, hwl⟩ : ∃ x, x = w.alloc (.cells #[.int .u32 (s.t : Int), .int .u8 (s.r : Int)] 25) := ⟨_, rfl⟩
  have B0 : Hid (Below w.heap.size w wl) := by rw [hwl]; exact (Below.refl _ _).alloc (Nat.le_refl _) _
  have Y0 : Hid (wl.heap[w.heap.size]? = some (.cells #[.int .u32 (s.t : Int), .int .u8 (s.r : Int)] 25)) := by rw [hwl]; exact blk_new rfl
  have HW := Lib.hid hwl
  have EL : Hid (Calls Tryz.prog 8 #[v, .agg #[.int .u32 (s.t : Int), .int .u8 (s.r : Int)]] wl (DoneE (elmL l s) (spanE l s) wl)) := refElements_any s (hv.keeps B0.out)
  have AN : Hid (∀ W : World, Below w.heap.size w W → Calls Tryz.prog 38 #[u] W fun e w' => e = .returned (.bool (anyB p)) ∧ Below W.heap.size W w') := fun W h => refAny_any (hu.keeps h)
  have BF : Hid (anyB p = true → ∀ (W : World) (y : Value), Below w.heap.size w W → ElL W y (elmL l s) → Calls Tryz.prog 39 #[y, u] W fun e w' => e = .returned (.int .i64 ((befM (elmL l s) p : Nat) : Int)) ∧ Below W.heap.size W w') := fun hp W y h hy => refBefore_any hy (hu.keeps h) (elm_fits l s).2 hp (by have := (elm_fits l s).1; omega)
  unfold DoneE at EL
  obtain ⟨L, hL⟩ : ∃ L, elmL l s = L := ⟨_, rfl⟩
  have eN : offN l s p = if spanE l s = 0 ∧ anyB p = true then befM L p else 0 := by unfold offN; rw [hL]
  have eE : offE l s p = if spanE l s = 0 then (if anyB p = true then 0 else 8) else spanE l s := rfl
  rw [hL] at EL BF
  rw [eN, eE]
  obtain ⟨x, hx⟩ : ∃ x, spanE l s = x := ⟨_, rfl⟩
  rw [hx] at EL ⊢
  clear hv hu hwl hL eN eE hx
  obtain ⟨ts, rs, hts, hrs⟩ := s
  simp only at Y0 HW EL ⊢
  by_cases h0 : x = 0
  rotate_left
  · rw [if_neg (fun h => h0 h.1), if_neg h0]
    have q0 : (x == 0) = false := by simpa using h0
    have q1 : decide (x = 0) = false := decide_eq_false h0
    have d0 := cell_of_row _ _ 0 _ _ _ Y0.out
    have d1 := cell_of_row _ _ 1 _ _ _ Y0.out
    go_enter Tryz.func12, Tryz.ntmps12
    go_wp2_with fail
    rw [← HW.out]
    refine EL.out.mono ?_
    rintro e w1 ⟨v1, rfl, o1, b1⟩
    have O1 := Lib.hid o1
    have B1 := Lib.hid (bt B0.out b1)
    clear b1 o1 Y0 B0 HW EL d0 d1
    clear O1 AN BF
    go_wp2
    exact bodyPost_ret (v := .tuple #[.int .i64 0, .int .i64 x]) (by simp [results, Tryz.results12, go_sem]) rfl ⟨rfl, B1.out⟩
  subst h0
  obtain ⟨q, hq⟩ : ∃ q, anyB p = q := ⟨_, rfl⟩
  rw [hq] at AN BF ⊢
  clear hq
  cases q
  · rw [if_neg (fun h => by cases h.2), if_pos rfl, if_neg (by decide)]
    have d0 := cell_of_row _ _ 0 _ _ _ Y0.out
    have d1 := cell_of_row _ _ 1 _ _ _ Y0.out
    go_enter Tryz.func12, Tryz.ntmps12
    go_wp2_with fail
    rw [← HW.out]
    refine EL.out.mono ?_
    rintro e w1 ⟨v1, rfl, o1, b1⟩
    have O1 := Lib.hid o1
    have B1 := Lib.hid (bt B0.out b1)
    clear b1 o1 Y0 B0 HW EL d0 d1
    go_wp2_with fail
    refine (AN.out _ B1.out).mono ?_
    rintro e w2 ⟨rfl, b2⟩
    have B2 := Lib.hid (bt B1.out b2)
    clear b2 O1 AN BF B1
    go_wp2
    exact bodyPost_ret (v := .tuple #[.int .i64 0, .int .i64 8]) (by simp [results, Tryz.results12, go_sem]) rfl ⟨rfl, B2.out⟩
  rw [if_pos ⟨rfl, rfl⟩, if_pos rfl, if_pos rfl]
  have BF2 := Lib.hid (BF.out rfl)
  clear BF
  have d0 := cell_of_row _ _ 0 _ _ _ Y0.out
  have d1 := cell_of_row _ _ 1 _ _ _ Y0.out
  go_enter Tryz.func12, Tryz.ntmps12
  go_wp2_with fail
  rw [← HW.out]
  refine EL.out.mono ?_
  rintro e w1 ⟨v1, rfl, o1, b1⟩
  have O1 := Lib.hid o1
  have B1 := Lib.hid (bt B0.out b1)
  clear b1 o1 Y0 B0 HW EL d0 d1
  go_wp2_with fail
  refine (AN.out _ B1.out).mono ?_
  rintro e w2 ⟨rfl, b2⟩
  have B2 := Lib.hid (bt B1.out b2)
  have O2 := Lib.hid (O1.out.keeps b2)
  clear b2 O1 AN B1
  go_wp2_with fail
  refine (BF2.out _ _ B2.out O2.out).mono ?_
  rintro e w3 ⟨rfl, b3⟩
  have B3 := Lib.hid (bt B2.out b3)
  clear b3 O2 BF2 B2
  go_wp2
  exact bodyPost_ret (v := .tuple #[.int .i64 ((befM L p : Nat) : Int), .int .i64 0]) (by simp [results, Tryz.results12, go_sem]) rfl ⟨rfl, B3.out⟩
end Go.Proofs.YtohiidgdpecbdaaGreat.Views

namespace Go.Proofs.YtohiidgdpecbdaaGreat.Views
open Go.RowKit Go.WideShapes Stamp Go.Proofs.YtohiidgdpecbdaaGreat.Place Ops Codes Bags Marks Homes Covers
attribute [local go_sem ↓] Go.wp_at_zero Go.wp_at_succ
attribute [local go_sem] yielded_undef
theorem HoldE.base {w : World} {b b' : Nat} (hb : b' ≤ b) : ∀ {cs : List Value} {l : List Opn}, HoldE w b cs l → HoldE w b' cs l
  | _, [], h => h
  | _, _ :: _, ⟨v, d, h1, h2, h3⟩ => ⟨v, d, h1, op_base h2 hb, HoldE.base hb h3⟩
theorem OwnE.keeps {w w' : World} {base : Nat} {v : Value} {l : List Opn} (h : OwnE w base v l) (hb : Below w.heap.size w w') : OwnE w' base v l := by
  obtain ⟨cs, h1, h2⟩ := h
  exact ⟨cs, own_stays h1 hb, h2.keeps hb⟩
theorem OwnE.base {w : World} {b b' : Nat} {v : Value} {l : List Opn} (h : OwnE w b v l) (hb : b' ≤ b) : OwnE w b' v l := by
  obtain ⟨cs, h1, h2⟩ := h
  exact ⟨cs, op_base h1 hb, h2.base hb⟩
/-- An element of the call's own, and an error. -/
def OneE (o : Opn) (x : Int) (w : World) (e : Ending) (w' : World) : Prop := ∃ vt, e = .returned (.tuple #[elv o vt, .int .i64 x]) ∧ w'.ownsRow w.heap.size 52 3 vt o.pl.length (runs o.pl) ∧ Below w.heap.size w w'
theorem holdE_spl {w : World} {base : Nat} : ∀ {cs : List Value} {l : List Opn}, HoldE w base cs l → ∀ k, k < l.length → ∃ so m sc, cs[k * 4 + 2]? = some (.slice so m sc) ∧ m ≤ 9223372036854775807 ∧
    (m = 0 ∨ ∃ g cur, so = some ⟨g, 0, none⟩ ∧ base ≤ g ∧ g < w.heap.size ∧ w.heap[g]? = some (.cells cur 52 (0, 0)) ∧ m * 3 ≤ cur.size)
  | _, x :: l, ⟨v, d, h1, ho, h3⟩, 0, _ => by
    have hm := Sees.max (Sees.own ho)
    obtain ⟨so, sc, hb⟩ := Sees.shape (Sees.own ho)
    refine ⟨so, x.pl.length, sc, by rw [h1]; simp [hb], hm, ?_⟩
    rcases ho.2 with ⟨h0, h1⟩ | ⟨g, cap, cur, h0, h1, h2, h3, _, h4, _⟩
    · exact .inl h1
    · rw [hb] at h0
      obtain ⟨rfl, -, rfl⟩ := Value.slice.inj h0
      exact .inr ⟨g, cur, rfl, h1, (Array.getElem?_eq_some_iff.1 h2).1, h2, by rw [h4]; exact Nat.mul_le_mul_right 3 h3⟩
  | _, x :: l, ⟨v, d, h1, ho, h3⟩, k + 1, hk => by
    obtain ⟨so, m, sc, h4, h5⟩ := holdE_spl h3 k (by simpa using hk)
    refine ⟨so, m, sc, ?_, h5⟩
    rw [h1, show (k + 1) * 4 + 2 = k * 4 + 2 + 4 by omega]
    simpa using h4
  | _, [], _, k, hk => by simp at hk
theorem elm_row {w : World} {base n : Nat} {v : Value} {cs : List Value} (h : w.ownsRow base 44 4 v n cs) : ∀ j cur, v.ownBlock = some j → w.heap[j]? ≠ some (.cells cur 52 (0, 0)) := by
  intro j cur hj he
  rcases h.2 with ⟨h0, _⟩ | ⟨g, cap, cur2, h0, _, hgb, _⟩
  · rw [h0] at hj; cases hj
  · rw [h0] at hj
    simp only [Value.ownBlock, Option.some.injEq] at hj
    subst hj
    rw [hgb] at he
    simp at he
/-- The places of a row of elements may be written over: they lie from base on, none in the row's own block. -/
def SpE (w : World) (base b : Nat) (cb : Array Value) (n : Nat) : Prop := w.heap[b]? = some (.cells cb 44 (0, 0)) ∧ n * 4 ≤ cb.size ∧ ∀ k, k < n → ∃ so m sc, cb[k * 4 + 2]? = some (.slice so m sc) ∧ m ≤ 9223372036854775807 ∧
    (m = 0 ∨ ∃ g cur, so = some ⟨g, 0, none⟩ ∧ base ≤ g ∧ g ≠ b ∧ w.heap[g]? = some (.cells cur 52 (0, 0)) ∧ m * 3 ≤ cur.size)
theorem SpE.keeps {w w' : World} {base b n : Nat} {cb : Array Value} (h : SpE w base b cb n) (hb : Below w.heap.size w w') : SpE w' base b cb n := by
  obtain ⟨h1, h2, h3⟩ := h
  refine ⟨blk_below hb h1, h2, fun k hk => ?_⟩
  obtain ⟨so, m, sc, f1, f2, f3⟩ := h3 k hk
  exact ⟨so, m, sc, f1, f2, f3.imp id fun ⟨g, cur, g1, g2, g3, g4, g5⟩ => ⟨g, cur, g1, g2, g3, blk_below hb g4, g5⟩⟩
theorem SpE.set {w : World} {base b n g j : Nat} {cb : Array Value} {u : Value} (h : SpE w base b cb n) (hg : g ≠ b) : SpE (w.setCell ⟨g, j, none⟩ u) base b cb n := by
  obtain ⟨h1, h2, h3⟩ := h
  refine ⟨(heap_setCell_other w ⟨g, j, none⟩ b u (fun e => hg e.symm)).trans h1, h2, fun k hk => ?_⟩
  obtain ⟨so, m, sc, f1, f2, f3⟩ := h3 k hk
  refine ⟨so, m, sc, f1, f2, f3.imp id fun ⟨q, cur, g1, g2, g3, g4, g5⟩ => ?_⟩
  by_cases e : q = g
  · subst e
    exact ⟨q, _, g1, g2, g3, heap_setCell_same w q j cur _ u g4, by rw [Array.size_setIfInBounds]; exact g5⟩
  · exact ⟨q, cur, g1, g2, g3, (heap_setCell_other w ⟨g, j, none⟩ q u e).trans g4, g5⟩
theorem spE_of {w : World} {base cap : Nat} {ao : Option Addr} {l : List Opn} (h : OwnE w base (.slice ao l.length cap) l) (hn : 0 < l.length) : ∃ b cb, ao = some ⟨b, 0, none⟩ ∧ SpE w base b cb l.length := by
  obtain ⟨cs, h1, h2⟩ := h
  have hr := elm_row h1
  have hk := h1
  rcases h1.2 with ⟨_, h0⟩ | ⟨b, cap', cur, h0, e1, e2, e3, _, e4, _⟩
  · omega
  · obtain ⟨rfl, -, rfl⟩ := Value.slice.inj h0
    refine ⟨b, cur, rfl, e2, by rw [e4]; exact Nat.mul_le_mul_right 4 e3, fun k hkn => ?_⟩
    obtain ⟨so, m, sc, f1, f2, f3⟩ := holdE_spl h2 k hkn
    refine ⟨so, m, sc, ?_, f2, ?_⟩
    · rw [← cell_of_row w b (k * 4 + 2) cur _ _ e2, hk.cellAt (k * 4 + 2) (by omega)]
      exact f1
    · rcases f3 with f3 | ⟨g, cu, g1, g2, g3, g4, g5⟩
      · exact .inl f3
      · refine .inr ⟨g, cu, g1, g2, fun e => ?_, g4, g5⟩
        subst e
        exact hr g cu rfl g4
end Go.Proofs.YtohiidgdpecbdaaGreat.Views

namespace Go.Proofs.YtohiidgdpecbdaaGreat.Views
open Go.RowKit Go.WideShapes Stamp Go.Proofs.YtohiidgdpecbdaaGreat.Place Ops Codes Bags Marks Homes Covers
attribute [local go_sem ↓] Go.wp_at_zero Go.wp_at_succ
attribute [local go_sem] yielded_undef
theorem befM_cons (x : Opn) (c : List Opn) (p : List Run) : befM (x :: c) p = (if Go.Proofs.YtohiidgdpecbdaaGreat.Place.hold (all x.pl) (all p) < 0 then 1 else 0) + befM c p := by
  unfold befM
  rw [List.filter_cons]
  by_cases h : Go.Proofs.YtohiidgdpecbdaaGreat.Place.hold (all x.pl) (all p) < 0
  · rw [if_pos (by simpa using h), if_pos h, List.length_cons]; omega
  · rw [if_neg (by simpa using h), if_neg h]; omega
theorem befM_le (c : List Opn) (p : List Run) : befM c p ≤ c.length := List.length_filter_le _ _
theorem bef_iff {p : List Run} : ∀ {c : List Opn}, (∀ o ∈ c, mayO o = true) → c.Pairwise pre → ∀ (i : Nat) (hi : i < c.length), Go.Proofs.YtohiidgdpecbdaaGreat.Place.hold (all (c[i]'hi).pl) (all p) < 0 ↔ i < befM c p
  | [], _, _, i, hi => by simp at hi
  | a :: c, hm, hs, i, hi => by
    have hs' := List.pairwise_cons.1 hs
    have ih := bef_iff (p := p) (c := c) (fun o ho => hm o (by simp [ho])) hs'.2
    rw [befM_cons]
    by_cases ha : Go.Proofs.YtohiidgdpecbdaaGreat.Place.hold (all a.pl) (all p) < 0
    · rw [if_pos ha]
      cases i with
      | zero => rw [List.getElem_cons_zero]; exact ⟨fun _ => by omega, fun _ => ha⟩
      | succ i =>
        rw [List.getElem_cons_succ, ih i (by simpa using hi)]
        omega
    · rw [if_neg ha]
      have hn : ∀ y ∈ c, ¬ Go.Proofs.YtohiidgdpecbdaaGreat.Place.hold (all y.pl) (all p) < 0 := fun y hy h => by
        apply ha
        have h1 := (pre_iff (hm a (by simp)) (hm y (by simp [hy]))).1 (hs'.1 y hy)
        have r1 := hold_range (all a.pl) (all y.pl)
        have r2 := hold_range (all y.pl) (all p)
        have := hold_trans (all a.pl) (all y.pl) (all p) (by omega) (by omega)
        omega
      have h0 : befM c p = 0 := by
        unfold befM
        rw [List.length_eq_zero_iff, List.filter_eq_nil_iff]
        intro y hy
        simpa using hn y hy
      rw [h0]
      cases i with
      | zero => rw [List.getElem_cons_zero]; exact ⟨fun h => absurd h ha, fun h => by omega⟩
      | succ i =>
        rw [List.getElem_cons_succ]
        exact ⟨fun h => absurd h (hn _ (List.getElem_mem _)), fun h => by omega⟩
theorem cmp_hold {x : Opn} {p : List Run} (hx : mayO x = true) (hp : anyB p = true) : cmp x.pl p = Go.Proofs.YtohiidgdpecbdaaGreat.Place.hold (all x.pl) (all p) := by
  unfold cmp
  exact if_pos ⟨anyB_may (mayO_parts hx).2.1, hp⟩
set_option maxRecDepth 100000 in
set_option maxHeartbeats 4000000 in
theorem vOff1_any {u v : Value} {x : Opn} {p : List Run} {w : World} (hu : Runs w u x.pl) (hv : Runs w v p) :
    Calls Tryz.prog 37 #[elv x u, v] w fun e w' => e = .returned (.int .i64 (cmp x.pl p)) ∧ Below w.heap.size w w' := by
  have PC : Hid (∀ W : World, Below w.heap.size w W → Calls Tryz.prog 27 #[u, v] W fun e w' => e = .returned (.int .i64 (cmp x.pl p)) ∧ Below W.heap.size W w') := fun W h => pCompare_any (hu.keeps h) (hv.keeps h)
  have B0 : Hid (Below w.heap.size w (w.alloc (.cells #[.int .u32 (x.t : Int), .int .u8 (x.r : Int), u, .int .i64 x.p] 44))) := (Below.refl _ _).alloc (Nat.le_refl _) _
  obtain ⟨q, hq⟩ : ∃ q, cmp x.pl p = q := ⟨_, rfl⟩
  rw [hq] at PC ⊢
  obtain ⟨uo, uc, rfl⟩ := hu.shape
  obtain ⟨vo, vc, rfl⟩ := hv.shape
  obtain ⟨nu, hnu⟩ : ∃ n, x.pl.length = n := ⟨_, rfl⟩
  obtain ⟨nv, hnv⟩ : ∃ n, p.length = n := ⟨_, rfl⟩
  rw [hnu] at PC B0 ⊢
  rw [hnv] at PC ⊢
  clear hq hu hv hnu hnv
  obtain ⟨k1, t1, r1, l1, p1, hk1, ht1, hr1, hp1⟩ := x
  unfold elv
  simp only at B0 ⊢
  clear hk1 ht1 hr1 hp1
  go_enter Tryz.func37, Tryz.ntmps37
  go_wp2_with fail
  refine (PC.out _ B0.out).mono ?_
  rintro e w1 ⟨rfl, b1⟩
  have B1 := Lib.hid (bt B0.out b1)
  clear b1 PC B0
  go_wp2
  go_ret
  exact ⟨rfl, B1.out⟩
set_option maxRecDepth 100000 in
set_option maxHeartbeats 16000000 in
theorem vBin_any {v u : Value} {live : List Opn} {p : List Run} {w : World} (hv : ElL w v live) (hu : Runs w u p) (hl : live.length ≤ 1000000) (hM : ∀ o ∈ live, mayO o = true) (hL : live.Pairwise pre) (hp : anyB p = true) :
    Calls Tryz.prog 36 #[v, u, .func (.func 37) #[] #[]] w fun e w' => (∃ q : Bool, e = .returned (.tuple #[.int .i64 (befM live p : Int), .bool q])) ∧ Below w.heap.size w w' := by
  obtain ⟨ao, cap, rfl⟩ := hv.shape
  obtain ⟨uo, uc, rfl⟩ := hu.shape
  obtain ⟨n, hn⟩ : ∃ n, n = live.length := ⟨_, rfl⟩
  have HV : Hid (∀ W : World, Below w.heap.size w W → ElL W (.slice ao live.length cap) live) := fun W h => hv.keeps h
  have HN := Lib.hid hn
  have S1 : Hid (∀ (x : Opn) (y : Value) (W : World), x ∈ live → Runs W y x.pl → Below w.heap.size w W → Calls Tryz.prog 37 #[elv x y, .slice uo p.length uc] W fun e w' => e = .returned (.int .i64 (cmp x.pl p)) ∧ Below W.heap.size W w') := fun x y W hm hy h => vOff1_any hy (hu.keeps h)
  have HLT : Hid (∀ (j : Nat) (h : j < live.length), cmp (live[j]'h).pl p < 0 → j < befM live p) := fun j h hc => by
    rw [cmp_hold (hM _ (List.getElem_mem h)) hp] at hc
    exact (bef_iff hM hL j h).1 hc
  have HGE : Hid (∀ (j : Nat) (h : j < live.length), ¬ cmp (live[j]'h).pl p < 0 → befM live p ≤ j) := fun j h hc => by
    rw [cmp_hold (hM _ (List.getElem_mem h)) hp] at hc
    exact Nat.le_of_not_lt fun h2 => hc ((bef_iff hM hL j h).2 h2)
  have HK := befM_le live p
  obtain ⟨K, hK⟩ : ∃ K, befM live p = K := ⟨_, rfl⟩
  rw [hK] at HLT HGE HK ⊢
  obtain ⟨np, hnp⟩ : ∃ n, p.length = n := ⟨_, rfl⟩
  rw [hnp] at S1 ⊢
  rw [← hn] at hl HK ⊢
  clear hv hn hu hL hM hp hK hnp
  have eg := enters_of Tryz.func37 (by kernel_rfl) rfl
  have B0 : Hid (Below w.heap.size w w) := Below.refl _ _
  go_enter Tryz.func36, Tryz.ntmps36
  go_wp2
  go_loopw [9, 10] (fun x y wr => ∃ lo hi : Nat, x = .int .i64 (lo : Int) ∧ y = .int .i64 (hi : Int) ∧ lo ≤ hi ∧ hi ≤ n ∧ lo ≤ K ∧ K ≤ hi ∧ Hid (Below w.heap.size w wr)) (fun x y _ => (intOf y - intOf x).toNat)
  case atStart => exact ⟨0, n, rfl, rfl, by omega, by omega, by omega, HK, B0⟩
  case round =>
    clear B0
    obtain ⟨lo, hi, rfl, rfl, hlh, hhn, hlow, hhigh, hbel⟩ := hrel
    by_cases hlt : lo < hi
    · obtain ⟨m, hm⟩ : ∃ m, m = (lo + hi) / 2 := ⟨_, rfl⟩
      have em : ((lo : Int) + (hi : Int)) / 2 = (m : Int) := by omega
      have m1 : lo ≤ m := by omega
      have m2 : m < hi := by omega
      have q4 : (0 : Int) ≤ (m : Int) := by omega
      have q5 : (m : Int) < (n : Int) := by omega
      have hml : m < live.length := by rw [← HN.out]; omega
      clear hm
      obtain ⟨bb, oo, u, e, hbb, hru, h0, h1, h2, h3⟩ := el_at (HV.out wr hbel.out) m hml
      cases e
      obtain ⟨x, hx⟩ : ∃ x, x = live[m]'hml := ⟨_, rfl⟩
      rw [← hx] at hru h0 h1 h3
      have HO : Hid (∀ v : Value, elv x v = .agg #[.int .u32 (x.t : Int), .int .u8 (x.r : Int), v, .int .i64 x.p]) := fun v => rfl
      obtain ⟨uo, uc, rfl⟩ := hru.shape
      obtain ⟨nu, hnu⟩ : ∃ n, n = x.pl.length := ⟨_, rfl⟩
      have HNU := Lib.hid hnu
      rw [← hnu] at hru h2
      clear hnu
      have hxm : x ∈ live := by rw [hx]; exact List.getElem_mem _
      have SX := Lib.hid (S1.out x _ wr hxm hru hbel.out)
      obtain ⟨c, hc⟩ : ∃ c, cmp x.pl p = c := ⟨_, rfl⟩
      rw [hc] at SX
      have HLO : Hid (c < 0 → m + 1 ≤ K) := fun h => HLT.out m hml (by rw [← hx, hc]; exact h)
      have HHI : Hid (¬ c < 0 → K ≤ m) := fun h => HGE.out m hml (by rw [← hx, hc]; omega)
      clear hru hx hc hxm
      obtain ⟨t, ht⟩ : ∃ z, x.t = z := ⟨_, rfl⟩
      obtain ⟨r, hr⟩ : ∃ z, x.r = z := ⟨_, rfl⟩
      obtain ⟨p, hp⟩ : ∃ z, x.p = z := ⟨_, rfl⟩
      rw [ht, hr, hp] at HO
      rw [ht] at h0
      rw [hr] at h1
      rw [hp] at h3
      simp only [HO.out] at SX
      clear ht hr hp HO S1 HLT HGE HV hbb
      by_cases hc0 : c < 0
      · have d1 : decide (c < 0) = true := decide_eq_true hc0
        have HN2 := HLO.out hc0
        clear HLO HHI
        go_wp2_with fail
        refine SX.out.mono ?_
        rintro e w1 ⟨rfl, b1⟩
        have BW := Lib.hid (bt hbel.out b1)
        clear b1 SX h0 h1 h2 h3
        go_wp2
        go_roundw
        case rel => exact ⟨m + 1, hi, by go_num, rfl, by omega, hhn, HN2, hhigh, BW⟩
        case measure => simp [intOf]; omega
      · have d1 : decide (c < 0) = false := decide_eq_false hc0
        have HN2 := HHI.out hc0
        clear HLO HHI
        go_wp2_with fail
        refine SX.out.mono ?_
        rintro e w1 ⟨rfl, b1⟩
        have BW := Lib.hid (bt hbel.out b1)
        clear b1 SX h0 h1 h2 h3
        go_wp2
        go_roundw
        case rel => exact ⟨lo, m, rfl, rfl, by omega, by omega, hlow, HN2, BW⟩
        case measure => simp [intOf]; omega
    · obtain rfl : hi = lo := by omega
      obtain rfl : K = hi := by omega
      by_cases hkn : K < n
      rotate_left
      · have q8 : decide (K < n) = false := by simpa using hkn
        clear S1 HLT HGE HV
        go_wp2
        go_ret2
        exact ⟨⟨_, rfl⟩, hbel.out⟩
      have q8 : decide (K < n) = true := by simpa using hkn
      have q4 : (0 : Int) ≤ (K : Int) := by omega
      have q5 : (K : Int) < (n : Int) := by omega
      have hml : K < live.length := by rw [← HN.out]; exact hkn
      obtain ⟨bb, oo, u, e, hbb, hru, h0, h1, h2, h3⟩ := el_at (HV.out wr hbel.out) K hml
      cases e
      obtain ⟨x, hx⟩ : ∃ x, x = live[K]'hml := ⟨_, rfl⟩
      rw [← hx] at hru h0 h1 h3
      have HO : Hid (∀ v : Value, elv x v = .agg #[.int .u32 (x.t : Int), .int .u8 (x.r : Int), v, .int .i64 x.p]) := fun v => rfl
      obtain ⟨uo, uc, rfl⟩ := hru.shape
      obtain ⟨nu, hnu⟩ : ∃ n, n = x.pl.length := ⟨_, rfl⟩
      have HNU := Lib.hid hnu
      rw [← hnu] at hru h2
      clear hnu
      have hxm : x ∈ live := by rw [hx]; exact List.getElem_mem _
      have SX := Lib.hid (S1.out x _ wr hxm hru hbel.out)
      obtain ⟨c, hc⟩ : ∃ c, cmp x.pl p = c := ⟨_, rfl⟩
      rw [hc] at SX
      clear hru hx hc hxm
      obtain ⟨t, ht⟩ : ∃ z, x.t = z := ⟨_, rfl⟩
      obtain ⟨r, hr⟩ : ∃ z, x.r = z := ⟨_, rfl⟩
      obtain ⟨p, hp⟩ : ∃ z, x.p = z := ⟨_, rfl⟩
      rw [ht, hr, hp] at HO
      rw [ht] at h0
      rw [hr] at h1
      rw [hp] at h3
      simp only [HO.out] at SX
      clear ht hr hp HO S1 HLT HGE HV hbb
      by_cases hc0 : c = 0
      · subst hc0
        go_wp2_with fail
        refine SX.out.mono ?_
        rintro e w1 ⟨rfl, b1⟩
        have BW := Lib.hid (bt hbel.out b1)
        clear b1 SX h0 h1 h2 h3
        go_wp2
        go_ret2
        exact ⟨⟨_, rfl⟩, BW.out⟩
      · have d1 : (c == 0) = false := by simpa using hc0
        have d2 : ¬ c = 0 := hc0
        have d3 : decide (c = 0) = false := decide_eq_false hc0
        go_wp2_with fail
        refine SX.out.mono ?_
        rintro e w1 ⟨rfl, b1⟩
        have BW := Lib.hid (bt hbel.out b1)
        clear b1 SX h0 h1 h2 h3
        go_wp2
        go_ret2
        exact ⟨⟨_, rfl⟩, BW.out⟩
end Go.Proofs.YtohiidgdpecbdaaGreat.Views
