/- CoverClosed answers true, and changes nothing that was there. Conditions: none. -/
import Derived.Test.YtdackenaknieaaaGreatPk22
import Derived.Test.YtdackenaknieaaaGreatPk08
import Derived.Test.YtdackenaknieaaaGreatPk25
import Derived.Test.YtdackenaknieaaaGreatPk14
import Derived.Test.YtdackenaknieaaaGreatPk07
import Derived.Test.YtdackenaknieaaaGreatPk05
import Derived.Test.YtdackenaknieaaaGreatPk23

namespace Go.Proofs.YtdackenaknieaaaGreat.Covers
open Go.RowKit Go.WideShapes Stamp Go.Proofs.YtdackenaknieaaaGreat.Place Ops Codes Bags Marks Homes
attribute [local go_sem ↓] Go.wp_at_zero Go.wp_at_succ
attribute [local go_sem] yielded_undef

/-- What the law asks of what counts. -/
theorem closed_facts {l : List Opn} {s : Id} (h1 : spanE l s = 0) : Clocks.countC (versionL l s) = (countsL l s).length ∧ ∀ x, x ∈ countsL l s →
    mayO x = true ∧ Clocks.hasC (versionL l s) (idO x) = true ∧ ∀ k, k < manyN x → homeE l (cutN x.pl (k + 1)) = 0 ∧
      (homeL l (cutN x.pl (k + 1)) = s → (findL l ((all x.pl).getD k zid)).isSome = true ∧ ((((findL l ((all x.pl).getD k zid)).getD zop).k = 1 → ((findL l ((all x.pl).getD k zid)).getD zop).pl = cutN x.pl (k + 1) → Clocks.hasC (versionL l s) ((all x.pl).getD k zid) = true))) := by
  have hb := (spanE_zero.1 h1).1
  have hmy := count_may hb (livesM l l) s
  have eC : countsL l s = countL l (livesM l l) s := if_pos h1
  have eV : versionL l s = Clocks.among ((countL l (livesM l l) s).map idO) := if_pos h1
  rw [eC, eV]
  refine ⟨?_, fun x hx => ⟨hb.2.1 x (mem_countL.1 hx).1.1, ?_, fun k hk => ?_⟩⟩
  · unfold Clocks.countC
    rw [if_pos ((Clocks.mayC_iff _).2 (Clocks.among_ok _ hmy.1 hmy.2.1).1), among_cnt _ hmy.1 hmy.2.1 hmy.2.2, List.length_map]
  · rw [among_has hmy.1 hmy.2.1]
    exact decide_eq_true (List.mem_map_of_mem hx)
  · have hm := mem_countL.1 hx
    have hp := any_cutN (k := k + 1) (mayO_parts (hb.2.1 x hm.1.1)).2.1
    have eL : homeL l (cutN x.pl (k + 1)) = homeM (livesM l l) (cutN x.pl (k + 1)) := by unfold homeL; rw [(bagB_iff _).2 hb, hp]; rfl
    refine ⟨by unfold homeE; rw [(bagB_iff _).2 hb, hp]; rfl, fun e => ?_⟩
    rw [eL] at e
    have eF : findL l ((all x.pl).getD k zid) = findO l ((all x.pl).getD k zid) := if_pos ((bagB_iff l).2 hb)
    rw [eF]
    have hh := count_has hx hk e
    refine ⟨hh, ?_⟩
    unfold hasO at hh
    obtain ⟨y, hy⟩ := Option.isSome_iff_exists.1 hh
    rw [hy, Option.getD_some]
    intro hk1 hpl
    rw [among_has hmy.1 hmy.2.1]
    have hin := count_closed hb hx hk e hy hk1 hpl
    rw [← (findO_some hy).2]
    exact decide_eq_true (List.mem_map_of_mem hin)
theorem needs_may {x : Opn} (h : mayO x = true) : (needsL x).length = manyN x ∧ chkO x = 0 ∧ ∀ k, k < manyN x → (needsL x).getD k zid = (all x.pl).getD k zid := by
  have e : needsL x = (all x.pl).take (manyN x) := by unfold needsL; rw [if_pos h]; rfl
  refine ⟨?_, by unfold chkO; rw [if_pos h], fun k hk => ?_⟩
  · rw [e, List.length_take]; exact Nat.min_eq_left (manyN_le x)
  · rw [e, List.getD_eq_getElem?_getD, List.getElem?_take, if_pos hk, ← List.getD_eq_getElem?_getD]

set_option maxRecDepth 100000 in
set_option maxHeartbeats 40000000 in
theorem closed_walk {l : List Opn} {ao0 : Option Addr} {cap0 : Nat} (s : Id) {w : World} (hr0 : OpL w (.slice ao0 l.length cap0) l) :
    Calls Tryz.prog 5 #[.slice ao0 l.length cap0, .agg #[.int .u32 (s.t : Int), .int .u8 (s.r : Int)]] w fun e w' => e = .returned (.bool true) ∧ Below w.heap.size w w' := by
  have HV : Hid (∀ W : World, Below w.heap.size w W → OpL W (.slice ao0 l.length cap0) l) := fun W h => hr0.keeps h
  have AV := Lib.hid alive14_any
  have GR : Hid (∀ W : World, Below w.heap.size w W → Calls Tryz.prog 16 #[.slice ao0 l.length cap0, .int .i64 40] W fun e w' => GrtO l 40 e ∧ W = w') := fun W h => greatO_any (HV.out W h)
  have hgr : ∀ {e : Ending}, GrtO l 40 e → ∃ g, e = .returned (.bool g) := fun ⟨g, h1, h2⟩ => ⟨g, h1⟩
  have CC : Hid (∀ W : World, Below w.heap.size w W → Calls Tryz.prog 10 #[.slice ao0 l.length cap0, .agg #[.int .u32 (s.t : Int), .int .u8 (s.r : Int)]] W (DoneN (countsL l s) (spanE l s) W)) := fun W h => cCounts_any s (HV.out W h)
  have CV : Hid (∀ W : World, Below w.heap.size w W → Calls Tryz.prog 7 #[.slice ao0 l.length cap0, .agg #[.int .u32 (s.t : Int), .int .u8 (s.r : Int)]] W (Bags.DoneC (versionL l s) (spanE l s) W)) := fun W h => cVersion_any s (HV.out W h)
  have ND : Hid (∀ (W : World) (v : Value) (x : Opn), Runs W v x.pl → Calls Tryz.prog 25 #[opv x v] W (Ops.Told (needsL x) (chkO x) W)) := fun W v x h => oNeeds_any h
  have CU : Hid (∀ (W : World) (v : Value) (x : Opn) (k : Nat), mayO x = true → k ≤ 5000 → Runs W v x.pl → Calls Tryz.prog 27 #[v, .int .i64 (k : Int)] W fun e w' => ∃ v', e = .returned v' ∧ Runs w' v' (cutN x.pl k) ∧ Below W.heap.size W w') := fun W v x k hx hk h => by
    have hM := (mayB_iff _).1 (mayO_parts hx).2.1
    exact refCut_any h hM.2.2.1 (by have := hM.2.1; omega) k hk
  have CO : Hid (∀ (W : World) (u : Value) (p : List Run), Below w.heap.size w W → Runs W u p → Calls Tryz.prog 26 #[.slice ao0 l.length cap0, u] W (OneI (homeL l p) (homeE l p) W)) := fun W u p h h2 => hOf_any (HV.out W h) h2
  have FD : Hid (∀ (W : World) (a : Id), Below w.heap.size w W → Calls Tryz.prog 28 #[.slice ao0 l.length cap0, .agg #[.int .u32 (a.t : Int), .int .u8 (a.r : Int)]] W (FoundN (findL l a) W)) := fun W a h => bFind_any a (HV.out W h)
  have SM : Hid (∀ (W : World) (u v : Value) (p q : List Run), Runs W u p → Runs W v q → Calls Tryz.prog 29 #[u, v] W fun e w' => e = .returned (.bool (decide (p = q))) ∧ Below W.heap.size W w') := fun W u v p q h h2 => Go.Proofs.YtdackenaknieaaaGreat.Place.psame_any h h2
  have CHS : Hid (∀ (W : World) (v : Value) (a : Id), Tms W v (versionL l s) → Calls Tryz.prog 15 #[v, .agg #[.int .u32 (a.t : Int), .int .u8 (a.r : Int)]] W fun e w' => e = .returned (.bool (Clocks.hasC (versionL l s) a)) ∧ Below W.heap.size W w') := fun W v a h => Clocks.cHas_any a h
  have CCN : Hid (∀ (W : World) (v : Value), Tms W v (versionL l s) → Calls Tryz.prog 14 #[v] W fun e w' => e = .returned (.int .i64 (Clocks.countC (versionL l s) : Int)) ∧ Below W.heap.size W w') := fun W v h => Clocks.cCount_any h
  have MF : Hid (spanE l s = 0 → Clocks.countC (versionL l s) = (countsL l s).length ∧ ∀ x, x ∈ countsL l s → mayO x = true ∧ Clocks.hasC (versionL l s) (idO x) = true ∧ ∀ k, k < manyN x → homeE l (cutN x.pl (k + 1)) = 0 ∧
      (homeL l (cutN x.pl (k + 1)) = s → (findL l ((all x.pl).getD k zid)).isSome = true ∧ ((((findL l ((all x.pl).getD k zid)).getD zop).k = 1 → ((findL l ((all x.pl).getD k zid)).getD zop).pl = cutN x.pl (k + 1) → Clocks.hasC (versionL l s) ((all x.pl).getD k zid) = true)))) := fun h => closed_facts h
  have HE0 : Hid (spanE l s ≠ 0 → countsL l s = []) := fun h => if_neg h
  obtain ⟨wl, hwl⟩ : ∃ x, x = w.alloc (.cells #[.int .u32 (s.t : Int), .int .u8 (s.r : Int)] 28) := ⟨_, rfl⟩
  have B0 : Hid (Below w.heap.size w wl) := by rw [hwl]; exact (Below.refl _ _).alloc (Nat.le_refl _) _
  have P0 : Hid (Pair wl w.heap.size (.int .u32 (s.t : Int)) (.int .u8 (s.r : Int))) := by rw [hwl]; exact pair_new _ _ _ _
  have HW := Lib.hid hwl
  obtain ⟨n0, hn0⟩ : ∃ n, n = l.length := ⟨_, rfl⟩
  rw [← hn0] at GR CC CV CO FD ⊢
  obtain ⟨E, hE⟩ : ∃ z, spanE l s = z := ⟨_, rfl⟩
  obtain ⟨C, hC⟩ : ∃ z, countsL l s = z := ⟨_, rfl⟩
  obtain ⟨VE, hVE⟩ : ∃ z, versionL l s = z := ⟨_, rfl⟩
  rw [hC, hE] at CC
  rw [hVE, hE] at CV
  rw [hVE] at CHS CCN
  rw [hC, hE, hVE] at MF
  rw [hE, hC] at HE0
  have MF1 : Hid (E = 0 → Clocks.countC VE = C.length) := fun h => (MF.out h).1
  have MF2 : Hid (E = 0 → ∀ x, x ∈ C → mayO x = true ∧ Clocks.hasC VE (idO x) = true ∧ ∀ k, k < manyN x → homeE l (cutN x.pl (k + 1)) = 0 ∧
      ((homeL l (cutN x.pl (k + 1))).t = s.t → (homeL l (cutN x.pl (k + 1))).r = s.r → (findL l ((all x.pl).getD k zid)).isSome = true ∧ ((((findL l ((all x.pl).getD k zid)).getD zop).k = 1 → ((findL l ((all x.pl).getD k zid)).getD zop).pl = cutN x.pl (k + 1) → Clocks.hasC VE ((all x.pl).getD k zid) = true)))) := fun h x hx => by
    obtain ⟨a1, a2, a3⟩ := (MF.out h).2 x hx
    exact ⟨a1, a2, fun k hk => ⟨(a3 k hk).1, fun e1 e2 => (a3 k hk).2 (Id.ext' e1 e2)⟩⟩
  obtain ⟨ts, rs, hts, hrs⟩ := s
  simp only at P0 HW CC CV MF2 ⊢
  clear hr0 hwl hE hC hVE MF hn0 HV
  go_enter Tryz.func5, Tryz.ntmps5
  go_wp2_with fail
  rw [← HW.out]
  refine (AV.out _).mono ?_
  rintro e w1 ⟨rfl, b1⟩
  have K1 := Lib.hid b1
  have B1 := Lib.hid (bt B0.out b1)
  clear b1 AV HW
  go_wp2_with fail
  refine (GR.out _ B1.out).mono ?_
  rintro e w2 ⟨hg, rfl⟩
  obtain ⟨g, rfl⟩ := hgr hg
  clear hg hgr GR
  cases g
  rotate_left
  · go_wp2
    go_ret
    exact ⟨rfl, B1.out⟩
  have CCX := Lib.hid (CC.out _ B1.out)
  obtain ⟨_, d0, d1⟩ := P0.out.keeps K1.out
  clear CC
  go_wp2_with fail
  refine CCX.out.mono ?_
  rintro e w3 ⟨vc, rfl, o3, b3⟩
  obtain ⟨ac, cc, rfl⟩ := o3.opl.shape
  have OC3 := Lib.hid o3.opl
  have B3 := Lib.hid (bt B1.out b3)
  have K3 := Lib.hid (bt K1.out b3)
  clear o3 b3 d0 d1 CCX B1 K1
  have CVX := Lib.hid (CV.out _ B3.out)
  obtain ⟨_, d0, d1⟩ := P0.out.keeps K3.out
  clear CV
  go_wp2_with fail
  refine CVX.out.mono ?_
  rintro e w4 ⟨vv, rfl, o4, b4⟩
  have OC4 : Hid (∀ W : World, Below w4.heap.size w4 W → OpL W (.slice ac C.length cc) C) := fun W h => (OC3.out.keeps b4).keeps h
  have TV4 : Hid (∀ W : World, Below w4.heap.size w4 W → Tms W vv VE) := fun W h => o4.tms.keeps h
  have B4 := Lib.hid (bt B3.out b4)
  have K4 := Lib.hid (bt K3.out b4)
  clear o4 b4 d0 d1 CVX OC3 B3 K3
  obtain ⟨av, cv, rfl⟩ := (TV4.out w4 (Below.refl _ _)).shape
  by_cases h1 : E = 0
  rotate_left
  · have q1 : (E == 0) = false := by simpa using h1
    have q2 : decide (E = 0) = false := decide_eq_false h1
    have q3 : (E == E) = true := by simp
    have q4 : decide (E = E) = true := by simp
    have hC0 : C.length = 0 := by rw [HE0.out h1]; rfl
    rw [hC0]
    clear hC0
    clear CO FD SM CHS CCN MF1 MF2 ND CU OC4 TV4 HE0
    go_wp2
    go_ret
    exact ⟨rfl, B4.out⟩
  subst h1
  have M1 := Lib.hid (MF1.out rfl)
  have M2 := Lib.hid (MF2.out rfl)
  have Z4 : Hid (Below w4.heap.size w4 w4) := Below.refl _ _
  obtain ⟨n, hn⟩ : ∃ z, z = C.length := ⟨_, rfl⟩
  have HN := Lib.hid hn
  rw [← hn] at M1 ⊢
  obtain ⟨nv, hnv⟩ : ∃ z, VE.length = z := ⟨_, rfl⟩
  rw [hnv] at TV4 ⊢
  have hnm2 : n ≤ 9223372036854775807 := by rw [hn]; exact (OC4.out w4 Z4.out).max
  clear MF1 MF2 HE0 hn hnv
  go_wp2
  go_loopw [10] (fun i wr => ∃ j : Nat, j ≤ n ∧ i = .int .i64 (j : Int) ∧ Hid (Below w4.heap.size w4 wr)) (fun i _ => n - (intOf i).toNat)
  case atStart => exact ⟨0, by omega, rfl, Z4⟩
  case round =>
    clear Z4
    obtain ⟨j, hj, rfl, hbel⟩ := hrel
    have BW := Lib.hid (bt B4.out hbel.out)
    by_cases hjn : j < n
    rotate_left
    · have q3 : decide (j < n) = false := by simpa using hjn
      have CX := Lib.hid (CCN.out wr _ (TV4.out wr hbel.out))
      rw [M1.out] at CX
      clear CO FD SM CHS CCN M1 M2 ND CU OC4 TV4
      go_wp2_with fail
      refine CX.out.mono ?_
      rintro e w5 ⟨rfl, b5⟩
      have BE := Lib.hid (bt BW.out b5)
      clear b5
      go_wp2
      go_ret
      exact ⟨rfl, BE.out⟩
    have q3 : decide (j < n) = true := by simpa using hjn
    have q4 : (0 : Int) ≤ (j : Int) := by omega
    have q5 : (j : Int) < (n : Int) := by omega
    have hjl : j < C.length := by rw [← HN.out]; exact hjn
    have OCX : OpL wr (.slice ac C.length cc) C := OC4.out wr hbel.out
    obtain ⟨bb, oo, u, e, hbb, hru, h0, h1, h2, h3, h4⟩ := opl_at (OCX) j hjl
    subst e
    obtain ⟨x, hx⟩ : ∃ x, x = C[j]'hjl := ⟨_, rfl⟩
    rw [← hx] at hru h0 h1 h2 h4
    have HO : Hid (∀ v : Value, opv x v = .agg #[.int .u8 (x.k : Int), .int .u32 (x.t : Int), .int .u8 (x.r : Int), v, .int .i64 x.p]) := fun v => rfl
    obtain ⟨uo, uc, rfl⟩ := hru.shape
    obtain ⟨nu, hnu⟩ : ∃ n, n = x.pl.length := ⟨_, rfl⟩
    have HNU := Lib.hid hnu
    rw [← hnu] at hru h3
    clear hnu
    have hxm : x ∈ C := by rw [hx]; exact List.getElem_mem _
    obtain ⟨m1, m2, m3⟩ := M2.out x hxm
    obtain ⟨nd1, nd2, nd3⟩ := needs_may m1
    have NDX := ND.out wr _ x hru
    rw [nd2, HO.out] at NDX
    have CUX : Hid (∀ (W : World) (k : Nat), Below wr.heap.size wr W → k ≤ 5000 → Calls Tryz.prog 27 #[.slice uo nu uc, .int .i64 (k : Int)] W fun e w' => ∃ v', e = .returned v' ∧ Runs w' v' (cutN x.pl k) ∧ Below W.heap.size W w') := fun W k h hk => CU.out W _ x k m1 hk (hru.keeps h)
    have HAX : Hid (∀ W : World, Below w4.heap.size w4 W → Calls Tryz.prog 15 #[.slice av nv cv, .agg #[.int .u32 (x.t : Int), .int .u8 (x.r : Int)]] W fun e w' => e = .returned (.bool true) ∧ Below W.heap.size W w') := fun W h => by
      have := CHS.out W _ (idO x) (TV4.out W h)
      rwa [m2] at this
    have M3 := Lib.hid m3
    have ND3 := Lib.hid nd3
    have hman : manyN x ≤ 4096 := Nat.le_trans (Nat.sub_le _ _) (all_pos (mayO_parts m1).2.1).2.1
    obtain ⟨m, hm⟩ : ∃ m, manyN x = m := ⟨_, rfl⟩
    rw [hm] at M3 ND3 nd1 hman
    obtain ⟨ID, hID⟩ : ∃ ID, needsL x = ID := ⟨_, rfl⟩
    rw [hID] at NDX ND3 nd1
    have HNI := Lib.hid nd1
    unfold Ops.Told at NDX
    rw [nd1] at NDX
    have NDX2 := Lib.hid NDX
    obtain ⟨px, hpx⟩ : ∃ px, x.pl = px := ⟨_, rfl⟩
    rw [hpx] at CUX M3 ND3
    clear NDX m1 m2 m3 nd1 nd2 nd3 hxm hx OCX HO hm hID hpx ND CU hru M2
    obtain ⟨k, hk⟩ : ∃ z, x.k = z := ⟨_, rfl⟩
    obtain ⟨t, ht⟩ : ∃ z, x.t = z := ⟨_, rfl⟩
    obtain ⟨r, hr⟩ : ∃ z, x.r = z := ⟨_, rfl⟩
    obtain ⟨p, hp⟩ : ∃ z, x.p = z := ⟨_, rfl⟩
    rw [hk, ht, hr, hp] at NDX2
    rw [hk] at h0
    rw [ht] at h1
    rw [hr] at h2
    rw [hp] at h4
    rw [ht, hr] at HAX
    have F1 : Hid (FiveAt wr bb (oo + j * 5) (.int .u8 (k : Int)) (.int .u32 (t : Int)) (.int .u8 (r : Int)) (.slice uo nu uc) (.int .i64 p)) := ⟨hbb, h0, h1, h2, h3, h4⟩
    clear hk ht hr hp hbb
    go_wp2_with fail
    refine NDX2.out.mono ?_
    rintro e w5 ⟨ia, ic, rfl, i5, b5⟩
    have I5 : Hid (∀ W : World, Below w5.heap.size w5 W → Ids W (.slice ia m ic) ID) := fun W h => i5.keeps h
    have R5 := Lib.hid b5
    have Z5 : Hid (Below w5.heap.size w5 w5) := Below.refl _ _
    clear i5 b5 NDX2 h0 h1 h2 h3 h4
    by_cases h300 : 300 < m
    · have t1 : decide ((300 : Int) < (m : Int)) = true := decide_eq_true (by omega)
      have u1 : decide (300 < m) = true := decide_eq_true h300
      have BE := Lib.hid (bt BW.out R5.out)
      clear CO FD SM CHS CCN CUX HAX M3 ND3 I5 OC4 TV4
      go_wp2
      go_ret
      exact ⟨rfl, BE.out⟩
    have t1 : decide ((300 : Int) < (m : Int)) = false := decide_eq_false (by omega)
    have u1 : decide (300 < m) = false := decide_eq_false h300
    go_wp2
    go_loopw [13] (fun i wq => ∃ i' : Nat, i' ≤ m ∧ i = .int .i64 (i' : Int) ∧ Hid (Below w5.heap.size w5 wq)) (fun i _ => m - (intOf i).toNat)
    case atStart => exact ⟨0, by omega, rfl, Z5⟩
    case round =>
      clear Z5 t1 u1
      obtain ⟨i, hi, rfl, hbe2⟩ := hrel
      have RW := Lib.hid (bt R5.out hbe2.out)
      have BX := Lib.hid (bt BW.out RW.out)
      have KW := Lib.hid (bt K4.out (bt hbel.out RW.out))
      by_cases him : i < m
      rotate_left
      · have q6 : decide (i < m) = false := by simpa using him
        have HAY := Lib.hid (HAX.out wr (bt hbel.out RW.out))
        obtain ⟨_, h0, h1, h2, h3, h4⟩ := F1.out.keeps RW.out
        clear CO FD SM CHS CCN CUX HAX M3 ND3 I5 OC4 TV4
        go_wp2_with fail
        refine HAY.out.mono ?_
        rintro e w6 ⟨rfl, b6⟩
        have ZB := Lib.hid (bt hbel.out (bt RW.out b6))
        clear b6 h0 h1 h2 h3 h4 HAY hbe2 RW BX KW
        go_wp2
        go_roundw
        case rel => exact ⟨j + 1, by omega, by go_num, ZB⟩
        case measure => simp [intOf]; omega
      have q6 : decide (i < m) = true := by simpa using him
      have q7 : (0 : Int) ≤ (i : Int) := by omega
      have q8 : (i : Int) < (m : Int) := by omega
      have hil : i < ID.length := by rw [HNI.out]; exact him
      obtain ⟨f1, f2⟩ := M3.out i him
      obtain ⟨ci, co, e, hcb, c0, c1⟩ := Ids.at (I5.out wr hbe2.out) i hil
      cases e
      rw [ND3.out i him] at c0 c1
      have CUY : Hid (∀ W : World, Below w5.heap.size w5 W → Calls Tryz.prog 27 #[.slice uo nu uc, .int .i64 ((i : Int) + 1)] W fun e w' => ∃ v', e = .returned v' ∧ Runs w' v' (cutN px (i + 1)) ∧ Below W.heap.size W w') := fun W h => by
        have := CUX.out W (i + 1) (bt R5.out h) (by omega)
        rwa [show ((i + 1 : Nat) : Int) = (i : Int) + 1 by omega] at this
      have COY : Hid (∀ (W : World) (u : Value), Below w.heap.size w W → Runs W u (cutN px (i + 1)) → Calls Tryz.prog 26 #[.slice ao0 n0 cap0, u] W (OneI (homeL l (cutN px (i + 1))) 0 W)) := fun W u h h2 => by
        have := CO.out W u _ h h2
        rwa [f1] at this
      obtain ⟨a, ha⟩ : ∃ a, (all px).getD i zid = a := ⟨_, rfl⟩
      rw [ha] at c0 c1 f2
      have FDY : Hid (∀ W : World, Below w.heap.size w W → Calls Tryz.prog 28 #[.slice ao0 n0 cap0, .agg #[.int .u32 (a.t : Int), .int .u8 (a.r : Int)]] W (FoundN (findL l a) W)) := fun W h => FD.out W a h
      have HAZ : Hid (∀ W : World, Below w4.heap.size w4 W → Calls Tryz.prog 15 #[.slice av nv cv, .agg #[.int .u32 (a.t : Int), .int .u8 (a.r : Int)]] W fun e w' => e = .returned (.bool (Clocks.hasC VE a)) ∧ Below W.heap.size W w') := fun W h => CHS.out W _ a (TV4.out W h)
      obtain ⟨⟨T, R, hT, hR⟩, hh⟩ : ∃ z, homeL l (cutN px (i + 1)) = z := ⟨_, rfl⟩
      rw [hh] at COY f2
      simp only at f2
      obtain ⟨cq, hcq⟩ : ∃ z, cutN px (i + 1) = z := ⟨_, rfl⟩
      rw [hcq] at CUY COY f2
      obtain ⟨fq, hfq⟩ : ∃ z, findL l a = z := ⟨_, rfl⟩
      rw [hfq] at FDY f2
      obtain ⟨hs, hhs⟩ : ∃ z, Clocks.hasC VE a = z := ⟨_, rfl⟩
      rw [hhs] at HAZ f2
      have F2 := Lib.hid f2
      obtain ⟨at', ar, hat, har⟩ := a
      simp only at c0 c1 FDY HAZ
      have IDC : Hid (∀ W : World, Below wr.heap.size wr W → W.cell? ⟨ci, co + i * 2, none⟩ = some (.int .u32 (at' : Int)) ∧ W.cell? ⟨ci, co + i * 2 + 1, none⟩ = some (.int .u8 (ar : Int))) := fun W h => ⟨(h.cell (p := ⟨ci, co + i * 2, none⟩) hcb).trans c0, (h.cell (p := ⟨ci, co + i * 2 + 1, none⟩) hcb).trans c1⟩
      have qi : IntKind.i64.wrap ((i : Int) + 1) = (i : Int) + 1 := IntWalk.i64_in _ (by omega)
      obtain ⟨_, h0, h1, h2, h3, h4⟩ := F1.out.keeps RW.out
      clear f1 f2 ha hh hcq hfq hhs CO FD CHS CCN CUX HAX M3 ND3 I5 OC4 TV4 hcb c0 c1
      go_wp2_with fail
      refine (CUY.out _ hbe2.out).mono ?_
      rintro e w6 ⟨vk, rfl, r6, b6⟩
      have R6 := Lib.hid r6
      obtain ⟨ka, kc, rfl⟩ := r6.shape
      have B6 := Lib.hid (bt BX.out b6)
      have Q6 := Lib.hid b6
      clear b6 r6 h0 h1 h2 h3 h4
      go_wp2_with fail
      refine (COY.out _ _ B6.out R6.out).mono ?_
      rintro e w7 ⟨rfl, b7⟩
      have bo := (Below.refl w7.heap.size w7).alloc (Nat.le_refl _) (.cells #[.int .u32 (T : Int), .int .u8 (R : Int)] 28)
      have P7 := Lib.hid (pair_new w7 (.int .u32 (T : Int)) (.int .u8 (R : Int)) 28)
      have B7 := Lib.hid (bt (bt B6.out b7) bo)
      have Q7 := Lib.hid (bt (bt Q6.out b7) bo)
      obtain ⟨y0, y1⟩ := IDC.out _ Q7.out
      clear b7 bo B6 Q6 R6 COY
      go_wp2_with fail
      refine (FDY.out _ B7.out).mono ?_
      rintro e w8 ⟨vf, rfl, o8, b8⟩
      obtain ⟨z, hz⟩ : ∃ z, fq.getD zop = z := ⟨_, rfl⟩
      obtain ⟨is, his⟩ : ∃ q, fq.isSome = q := ⟨_, rfl⟩
      rw [hz] at o8 F2 ⊢
      rw [his] at F2 ⊢
      have RF8 := Lib.hid (Runs.own o8)
      obtain ⟨fo, fc, rfl⟩ := (Runs.own o8).shape
      have HFV : opv z (.slice fo z.pl.length fc) = .agg #[.int .u8 (z.k : Int), .int .u32 (z.t : Int), .int .u8 (z.r : Int), .slice fo z.pl.length fc, .int .i64 z.p] := rfl
      rw [HFV]
      obtain ⟨zl, hzl⟩ : ∃ x, z.pl = x := ⟨_, rfl⟩
      rw [hzl] at RF8 F2 ⊢
      obtain ⟨zk, hzk⟩ : ∃ x, z.k = x := ⟨_, rfl⟩
      rw [hzk] at F2 ⊢
      obtain ⟨zt, hzt⟩ : ∃ x, z.t = x := ⟨_, rfl⟩
      obtain ⟨zr, hzr⟩ : ∃ x, z.r = x := ⟨_, rfl⟩
      obtain ⟨zp, hzp⟩ : ∃ x, z.p = x := ⟨_, rfl⟩
      rw [hzt, hzr, hzp]
      obtain ⟨nf, hnf⟩ : ∃ x, zl.length = x := ⟨_, rfl⟩
      rw [hnf] at RF8 ⊢
      have bo := (Below.refl w8.heap.size w8).alloc (Nat.le_refl _) (.cells #[.int .u8 (zk : Int), .int .u32 (zt : Int), .int .u8 (zr : Int), .slice fo nf fc, .int .i64 zp] 31)
      obtain ⟨wm, hwm⟩ : ∃ x, x = w8.alloc (.cells #[.int .u8 (zk : Int), .int .u32 (zt : Int), .int .u8 (zr : Int), .slice fo nf fc, .int .i64 zp] 31) := ⟨_, rfl⟩
      have G8 : Hid (wm.heap[w8.heap.size]? = some (.cells #[.int .u8 (zk : Int), .int .u32 (zt : Int), .int .u8 (zr : Int), .slice fo nf fc, .int .i64 zp] 31)) := by rw [hwm]; exact blk_new rfl
      rw [← hwm] at bo
      have P8 := Lib.hid ((P7.out.keeps b8).keeps bo)
      have Q8 := Lib.hid (bt (bt Q7.out b8) bo)
      have RF9 := Lib.hid (RF8.out.keeps bo)
      have HWM := Lib.hid hwm
      have CUZ : Hid (∀ W : World, Below wm.heap.size wm W → Calls Tryz.prog 27 #[.slice uo nu uc, .int .i64 ((i : Int) + 1)] W fun e w' => ∃ v', e = .returned v' ∧ Runs w' v' cq ∧ Below W.heap.size W w') := fun W h => CUY.out W (bt hbe2.out (bt Q8.out h))
      have SMZ : Hid (∀ (W : World) (u : Value), Below wm.heap.size wm W → Runs W u cq → Calls Tryz.prog 29 #[.slice fo nf fc, u] W fun e w' => e = .returned (.bool (decide (zl = cq))) ∧ Below W.heap.size W w') := fun W u h h2 => SM.out W _ u zl cq (RF9.out.keeps h) h2
      have HAW : Hid (∀ W : World, Below wm.heap.size wm W → Calls Tryz.prog 15 #[.slice av nv cv, .agg #[.int .u32 (at' : Int), .int .u8 (ar : Int)]] W fun e w' => e = .returned (.bool hs) ∧ Below W.heap.size W w') := fun W h => HAZ.out W (bt hbel.out (bt RW.out (bt Q8.out h)))
      have SK : Hid (∀ w' : World, Below wm.heap.size wm w' → Below wm.heap.size wm w' ∧ w'.cell? ⟨w7.heap.size, 0, none⟩ = some (.int .u32 (T : Int)) ∧ w'.cell? ⟨w7.heap.size, 1, none⟩ = some (.int .u8 (R : Int)) ∧ w'.cell? ⟨w.heap.size, 0, none⟩ = some (.int .u32 (ts : Int)) ∧ w'.cell? ⟨w.heap.size, 1, none⟩ = some (.int .u8 (rs : Int)) ∧ w'.cell? ⟨w8.heap.size, 0, none⟩ = some (.int .u8 (zk : Int)) ∧ w'.cell? ⟨w8.heap.size, 1, none⟩ = some (.int .u32 (zt : Int)) ∧ w'.cell? ⟨w8.heap.size, 2, none⟩ = some (.int .u8 (zr : Int)) ∧ w'.cell? ⟨w8.heap.size, 3, none⟩ = some (.slice fo nf fc) ∧ w'.cell? ⟨w8.heap.size, 4, none⟩ = some (.int .i64 zp) ∧ w'.cell? ⟨bb, oo + j * 5, none⟩ = some (.int .u8 (k : Int)) ∧ w'.cell? ⟨bb, oo + j * 5 + 1, none⟩ = some (.int .u32 (t : Int)) ∧ w'.cell? ⟨bb, oo + j * 5 + 2, none⟩ = some (.int .u8 (r : Int)) ∧ w'.cell? ⟨bb, oo + j * 5 + 3, none⟩ = some (.slice uo nu uc) ∧ w'.cell? ⟨bb, oo + j * 5 + 4, none⟩ = some (.int .i64 p) ∧ w'.cell? ⟨ci, co + i * 2, none⟩ = some (.int .u32 (at' : Int)) ∧ w'.cell? ⟨ci, co + i * 2 + 1, none⟩ = some (.int .u8 (ar : Int))) := fun W h => by
        have a1 := P8.out.keeps h
        have a2 := P0.out.keeps (bt KW.out (bt Q8.out h))
        have a3 := cells5 (blk_below h G8.out)
        have a4 := (F1.out.keeps (bt RW.out (bt Q8.out h))).2
        have a5 := IDC.out W (bt Q8.out h)
        exact ⟨h, a1.2.1, a1.2.2, a2.2.1, a2.2.2, a3.1, a3.2.1, a3.2.2.1, a3.2.2.2.1, a3.2.2.2.2, a4.1, a4.2.1, a4.2.2.1, a4.2.2.2.1, a4.2.2.2.2, a5.1, a5.2⟩
      obtain ⟨sm, hsm⟩ : ∃ q, decide (zl = cq) = q := ⟨_, rfl⟩
      rw [hsm] at SMZ
      have HSM := Lib.hid hsm
      have ZE : Hid (∀ W : World, Below wm.heap.size wm W → Below w5.heap.size w5 W) := fun W h => bt hbe2.out (bt Q8.out h)
      have f00 := SK.out wm (Below.refl _ _)
      clear hz his hzl hzk hzt hzr hzp hnf hwm bo o8 b8 HFV P7 Q7 B7 P8 RF8 RF9 G8 CUY SM HAZ FDY IDC F1 hsm y0 y1 KW BX RW
      have hne : ¬ T = ts ∨ (T = ts ∧ ¬ R = rs) ∨ (T = ts ∧ R = rs) := by
        by_cases h : T = ts
        · by_cases h2 : R = rs
          · exact .inr (.inr ⟨h, h2⟩)
          · exact .inr (.inl ⟨h, h2⟩)
        · exact .inl h
      rcases hne with hne | ⟨rfl, hne⟩ | ⟨rfl, rfl⟩
      · have hi2 : ¬ ((T : Int) = (ts : Int)) := by omega
        clear F2 HSM CUZ SMZ HAW
        rw [HWM.out] at f00
        obtain ⟨-, g0, g1, g2, g3, g4, g5, g6, g7, g8, g9, g10, g11, g12, g13, g14, g15⟩ := f00
        go_wp2
        rw [← HWM.out]
        refine wp_region_held_drew (S := fun w' => Below wm.heap.size wm w' ∧ w'.cell? ⟨w7.heap.size, 0, none⟩ = some (.int .u32 (T : Int)) ∧ w'.cell? ⟨w7.heap.size, 1, none⟩ = some (.int .u8 (R : Int)) ∧ w'.cell? ⟨w.heap.size, 0, none⟩ = some (.int .u32 (ts : Int)) ∧ w'.cell? ⟨w.heap.size, 1, none⟩ = some (.int .u8 (rs : Int)) ∧ w'.cell? ⟨w8.heap.size, 0, none⟩ = some (.int .u8 (zk : Int)) ∧ w'.cell? ⟨w8.heap.size, 1, none⟩ = some (.int .u32 (zt : Int)) ∧ w'.cell? ⟨w8.heap.size, 2, none⟩ = some (.int .u8 (zr : Int)) ∧ w'.cell? ⟨w8.heap.size, 3, none⟩ = some (.slice fo nf fc) ∧ w'.cell? ⟨w8.heap.size, 4, none⟩ = some (.int .i64 zp) ∧ w'.cell? ⟨bb, oo + j * 5, none⟩ = some (.int .u8 (k : Int)) ∧ w'.cell? ⟨bb, oo + j * 5 + 1, none⟩ = some (.int .u32 (t : Int)) ∧ w'.cell? ⟨bb, oo + j * 5 + 2, none⟩ = some (.int .u8 (r : Int)) ∧ w'.cell? ⟨bb, oo + j * 5 + 3, none⟩ = some (.slice uo nu uc) ∧ w'.cell? ⟨bb, oo + j * 5 + 4, none⟩ = some (.int .i64 p) ∧ w'.cell? ⟨ci, co + i * 2, none⟩ = some (.int .u32 (at' : Int)) ∧ w'.cell? ⟨ci, co + i * 2 + 1, none⟩ = some (.int .u8 (ar : Int))) (by kernel_rfl) (SK.out _ (drew1 _)) (fun hHeld => ?_)
        refine wpAnyH_take (i := 0) (v := ?va0) rfl (by kernel_rfl) (by kernel_rfl) (by kernel_rfl) (fun _ _ _ h => h) (Or.inl ⟨by rfl, ?ya0⟩) (by assumption) ?_
        case ya0 => intro w hSw; (try dsimp only at hSw); go_simp <;> with_reducible rfl
        try simp only [List.getElem_toArray, List.getElem_cons_zero, Act.put, List.setIfInBounds_toArray, List.set_cons_zero, List.set_cons_succ]
        refine wpAnyH_take (i := 1) (v := ?va1) rfl (by kernel_rfl) (by kernel_rfl) (by kernel_rfl) (fun _ _ _ h => h) (Or.inl ⟨by rfl, ?ya1⟩) (by assumption) ?_
        case ya1 => intro w hSw; (try dsimp only at hSw); go_simp <;> with_reducible rfl
        try simp only [List.getElem_toArray, List.getElem_cons_succ, List.getElem_cons_zero, Act.put, List.setIfInBounds_toArray, List.set_cons_zero, List.set_cons_succ]
        refine wpAnyH_take (i := 2) (v := ?va2) rfl (by kernel_rfl) (by kernel_rfl) (by kernel_rfl) (fun _ _ _ h => h) (Or.inl ⟨by rfl, ?ya2⟩) (by assumption) ?_
        case ya2 => intro w hSw; (try dsimp only at hSw); go_simp <;> with_reducible rfl
        try simp only [List.getElem_toArray, List.getElem_cons_succ, List.getElem_cons_zero, Act.put, List.setIfInBounds_toArray, List.set_cons_zero, List.set_cons_succ]
        refine wpAnyH_take (i := 3) (v := ?va3) rfl (by kernel_rfl) (by kernel_rfl) (by kernel_rfl) (fun _ _ _ h => h) (Or.inl ⟨by rfl, ?ya3⟩) (by assumption) ?_
        case ya3 => intro w hSw; (try dsimp only at hSw); go_simp <;> with_reducible rfl
        try simp only [List.getElem_toArray, List.getElem_cons_succ, List.getElem_cons_zero, Act.put, List.setIfInBounds_toArray, List.set_cons_zero, List.set_cons_succ]
        refine wpAnyH_take (i := 4) (v := undef) rfl (by kernel_rfl) (by kernel_rfl) (by kernel_rfl) (fun _ _ _ h => h) (Or.inr ⟨by rfl, rfl⟩) (by assumption) ?_
        try simp only [List.getElem_toArray, List.getElem_cons_succ, List.getElem_cons_zero, Act.put, List.setIfInBounds_toArray, List.set_cons_zero, List.set_cons_succ]
        refine wpAnyH_take (i := 5) (v := undef) rfl (by kernel_rfl) (by kernel_rfl) (by kernel_rfl) (fun _ _ _ h => h) (Or.inr ⟨by rfl, rfl⟩) (by assumption) ?_
        try simp only [List.getElem_toArray, List.getElem_cons_succ, List.getElem_cons_zero, Act.put, List.setIfInBounds_toArray, List.set_cons_zero, List.set_cons_succ]
        refine wpAnyH_take (i := 6) (v := undef) rfl (by kernel_rfl) (by kernel_rfl) (by kernel_rfl) (fun _ _ _ h => h) (Or.inr ⟨by rfl, rfl⟩) (by assumption) ?_
        try simp only [List.getElem_toArray, List.getElem_cons_succ, List.getElem_cons_zero, Act.put, List.setIfInBounds_toArray, List.set_cons_zero, List.set_cons_succ]
        refine wpAnyH_take (i := 7) (v := ?va7) rfl (by kernel_rfl) (by kernel_rfl) (by kernel_rfl) (fun _ _ _ h => h) (Or.inl ⟨by rfl, ?ya7⟩) (by assumption) ?_
        case ya7 => intro w hSw; (try dsimp only at hSw); go_simp <;> with_reducible rfl
        try simp only [List.getElem_toArray, List.getElem_cons_succ, List.getElem_cons_zero, Act.put, List.setIfInBounds_toArray, List.set_cons_zero, List.set_cons_succ]
        refine wpAnyH_take (i := 8) (v := ?va8) rfl (by kernel_rfl) (by kernel_rfl) (by kernel_rfl) (fun _ _ _ h => h) (Or.inl ⟨by rfl, ?ya8⟩) (by assumption) ?_
        case ya8 => intro w hSw; (try dsimp only at hSw); go_simp <;> with_reducible rfl
        try simp only [List.getElem_toArray, List.getElem_cons_succ, List.getElem_cons_zero, Act.put, List.setIfInBounds_toArray, List.set_cons_zero, List.set_cons_succ]
        refine wpAnyH_take (i := 9) (v := undef) rfl (by kernel_rfl) (by kernel_rfl) (by kernel_rfl) (fun _ _ _ h => h) (Or.inr ⟨by rfl, rfl⟩) (by assumption) ?_
        try simp only [List.getElem_toArray, List.getElem_cons_succ, List.getElem_cons_zero, Act.put, List.setIfInBounds_toArray, List.set_cons_zero, List.set_cons_succ]
        refine wpAnyH_take (i := 10) (v := undef) rfl (by kernel_rfl) (by kernel_rfl) (by kernel_rfl) (fun _ _ _ h => h) (Or.inr ⟨by rfl, rfl⟩) (by assumption) ?_
        try simp only [List.getElem_toArray, List.getElem_cons_succ, List.getElem_cons_zero, Act.put, List.setIfInBounds_toArray, List.set_cons_zero, List.set_cons_succ]
        refine wpAnyH_take (i := 11) (v := undef) rfl (by kernel_rfl) (by kernel_rfl) (by kernel_rfl) (fun _ _ _ h => h) (Or.inr ⟨by rfl, rfl⟩) (by assumption) ?_
        try simp only [List.getElem_toArray, List.getElem_cons_succ, List.getElem_cons_zero, Act.put, List.setIfInBounds_toArray, List.set_cons_zero, List.set_cons_succ]
        refine wpAnyH_take (i := 12) (v := undef) rfl (by kernel_rfl) (by kernel_rfl) (by kernel_rfl) (fun _ _ _ h => h) (Or.inr ⟨by rfl, rfl⟩) (by assumption) ?_
        try simp only [List.getElem_toArray, List.getElem_cons_succ, List.getElem_cons_zero, Act.put, List.setIfInBounds_toArray, List.set_cons_zero, List.set_cons_succ]
        refine wpAnyH_take (i := 13) (v := undef) rfl (by kernel_rfl) (by kernel_rfl) (by kernel_rfl) (fun _ _ _ h => h) (Or.inr ⟨by rfl, rfl⟩) (by assumption) ?_
        try simp only [List.getElem_toArray, List.getElem_cons_succ, List.getElem_cons_zero, Act.put, List.setIfInBounds_toArray, List.set_cons_zero, List.set_cons_succ]
        refine wpAnyH_take (i := 14) (v := undef) rfl (by kernel_rfl) (by kernel_rfl) (by kernel_rfl) (fun _ _ _ h => h) (Or.inr ⟨by rfl, rfl⟩) (by assumption) ?_
        try simp only [List.getElem_toArray, List.getElem_cons_succ, List.getElem_cons_zero, Act.put, List.setIfInBounds_toArray, List.set_cons_zero, List.set_cons_succ]
        refine wpAnyH_take (i := 15) (v := undef) rfl (by kernel_rfl) (by kernel_rfl) (by kernel_rfl) (fun _ _ _ h => h) (Or.inr ⟨by rfl, rfl⟩) (by assumption) ?_
        try simp only [List.getElem_toArray, List.getElem_cons_succ, List.getElem_cons_zero, Act.put, List.setIfInBounds_toArray, List.set_cons_zero, List.set_cons_succ]
        refine wpAnyH_take (i := 16) (v := undef) rfl (by kernel_rfl) (by kernel_rfl) (by kernel_rfl) (fun _ _ _ h => h) (Or.inr ⟨by rfl, rfl⟩) (by assumption) ?_
        try simp only [List.getElem_toArray, List.getElem_cons_succ, List.getElem_cons_zero, Act.put, List.setIfInBounds_toArray, List.set_cons_zero, List.set_cons_succ]
        refine wpAnyH_take (i := 17) (v := undef) rfl (by kernel_rfl) (by kernel_rfl) (by kernel_rfl) (fun _ _ _ h => h) (Or.inr ⟨by rfl, rfl⟩) (by assumption) ?_
        try simp only [List.getElem_toArray, List.getElem_cons_succ, List.getElem_cons_zero, Act.put, List.setIfInBounds_toArray, List.set_cons_zero, List.set_cons_succ]
        refine wpAnyH_take (i := 18) (v := undef) rfl (by kernel_rfl) (by kernel_rfl) (by kernel_rfl) (fun _ _ _ h => h) (Or.inr ⟨by rfl, rfl⟩) (by assumption) ?_
        try simp only [List.getElem_toArray, List.getElem_cons_succ, List.getElem_cons_zero, Act.put, List.setIfInBounds_toArray, List.set_cons_zero, List.set_cons_succ]
        refine wpAnyH_take (i := 19) (v := undef) rfl (by kernel_rfl) (by kernel_rfl) (by kernel_rfl) (fun _ _ _ h => h) (Or.inr ⟨by rfl, rfl⟩) (by assumption) ?_
        try simp only [List.getElem_toArray, List.getElem_cons_succ, List.getElem_cons_zero, Act.put, List.setIfInBounds_toArray, List.set_cons_zero, List.set_cons_succ]
        refine wpAnyH_take (i := 20) (v := ?va20) rfl (by kernel_rfl) (by kernel_rfl) (by kernel_rfl) (fun _ _ _ h => h) (Or.inl ⟨by rfl, ?ya20⟩) (by assumption) ?_
        case ya20 => intro w hSw; (try dsimp only at hSw); go_simp <;> with_reducible rfl
        try simp only [List.getElem_toArray, List.getElem_cons_succ, List.getElem_cons_zero, Act.put, List.setIfInBounds_toArray, List.set_cons_zero, List.set_cons_succ]
        refine wpAnyH_take (i := 21) (v := ?va21) rfl (by kernel_rfl) (by kernel_rfl) (by kernel_rfl) (fun _ _ _ h => h) (Or.inl ⟨by rfl, ?ya21⟩) (by assumption) ?_
        case ya21 => intro w hSw; (try dsimp only at hSw); go_simp <;> with_reducible rfl
        try simp only [List.getElem_toArray, List.getElem_cons_succ, List.getElem_cons_zero, Act.put, List.setIfInBounds_toArray, List.set_cons_zero, List.set_cons_succ]
        refine wpAnyH_take (i := 22) (v := undef) rfl (by kernel_rfl) (by kernel_rfl) (by kernel_rfl) (fun _ _ _ h => h) (Or.inr ⟨by rfl, rfl⟩) (by assumption) ?_
        try simp only [List.getElem_toArray, List.getElem_cons_succ, List.getElem_cons_zero, Act.put, List.setIfInBounds_toArray, List.set_cons_zero, List.set_cons_succ]
        refine wpAnyH_take (i := 23) (v := undef) rfl (by kernel_rfl) (by kernel_rfl) (by kernel_rfl) (fun _ _ _ h => h) (Or.inr ⟨by rfl, rfl⟩) (by assumption) ?_
        try simp only [List.getElem_toArray, List.getElem_cons_succ, List.getElem_cons_zero, Act.put, List.setIfInBounds_toArray, List.set_cons_zero, List.set_cons_succ]
        refine wpAnyH_take (i := 24) (v := undef) rfl (by kernel_rfl) (by kernel_rfl) (by kernel_rfl) (fun _ _ _ h => h) (Or.inr ⟨by rfl, rfl⟩) (by assumption) ?_
        try simp only [List.getElem_toArray, List.getElem_cons_succ, List.getElem_cons_zero, Act.put, List.setIfInBounds_toArray, List.set_cons_zero, List.set_cons_succ]
        refine wpAnyH_take (i := 25) (v := undef) rfl (by kernel_rfl) (by kernel_rfl) (by kernel_rfl) (fun _ _ _ h => h) (Or.inr ⟨by rfl, rfl⟩) (by assumption) ?_
        try simp only [List.getElem_toArray, List.getElem_cons_succ, List.getElem_cons_zero, Act.put, List.setIfInBounds_toArray, List.set_cons_zero, List.set_cons_succ]
        refine wpAnyH_take (i := 26) (v := undef) rfl (by kernel_rfl) (by kernel_rfl) (by kernel_rfl) (fun _ _ _ h => h) (Or.inr ⟨by rfl, rfl⟩) (by assumption) ?_
        try simp only [List.getElem_toArray, List.getElem_cons_succ, List.getElem_cons_zero, Act.put, List.setIfInBounds_toArray, List.set_cons_zero, List.set_cons_succ]
        refine wpAnyH_take (i := 27) (v := undef) rfl (by kernel_rfl) (by kernel_rfl) (by kernel_rfl) (fun _ _ _ h => h) (Or.inr ⟨by rfl, rfl⟩) (by assumption) ?_
        try simp only [List.getElem_toArray, List.getElem_cons_succ, List.getElem_cons_zero, Act.put, List.setIfInBounds_toArray, List.set_cons_zero, List.set_cons_succ]
        refine wpAnyH_take (i := 28) (v := undef) rfl (by kernel_rfl) (by kernel_rfl) (by kernel_rfl) (fun _ _ _ h => h) (Or.inr ⟨by rfl, rfl⟩) (by assumption) ?_
        try simp only [List.getElem_toArray, List.getElem_cons_succ, List.getElem_cons_zero, Act.put, List.setIfInBounds_toArray, List.set_cons_zero, List.set_cons_succ]
        refine wpAnyH_take (i := 29) (v := ?va29) rfl (by kernel_rfl) (by kernel_rfl) (by kernel_rfl) (fun _ _ _ h => h) (Or.inl ⟨by rfl, ?ya29⟩) (by assumption) ?_
        case ya29 => intro w hSw; (try dsimp only at hSw); go_simp <;> with_reducible rfl
        try simp only [List.getElem_toArray, List.getElem_cons_succ, List.getElem_cons_zero, Act.put, List.setIfInBounds_toArray, List.set_cons_zero, List.set_cons_succ]
        refine wpAnyH_done (by kernel_rfl) ?_ _
        have ZF := Lib.hid (ZE.out _ hHeld.1)
        clear hHeld SK ZE
        go_wp2
        go_roundw
        case rel => exact ⟨i + 1, by omega, by go_num, ZF⟩
        case measure => simp [intOf]; omega
      · have hi2 : ¬ ((R : Int) = (rs : Int)) := by omega
        clear F2 HSM CUZ SMZ HAW
        rw [HWM.out] at f00
        obtain ⟨-, g0, g1, g2, g3, g4, g5, g6, g7, g8, g9, g10, g11, g12, g13, g14, g15⟩ := f00
        go_wp2
        rw [← HWM.out]
        refine wp_region_held_drew (S := fun w' => Below wm.heap.size wm w' ∧ w'.cell? ⟨w7.heap.size, 0, none⟩ = some (.int .u32 (T : Int)) ∧ w'.cell? ⟨w7.heap.size, 1, none⟩ = some (.int .u8 (R : Int)) ∧ w'.cell? ⟨w.heap.size, 0, none⟩ = some (.int .u32 (T : Int)) ∧ w'.cell? ⟨w.heap.size, 1, none⟩ = some (.int .u8 (rs : Int)) ∧ w'.cell? ⟨w8.heap.size, 0, none⟩ = some (.int .u8 (zk : Int)) ∧ w'.cell? ⟨w8.heap.size, 1, none⟩ = some (.int .u32 (zt : Int)) ∧ w'.cell? ⟨w8.heap.size, 2, none⟩ = some (.int .u8 (zr : Int)) ∧ w'.cell? ⟨w8.heap.size, 3, none⟩ = some (.slice fo nf fc) ∧ w'.cell? ⟨w8.heap.size, 4, none⟩ = some (.int .i64 zp) ∧ w'.cell? ⟨bb, oo + j * 5, none⟩ = some (.int .u8 (k : Int)) ∧ w'.cell? ⟨bb, oo + j * 5 + 1, none⟩ = some (.int .u32 (t : Int)) ∧ w'.cell? ⟨bb, oo + j * 5 + 2, none⟩ = some (.int .u8 (r : Int)) ∧ w'.cell? ⟨bb, oo + j * 5 + 3, none⟩ = some (.slice uo nu uc) ∧ w'.cell? ⟨bb, oo + j * 5 + 4, none⟩ = some (.int .i64 p) ∧ w'.cell? ⟨ci, co + i * 2, none⟩ = some (.int .u32 (at' : Int)) ∧ w'.cell? ⟨ci, co + i * 2 + 1, none⟩ = some (.int .u8 (ar : Int))) (by kernel_rfl) (SK.out _ (drew1 _)) (fun hHeld => ?_)
        refine wpAnyH_take (i := 0) (v := ?vb0) rfl (by kernel_rfl) (by kernel_rfl) (by kernel_rfl) (fun _ _ _ h => h) (Or.inl ⟨by rfl, ?yb0⟩) (by assumption) ?_
        case yb0 => intro w hSw; (try dsimp only at hSw); go_simp <;> with_reducible rfl
        try simp only [List.getElem_toArray, List.getElem_cons_zero, Act.put, List.setIfInBounds_toArray, List.set_cons_zero, List.set_cons_succ]
        refine wpAnyH_take (i := 1) (v := ?vb1) rfl (by kernel_rfl) (by kernel_rfl) (by kernel_rfl) (fun _ _ _ h => h) (Or.inl ⟨by rfl, ?yb1⟩) (by assumption) ?_
        case yb1 => intro w hSw; (try dsimp only at hSw); go_simp <;> with_reducible rfl
        try simp only [List.getElem_toArray, List.getElem_cons_succ, List.getElem_cons_zero, Act.put, List.setIfInBounds_toArray, List.set_cons_zero, List.set_cons_succ]
        refine wpAnyH_take (i := 2) (v := ?vb2) rfl (by kernel_rfl) (by kernel_rfl) (by kernel_rfl) (fun _ _ _ h => h) (Or.inl ⟨by rfl, ?yb2⟩) (by assumption) ?_
        case yb2 => intro w hSw; (try dsimp only at hSw); go_simp <;> with_reducible rfl
        try simp only [List.getElem_toArray, List.getElem_cons_succ, List.getElem_cons_zero, Act.put, List.setIfInBounds_toArray, List.set_cons_zero, List.set_cons_succ]
        refine wpAnyH_take (i := 3) (v := ?vb3) rfl (by kernel_rfl) (by kernel_rfl) (by kernel_rfl) (fun _ _ _ h => h) (Or.inl ⟨by rfl, ?yb3⟩) (by assumption) ?_
        case yb3 => intro w hSw; (try dsimp only at hSw); go_simp <;> with_reducible rfl
        try simp only [List.getElem_toArray, List.getElem_cons_succ, List.getElem_cons_zero, Act.put, List.setIfInBounds_toArray, List.set_cons_zero, List.set_cons_succ]
        refine wpAnyH_take (i := 4) (v := undef) rfl (by kernel_rfl) (by kernel_rfl) (by kernel_rfl) (fun _ _ _ h => h) (Or.inr ⟨by rfl, rfl⟩) (by assumption) ?_
        try simp only [List.getElem_toArray, List.getElem_cons_succ, List.getElem_cons_zero, Act.put, List.setIfInBounds_toArray, List.set_cons_zero, List.set_cons_succ]
        refine wpAnyH_take (i := 5) (v := undef) rfl (by kernel_rfl) (by kernel_rfl) (by kernel_rfl) (fun _ _ _ h => h) (Or.inr ⟨by rfl, rfl⟩) (by assumption) ?_
        try simp only [List.getElem_toArray, List.getElem_cons_succ, List.getElem_cons_zero, Act.put, List.setIfInBounds_toArray, List.set_cons_zero, List.set_cons_succ]
        refine wpAnyH_take (i := 6) (v := undef) rfl (by kernel_rfl) (by kernel_rfl) (by kernel_rfl) (fun _ _ _ h => h) (Or.inr ⟨by rfl, rfl⟩) (by assumption) ?_
        try simp only [List.getElem_toArray, List.getElem_cons_succ, List.getElem_cons_zero, Act.put, List.setIfInBounds_toArray, List.set_cons_zero, List.set_cons_succ]
        refine wpAnyH_take (i := 7) (v := ?vb7) rfl (by kernel_rfl) (by kernel_rfl) (by kernel_rfl) (fun _ _ _ h => h) (Or.inl ⟨by rfl, ?yb7⟩) (by assumption) ?_
        case yb7 => intro w hSw; (try dsimp only at hSw); go_simp <;> with_reducible rfl
        try simp only [List.getElem_toArray, List.getElem_cons_succ, List.getElem_cons_zero, Act.put, List.setIfInBounds_toArray, List.set_cons_zero, List.set_cons_succ]
        refine wpAnyH_take (i := 8) (v := ?vb8) rfl (by kernel_rfl) (by kernel_rfl) (by kernel_rfl) (fun _ _ _ h => h) (Or.inl ⟨by rfl, ?yb8⟩) (by assumption) ?_
        case yb8 => intro w hSw; (try dsimp only at hSw); go_simp <;> with_reducible rfl
        try simp only [List.getElem_toArray, List.getElem_cons_succ, List.getElem_cons_zero, Act.put, List.setIfInBounds_toArray, List.set_cons_zero, List.set_cons_succ]
        refine wpAnyH_take (i := 9) (v := undef) rfl (by kernel_rfl) (by kernel_rfl) (by kernel_rfl) (fun _ _ _ h => h) (Or.inr ⟨by rfl, rfl⟩) (by assumption) ?_
        try simp only [List.getElem_toArray, List.getElem_cons_succ, List.getElem_cons_zero, Act.put, List.setIfInBounds_toArray, List.set_cons_zero, List.set_cons_succ]
        refine wpAnyH_take (i := 10) (v := undef) rfl (by kernel_rfl) (by kernel_rfl) (by kernel_rfl) (fun _ _ _ h => h) (Or.inr ⟨by rfl, rfl⟩) (by assumption) ?_
        try simp only [List.getElem_toArray, List.getElem_cons_succ, List.getElem_cons_zero, Act.put, List.setIfInBounds_toArray, List.set_cons_zero, List.set_cons_succ]
        refine wpAnyH_take (i := 11) (v := undef) rfl (by kernel_rfl) (by kernel_rfl) (by kernel_rfl) (fun _ _ _ h => h) (Or.inr ⟨by rfl, rfl⟩) (by assumption) ?_
        try simp only [List.getElem_toArray, List.getElem_cons_succ, List.getElem_cons_zero, Act.put, List.setIfInBounds_toArray, List.set_cons_zero, List.set_cons_succ]
        refine wpAnyH_take (i := 12) (v := undef) rfl (by kernel_rfl) (by kernel_rfl) (by kernel_rfl) (fun _ _ _ h => h) (Or.inr ⟨by rfl, rfl⟩) (by assumption) ?_
        try simp only [List.getElem_toArray, List.getElem_cons_succ, List.getElem_cons_zero, Act.put, List.setIfInBounds_toArray, List.set_cons_zero, List.set_cons_succ]
        refine wpAnyH_take (i := 13) (v := undef) rfl (by kernel_rfl) (by kernel_rfl) (by kernel_rfl) (fun _ _ _ h => h) (Or.inr ⟨by rfl, rfl⟩) (by assumption) ?_
        try simp only [List.getElem_toArray, List.getElem_cons_succ, List.getElem_cons_zero, Act.put, List.setIfInBounds_toArray, List.set_cons_zero, List.set_cons_succ]
        refine wpAnyH_take (i := 14) (v := undef) rfl (by kernel_rfl) (by kernel_rfl) (by kernel_rfl) (fun _ _ _ h => h) (Or.inr ⟨by rfl, rfl⟩) (by assumption) ?_
        try simp only [List.getElem_toArray, List.getElem_cons_succ, List.getElem_cons_zero, Act.put, List.setIfInBounds_toArray, List.set_cons_zero, List.set_cons_succ]
        refine wpAnyH_take (i := 15) (v := undef) rfl (by kernel_rfl) (by kernel_rfl) (by kernel_rfl) (fun _ _ _ h => h) (Or.inr ⟨by rfl, rfl⟩) (by assumption) ?_
        try simp only [List.getElem_toArray, List.getElem_cons_succ, List.getElem_cons_zero, Act.put, List.setIfInBounds_toArray, List.set_cons_zero, List.set_cons_succ]
        refine wpAnyH_take (i := 16) (v := undef) rfl (by kernel_rfl) (by kernel_rfl) (by kernel_rfl) (fun _ _ _ h => h) (Or.inr ⟨by rfl, rfl⟩) (by assumption) ?_
        try simp only [List.getElem_toArray, List.getElem_cons_succ, List.getElem_cons_zero, Act.put, List.setIfInBounds_toArray, List.set_cons_zero, List.set_cons_succ]
        refine wpAnyH_take (i := 17) (v := undef) rfl (by kernel_rfl) (by kernel_rfl) (by kernel_rfl) (fun _ _ _ h => h) (Or.inr ⟨by rfl, rfl⟩) (by assumption) ?_
        try simp only [List.getElem_toArray, List.getElem_cons_succ, List.getElem_cons_zero, Act.put, List.setIfInBounds_toArray, List.set_cons_zero, List.set_cons_succ]
        refine wpAnyH_take (i := 18) (v := undef) rfl (by kernel_rfl) (by kernel_rfl) (by kernel_rfl) (fun _ _ _ h => h) (Or.inr ⟨by rfl, rfl⟩) (by assumption) ?_
        try simp only [List.getElem_toArray, List.getElem_cons_succ, List.getElem_cons_zero, Act.put, List.setIfInBounds_toArray, List.set_cons_zero, List.set_cons_succ]
        refine wpAnyH_take (i := 19) (v := undef) rfl (by kernel_rfl) (by kernel_rfl) (by kernel_rfl) (fun _ _ _ h => h) (Or.inr ⟨by rfl, rfl⟩) (by assumption) ?_
        try simp only [List.getElem_toArray, List.getElem_cons_succ, List.getElem_cons_zero, Act.put, List.setIfInBounds_toArray, List.set_cons_zero, List.set_cons_succ]
        refine wpAnyH_take (i := 20) (v := ?vb20) rfl (by kernel_rfl) (by kernel_rfl) (by kernel_rfl) (fun _ _ _ h => h) (Or.inl ⟨by rfl, ?yb20⟩) (by assumption) ?_
        case yb20 => intro w hSw; (try dsimp only at hSw); go_simp <;> with_reducible rfl
        try simp only [List.getElem_toArray, List.getElem_cons_succ, List.getElem_cons_zero, Act.put, List.setIfInBounds_toArray, List.set_cons_zero, List.set_cons_succ]
        refine wpAnyH_take (i := 21) (v := ?vb21) rfl (by kernel_rfl) (by kernel_rfl) (by kernel_rfl) (fun _ _ _ h => h) (Or.inl ⟨by rfl, ?yb21⟩) (by assumption) ?_
        case yb21 => intro w hSw; (try dsimp only at hSw); go_simp <;> with_reducible rfl
        try simp only [List.getElem_toArray, List.getElem_cons_succ, List.getElem_cons_zero, Act.put, List.setIfInBounds_toArray, List.set_cons_zero, List.set_cons_succ]
        refine wpAnyH_take (i := 22) (v := undef) rfl (by kernel_rfl) (by kernel_rfl) (by kernel_rfl) (fun _ _ _ h => h) (Or.inr ⟨by rfl, rfl⟩) (by assumption) ?_
        try simp only [List.getElem_toArray, List.getElem_cons_succ, List.getElem_cons_zero, Act.put, List.setIfInBounds_toArray, List.set_cons_zero, List.set_cons_succ]
        refine wpAnyH_take (i := 23) (v := undef) rfl (by kernel_rfl) (by kernel_rfl) (by kernel_rfl) (fun _ _ _ h => h) (Or.inr ⟨by rfl, rfl⟩) (by assumption) ?_
        try simp only [List.getElem_toArray, List.getElem_cons_succ, List.getElem_cons_zero, Act.put, List.setIfInBounds_toArray, List.set_cons_zero, List.set_cons_succ]
        refine wpAnyH_take (i := 24) (v := undef) rfl (by kernel_rfl) (by kernel_rfl) (by kernel_rfl) (fun _ _ _ h => h) (Or.inr ⟨by rfl, rfl⟩) (by assumption) ?_
        try simp only [List.getElem_toArray, List.getElem_cons_succ, List.getElem_cons_zero, Act.put, List.setIfInBounds_toArray, List.set_cons_zero, List.set_cons_succ]
        refine wpAnyH_take (i := 25) (v := undef) rfl (by kernel_rfl) (by kernel_rfl) (by kernel_rfl) (fun _ _ _ h => h) (Or.inr ⟨by rfl, rfl⟩) (by assumption) ?_
        try simp only [List.getElem_toArray, List.getElem_cons_succ, List.getElem_cons_zero, Act.put, List.setIfInBounds_toArray, List.set_cons_zero, List.set_cons_succ]
        refine wpAnyH_take (i := 26) (v := undef) rfl (by kernel_rfl) (by kernel_rfl) (by kernel_rfl) (fun _ _ _ h => h) (Or.inr ⟨by rfl, rfl⟩) (by assumption) ?_
        try simp only [List.getElem_toArray, List.getElem_cons_succ, List.getElem_cons_zero, Act.put, List.setIfInBounds_toArray, List.set_cons_zero, List.set_cons_succ]
        refine wpAnyH_take (i := 27) (v := undef) rfl (by kernel_rfl) (by kernel_rfl) (by kernel_rfl) (fun _ _ _ h => h) (Or.inr ⟨by rfl, rfl⟩) (by assumption) ?_
        try simp only [List.getElem_toArray, List.getElem_cons_succ, List.getElem_cons_zero, Act.put, List.setIfInBounds_toArray, List.set_cons_zero, List.set_cons_succ]
        refine wpAnyH_take (i := 28) (v := undef) rfl (by kernel_rfl) (by kernel_rfl) (by kernel_rfl) (fun _ _ _ h => h) (Or.inr ⟨by rfl, rfl⟩) (by assumption) ?_
        try simp only [List.getElem_toArray, List.getElem_cons_succ, List.getElem_cons_zero, Act.put, List.setIfInBounds_toArray, List.set_cons_zero, List.set_cons_succ]
        refine wpAnyH_take (i := 29) (v := ?vb29) rfl (by kernel_rfl) (by kernel_rfl) (by kernel_rfl) (fun _ _ _ h => h) (Or.inl ⟨by rfl, ?yb29⟩) (by assumption) ?_
        case yb29 => intro w hSw; (try dsimp only at hSw); go_simp <;> with_reducible rfl
        try simp only [List.getElem_toArray, List.getElem_cons_succ, List.getElem_cons_zero, Act.put, List.setIfInBounds_toArray, List.set_cons_zero, List.set_cons_succ]
        refine wpAnyH_done (by kernel_rfl) ?_ _
        have ZF := Lib.hid (ZE.out _ hHeld.1)
        clear hHeld SK ZE
        go_wp2
        go_roundw
        case rel => exact ⟨i + 1, by omega, by go_num, ZF⟩
        case measure => simp [intOf]; omega
      obtain ⟨rfl, f3⟩ := F2.out rfl rfl
      have F3 := Lib.hid f3
      clear f3 F2
      by_cases hk1 : zk = 1
      rotate_left
      · have qk : ((zk : Int) == 1) = false := by simp; omega
        have qk2 : decide ((zk : Int) = 1) = false := decide_eq_false (by omega)
        clear F3 HSM CUZ SMZ HAW
        rw [HWM.out] at f00
        obtain ⟨-, g0, g1, g2, g3, g4, g5, g6, g7, g8, g9, g10, g11, g12, g13, g14, g15⟩ := f00
        go_wp2
        rw [← HWM.out]
        refine wp_region_held_drew (S := fun w' => Below wm.heap.size wm w' ∧ w'.cell? ⟨w7.heap.size, 0, none⟩ = some (.int .u32 (T : Int)) ∧ w'.cell? ⟨w7.heap.size, 1, none⟩ = some (.int .u8 (R : Int)) ∧ w'.cell? ⟨w.heap.size, 0, none⟩ = some (.int .u32 (T : Int)) ∧ w'.cell? ⟨w.heap.size, 1, none⟩ = some (.int .u8 (R : Int)) ∧ w'.cell? ⟨w8.heap.size, 0, none⟩ = some (.int .u8 (zk : Int)) ∧ w'.cell? ⟨w8.heap.size, 1, none⟩ = some (.int .u32 (zt : Int)) ∧ w'.cell? ⟨w8.heap.size, 2, none⟩ = some (.int .u8 (zr : Int)) ∧ w'.cell? ⟨w8.heap.size, 3, none⟩ = some (.slice fo nf fc) ∧ w'.cell? ⟨w8.heap.size, 4, none⟩ = some (.int .i64 zp) ∧ w'.cell? ⟨bb, oo + j * 5, none⟩ = some (.int .u8 (k : Int)) ∧ w'.cell? ⟨bb, oo + j * 5 + 1, none⟩ = some (.int .u32 (t : Int)) ∧ w'.cell? ⟨bb, oo + j * 5 + 2, none⟩ = some (.int .u8 (r : Int)) ∧ w'.cell? ⟨bb, oo + j * 5 + 3, none⟩ = some (.slice uo nu uc) ∧ w'.cell? ⟨bb, oo + j * 5 + 4, none⟩ = some (.int .i64 p) ∧ w'.cell? ⟨ci, co + i * 2, none⟩ = some (.int .u32 (at' : Int)) ∧ w'.cell? ⟨ci, co + i * 2 + 1, none⟩ = some (.int .u8 (ar : Int))) (by kernel_rfl) (SK.out _ (drew1 _)) (fun hHeld => ?_)
        refine wpAnyH_take (i := 0) (v := ?vc0) rfl (by kernel_rfl) (by kernel_rfl) (by kernel_rfl) (fun _ _ _ h => h) (Or.inl ⟨by rfl, ?yc0⟩) (by assumption) ?_
        case yc0 => intro w hSw; (try dsimp only at hSw); go_simp <;> with_reducible rfl
        try simp only [List.getElem_toArray, List.getElem_cons_zero, Act.put, List.setIfInBounds_toArray, List.set_cons_zero, List.set_cons_succ]
        refine wpAnyH_take (i := 1) (v := ?vc1) rfl (by kernel_rfl) (by kernel_rfl) (by kernel_rfl) (fun _ _ _ h => h) (Or.inl ⟨by rfl, ?yc1⟩) (by assumption) ?_
        case yc1 => intro w hSw; (try dsimp only at hSw); go_simp <;> with_reducible rfl
        try simp only [List.getElem_toArray, List.getElem_cons_succ, List.getElem_cons_zero, Act.put, List.setIfInBounds_toArray, List.set_cons_zero, List.set_cons_succ]
        refine wpAnyH_take (i := 2) (v := ?vc2) rfl (by kernel_rfl) (by kernel_rfl) (by kernel_rfl) (fun _ _ _ h => h) (Or.inl ⟨by rfl, ?yc2⟩) (by assumption) ?_
        case yc2 => intro w hSw; (try dsimp only at hSw); go_simp <;> with_reducible rfl
        try simp only [List.getElem_toArray, List.getElem_cons_succ, List.getElem_cons_zero, Act.put, List.setIfInBounds_toArray, List.set_cons_zero, List.set_cons_succ]
        refine wpAnyH_take (i := 3) (v := ?vc3) rfl (by kernel_rfl) (by kernel_rfl) (by kernel_rfl) (fun _ _ _ h => h) (Or.inl ⟨by rfl, ?yc3⟩) (by assumption) ?_
        case yc3 => intro w hSw; (try dsimp only at hSw); go_simp <;> with_reducible rfl
        try simp only [List.getElem_toArray, List.getElem_cons_succ, List.getElem_cons_zero, Act.put, List.setIfInBounds_toArray, List.set_cons_zero, List.set_cons_succ]
        refine wpAnyH_take (i := 4) (v := ?vc4) rfl (by kernel_rfl) (by kernel_rfl) (by kernel_rfl) (fun _ _ _ h => h) (Or.inl ⟨by rfl, ?yc4⟩) (by assumption) ?_
        case yc4 => intro w hSw; (try dsimp only at hSw); go_simp <;> with_reducible rfl
        try simp only [List.getElem_toArray, List.getElem_cons_succ, List.getElem_cons_zero, Act.put, List.setIfInBounds_toArray, List.set_cons_zero, List.set_cons_succ]
        refine wpAnyH_take (i := 5) (v := ?vc5) rfl (by kernel_rfl) (by kernel_rfl) (by kernel_rfl) (fun _ _ _ h => h) (Or.inl ⟨by rfl, ?yc5⟩) (by assumption) ?_
        case yc5 => intro w hSw; (try dsimp only at hSw); go_simp <;> with_reducible rfl
        try simp only [List.getElem_toArray, List.getElem_cons_succ, List.getElem_cons_zero, Act.put, List.setIfInBounds_toArray, List.set_cons_zero, List.set_cons_succ]
        refine wpAnyH_take (i := 6) (v := ?vc6) rfl (by kernel_rfl) (by kernel_rfl) (by kernel_rfl) (fun _ _ _ h => h) (Or.inl ⟨by rfl, ?yc6⟩) (by assumption) ?_
        case yc6 => intro w hSw; (try dsimp only at hSw); go_simp <;> with_reducible rfl
        try simp only [List.getElem_toArray, List.getElem_cons_succ, List.getElem_cons_zero, Act.put, List.setIfInBounds_toArray, List.set_cons_zero, List.set_cons_succ]
        refine wpAnyH_take (i := 7) (v := ?vc7) rfl (by kernel_rfl) (by kernel_rfl) (by kernel_rfl) (fun _ _ _ h => h) (Or.inl ⟨by rfl, ?yc7⟩) (by assumption) ?_
        case yc7 => intro w hSw; (try dsimp only at hSw); go_simp <;> with_reducible rfl
        try simp only [List.getElem_toArray, List.getElem_cons_succ, List.getElem_cons_zero, Act.put, List.setIfInBounds_toArray, List.set_cons_zero, List.set_cons_succ]
        refine wpAnyH_take (i := 8) (v := ?vc8) rfl (by kernel_rfl) (by kernel_rfl) (by kernel_rfl) (fun _ _ _ h => h) (Or.inl ⟨by rfl, ?yc8⟩) (by assumption) ?_
        case yc8 => intro w hSw; (try dsimp only at hSw); go_simp <;> with_reducible rfl
        try simp only [List.getElem_toArray, List.getElem_cons_succ, List.getElem_cons_zero, Act.put, List.setIfInBounds_toArray, List.set_cons_zero, List.set_cons_succ]
        refine wpAnyH_take (i := 9) (v := undef) rfl (by kernel_rfl) (by kernel_rfl) (by kernel_rfl) (fun _ _ _ h => h) (Or.inr ⟨by rfl, rfl⟩) (by assumption) ?_
        try simp only [List.getElem_toArray, List.getElem_cons_succ, List.getElem_cons_zero, Act.put, List.setIfInBounds_toArray, List.set_cons_zero, List.set_cons_succ]
        refine wpAnyH_take (i := 10) (v := undef) rfl (by kernel_rfl) (by kernel_rfl) (by kernel_rfl) (fun _ _ _ h => h) (Or.inr ⟨by rfl, rfl⟩) (by assumption) ?_
        try simp only [List.getElem_toArray, List.getElem_cons_succ, List.getElem_cons_zero, Act.put, List.setIfInBounds_toArray, List.set_cons_zero, List.set_cons_succ]
        refine wpAnyH_take (i := 11) (v := undef) rfl (by kernel_rfl) (by kernel_rfl) (by kernel_rfl) (fun _ _ _ h => h) (Or.inr ⟨by rfl, rfl⟩) (by assumption) ?_
        try simp only [List.getElem_toArray, List.getElem_cons_succ, List.getElem_cons_zero, Act.put, List.setIfInBounds_toArray, List.set_cons_zero, List.set_cons_succ]
        refine wpAnyH_take (i := 12) (v := undef) rfl (by kernel_rfl) (by kernel_rfl) (by kernel_rfl) (fun _ _ _ h => h) (Or.inr ⟨by rfl, rfl⟩) (by assumption) ?_
        try simp only [List.getElem_toArray, List.getElem_cons_succ, List.getElem_cons_zero, Act.put, List.setIfInBounds_toArray, List.set_cons_zero, List.set_cons_succ]
        refine wpAnyH_take (i := 13) (v := undef) rfl (by kernel_rfl) (by kernel_rfl) (by kernel_rfl) (fun _ _ _ h => h) (Or.inr ⟨by rfl, rfl⟩) (by assumption) ?_
        try simp only [List.getElem_toArray, List.getElem_cons_succ, List.getElem_cons_zero, Act.put, List.setIfInBounds_toArray, List.set_cons_zero, List.set_cons_succ]
        refine wpAnyH_take (i := 14) (v := undef) rfl (by kernel_rfl) (by kernel_rfl) (by kernel_rfl) (fun _ _ _ h => h) (Or.inr ⟨by rfl, rfl⟩) (by assumption) ?_
        try simp only [List.getElem_toArray, List.getElem_cons_succ, List.getElem_cons_zero, Act.put, List.setIfInBounds_toArray, List.set_cons_zero, List.set_cons_succ]
        refine wpAnyH_take (i := 15) (v := undef) rfl (by kernel_rfl) (by kernel_rfl) (by kernel_rfl) (fun _ _ _ h => h) (Or.inr ⟨by rfl, rfl⟩) (by assumption) ?_
        try simp only [List.getElem_toArray, List.getElem_cons_succ, List.getElem_cons_zero, Act.put, List.setIfInBounds_toArray, List.set_cons_zero, List.set_cons_succ]
        refine wpAnyH_take (i := 16) (v := undef) rfl (by kernel_rfl) (by kernel_rfl) (by kernel_rfl) (fun _ _ _ h => h) (Or.inr ⟨by rfl, rfl⟩) (by assumption) ?_
        try simp only [List.getElem_toArray, List.getElem_cons_succ, List.getElem_cons_zero, Act.put, List.setIfInBounds_toArray, List.set_cons_zero, List.set_cons_succ]
        refine wpAnyH_take (i := 17) (v := undef) rfl (by kernel_rfl) (by kernel_rfl) (by kernel_rfl) (fun _ _ _ h => h) (Or.inr ⟨by rfl, rfl⟩) (by assumption) ?_
        try simp only [List.getElem_toArray, List.getElem_cons_succ, List.getElem_cons_zero, Act.put, List.setIfInBounds_toArray, List.set_cons_zero, List.set_cons_succ]
        refine wpAnyH_take (i := 18) (v := undef) rfl (by kernel_rfl) (by kernel_rfl) (by kernel_rfl) (fun _ _ _ h => h) (Or.inr ⟨by rfl, rfl⟩) (by assumption) ?_
        try simp only [List.getElem_toArray, List.getElem_cons_succ, List.getElem_cons_zero, Act.put, List.setIfInBounds_toArray, List.set_cons_zero, List.set_cons_succ]
        refine wpAnyH_take (i := 19) (v := undef) rfl (by kernel_rfl) (by kernel_rfl) (by kernel_rfl) (fun _ _ _ h => h) (Or.inr ⟨by rfl, rfl⟩) (by assumption) ?_
        try simp only [List.getElem_toArray, List.getElem_cons_succ, List.getElem_cons_zero, Act.put, List.setIfInBounds_toArray, List.set_cons_zero, List.set_cons_succ]
        refine wpAnyH_take (i := 20) (v := ?vc20) rfl (by kernel_rfl) (by kernel_rfl) (by kernel_rfl) (fun _ _ _ h => h) (Or.inl ⟨by rfl, ?yc20⟩) (by assumption) ?_
        case yc20 => intro w hSw; (try dsimp only at hSw); go_simp <;> with_reducible rfl
        try simp only [List.getElem_toArray, List.getElem_cons_succ, List.getElem_cons_zero, Act.put, List.setIfInBounds_toArray, List.set_cons_zero, List.set_cons_succ]
        refine wpAnyH_take (i := 21) (v := ?vc21) rfl (by kernel_rfl) (by kernel_rfl) (by kernel_rfl) (fun _ _ _ h => h) (Or.inl ⟨by rfl, ?yc21⟩) (by assumption) ?_
        case yc21 => intro w hSw; (try dsimp only at hSw); go_simp <;> with_reducible rfl
        try simp only [List.getElem_toArray, List.getElem_cons_succ, List.getElem_cons_zero, Act.put, List.setIfInBounds_toArray, List.set_cons_zero, List.set_cons_succ]
        refine wpAnyH_take (i := 22) (v := undef) rfl (by kernel_rfl) (by kernel_rfl) (by kernel_rfl) (fun _ _ _ h => h) (Or.inr ⟨by rfl, rfl⟩) (by assumption) ?_
        try simp only [List.getElem_toArray, List.getElem_cons_succ, List.getElem_cons_zero, Act.put, List.setIfInBounds_toArray, List.set_cons_zero, List.set_cons_succ]
        refine wpAnyH_take (i := 23) (v := undef) rfl (by kernel_rfl) (by kernel_rfl) (by kernel_rfl) (fun _ _ _ h => h) (Or.inr ⟨by rfl, rfl⟩) (by assumption) ?_
        try simp only [List.getElem_toArray, List.getElem_cons_succ, List.getElem_cons_zero, Act.put, List.setIfInBounds_toArray, List.set_cons_zero, List.set_cons_succ]
        refine wpAnyH_take (i := 24) (v := undef) rfl (by kernel_rfl) (by kernel_rfl) (by kernel_rfl) (fun _ _ _ h => h) (Or.inr ⟨by rfl, rfl⟩) (by assumption) ?_
        try simp only [List.getElem_toArray, List.getElem_cons_succ, List.getElem_cons_zero, Act.put, List.setIfInBounds_toArray, List.set_cons_zero, List.set_cons_succ]
        refine wpAnyH_take (i := 25) (v := undef) rfl (by kernel_rfl) (by kernel_rfl) (by kernel_rfl) (fun _ _ _ h => h) (Or.inr ⟨by rfl, rfl⟩) (by assumption) ?_
        try simp only [List.getElem_toArray, List.getElem_cons_succ, List.getElem_cons_zero, Act.put, List.setIfInBounds_toArray, List.set_cons_zero, List.set_cons_succ]
        refine wpAnyH_take (i := 26) (v := undef) rfl (by kernel_rfl) (by kernel_rfl) (by kernel_rfl) (fun _ _ _ h => h) (Or.inr ⟨by rfl, rfl⟩) (by assumption) ?_
        try simp only [List.getElem_toArray, List.getElem_cons_succ, List.getElem_cons_zero, Act.put, List.setIfInBounds_toArray, List.set_cons_zero, List.set_cons_succ]
        refine wpAnyH_take (i := 27) (v := undef) rfl (by kernel_rfl) (by kernel_rfl) (by kernel_rfl) (fun _ _ _ h => h) (Or.inr ⟨by rfl, rfl⟩) (by assumption) ?_
        try simp only [List.getElem_toArray, List.getElem_cons_succ, List.getElem_cons_zero, Act.put, List.setIfInBounds_toArray, List.set_cons_zero, List.set_cons_succ]
        refine wpAnyH_take (i := 28) (v := undef) rfl (by kernel_rfl) (by kernel_rfl) (by kernel_rfl) (fun _ _ _ h => h) (Or.inr ⟨by rfl, rfl⟩) (by assumption) ?_
        try simp only [List.getElem_toArray, List.getElem_cons_succ, List.getElem_cons_zero, Act.put, List.setIfInBounds_toArray, List.set_cons_zero, List.set_cons_succ]
        refine wpAnyH_take (i := 29) (v := ?vc29) rfl (by kernel_rfl) (by kernel_rfl) (by kernel_rfl) (fun _ _ _ h => h) (Or.inl ⟨by rfl, ?yc29⟩) (by assumption) ?_
        case yc29 => intro w hSw; (try dsimp only at hSw); go_simp <;> with_reducible rfl
        try simp only [List.getElem_toArray, List.getElem_cons_succ, List.getElem_cons_zero, Act.put, List.setIfInBounds_toArray, List.set_cons_zero, List.set_cons_succ]
        refine wpAnyH_done (by kernel_rfl) ?_ _
        have ZF := Lib.hid (ZE.out _ hHeld.1)
        clear hHeld SK ZE
        go_wp2
        go_roundw
        case rel => exact ⟨i + 1, by omega, by go_num, ZF⟩
        case measure => simp [intOf]; omega
      have SK1 := SK.out
      rw [hk1] at f00 SK1
      have SK := Lib.hid SK1
      clear SK1
      cases sm
      · clear F3 HSM HAW hk1
        rw [HWM.out] at f00
        obtain ⟨-, g0, g1, g2, g3, g4, g5, g6, g7, g8, g9, g10, g11, g12, g13, g14, g15⟩ := f00
        go_wp2
        rw [← HWM.out]
        refine wp_region_held_drew (S := fun w' => Below wm.heap.size wm w' ∧ w'.cell? ⟨w7.heap.size, 0, none⟩ = some (.int .u32 (T : Int)) ∧ w'.cell? ⟨w7.heap.size, 1, none⟩ = some (.int .u8 (R : Int)) ∧ w'.cell? ⟨w.heap.size, 0, none⟩ = some (.int .u32 (T : Int)) ∧ w'.cell? ⟨w.heap.size, 1, none⟩ = some (.int .u8 (R : Int)) ∧ w'.cell? ⟨w8.heap.size, 0, none⟩ = some (.int .u8 ((1 : Nat) : Int)) ∧ w'.cell? ⟨w8.heap.size, 1, none⟩ = some (.int .u32 (zt : Int)) ∧ w'.cell? ⟨w8.heap.size, 2, none⟩ = some (.int .u8 (zr : Int)) ∧ w'.cell? ⟨w8.heap.size, 3, none⟩ = some (.slice fo nf fc) ∧ w'.cell? ⟨w8.heap.size, 4, none⟩ = some (.int .i64 zp) ∧ w'.cell? ⟨bb, oo + j * 5, none⟩ = some (.int .u8 (k : Int)) ∧ w'.cell? ⟨bb, oo + j * 5 + 1, none⟩ = some (.int .u32 (t : Int)) ∧ w'.cell? ⟨bb, oo + j * 5 + 2, none⟩ = some (.int .u8 (r : Int)) ∧ w'.cell? ⟨bb, oo + j * 5 + 3, none⟩ = some (.slice uo nu uc) ∧ w'.cell? ⟨bb, oo + j * 5 + 4, none⟩ = some (.int .i64 p) ∧ w'.cell? ⟨ci, co + i * 2, none⟩ = some (.int .u32 (at' : Int)) ∧ w'.cell? ⟨ci, co + i * 2 + 1, none⟩ = some (.int .u8 (ar : Int))) (by kernel_rfl) (SK.out _ (drew1 _)) (fun hHeld => ?_)
        refine wpAnyH_take (i := 0) (v := ?vd0) rfl (by kernel_rfl) (by kernel_rfl) (by kernel_rfl) (fun _ _ _ h => h) (Or.inl ⟨by rfl, ?yd0⟩) (by assumption) ?_
        case yd0 => intro w hSw; (try dsimp only at hSw); go_simp <;> with_reducible rfl
        try simp only [List.getElem_toArray, List.getElem_cons_zero, Act.put, List.setIfInBounds_toArray, List.set_cons_zero, List.set_cons_succ]
        refine wpAnyH_take (i := 1) (v := ?vd1) rfl (by kernel_rfl) (by kernel_rfl) (by kernel_rfl) (fun _ _ _ h => h) (Or.inl ⟨by rfl, ?yd1⟩) (by assumption) ?_
        case yd1 => intro w hSw; (try dsimp only at hSw); go_simp <;> with_reducible rfl
        try simp only [List.getElem_toArray, List.getElem_cons_succ, List.getElem_cons_zero, Act.put, List.setIfInBounds_toArray, List.set_cons_zero, List.set_cons_succ]
        refine wpAnyH_take (i := 2) (v := ?vd2) rfl (by kernel_rfl) (by kernel_rfl) (by kernel_rfl) (fun _ _ _ h => h) (Or.inl ⟨by rfl, ?yd2⟩) (by assumption) ?_
        case yd2 => intro w hSw; (try dsimp only at hSw); go_simp <;> with_reducible rfl
        try simp only [List.getElem_toArray, List.getElem_cons_succ, List.getElem_cons_zero, Act.put, List.setIfInBounds_toArray, List.set_cons_zero, List.set_cons_succ]
        refine wpAnyH_take (i := 3) (v := ?vd3) rfl (by kernel_rfl) (by kernel_rfl) (by kernel_rfl) (fun _ _ _ h => h) (Or.inl ⟨by rfl, ?yd3⟩) (by assumption) ?_
        case yd3 => intro w hSw; (try dsimp only at hSw); go_simp <;> with_reducible rfl
        try simp only [List.getElem_toArray, List.getElem_cons_succ, List.getElem_cons_zero, Act.put, List.setIfInBounds_toArray, List.set_cons_zero, List.set_cons_succ]
        refine wpAnyH_take (i := 4) (v := ?vd4) rfl (by kernel_rfl) (by kernel_rfl) (by kernel_rfl) (fun _ _ _ h => h) (Or.inl ⟨by rfl, ?yd4⟩) (by assumption) ?_
        case yd4 => intro w hSw; (try dsimp only at hSw); go_simp <;> with_reducible rfl
        try simp only [List.getElem_toArray, List.getElem_cons_succ, List.getElem_cons_zero, Act.put, List.setIfInBounds_toArray, List.set_cons_zero, List.set_cons_succ]
        refine wpAnyH_take (i := 5) (v := ?vd5) rfl (by kernel_rfl) (by kernel_rfl) (by kernel_rfl) (fun _ _ _ h => h) (Or.inl ⟨by rfl, ?yd5⟩) (by assumption) ?_
        case yd5 => intro w hSw; (try dsimp only at hSw); go_simp <;> with_reducible rfl
        try simp only [List.getElem_toArray, List.getElem_cons_succ, List.getElem_cons_zero, Act.put, List.setIfInBounds_toArray, List.set_cons_zero, List.set_cons_succ]
        refine wpAnyH_take (i := 6) (v := ?vd6) rfl (by kernel_rfl) (by kernel_rfl) (by kernel_rfl) (fun _ _ _ h => h) (Or.inl ⟨by rfl, ?yd6⟩) (by assumption) ?_
        case yd6 => intro w hSw; (try dsimp only at hSw); go_simp <;> with_reducible rfl
        try simp only [List.getElem_toArray, List.getElem_cons_succ, List.getElem_cons_zero, Act.put, List.setIfInBounds_toArray, List.set_cons_zero, List.set_cons_succ]
        refine wpAnyH_take (i := 7) (v := ?vd7) rfl (by kernel_rfl) (by kernel_rfl) (by kernel_rfl) (fun _ _ _ h => h) (Or.inl ⟨by rfl, ?yd7⟩) (by assumption) ?_
        case yd7 => intro w hSw; (try dsimp only at hSw); go_simp <;> with_reducible rfl
        try simp only [List.getElem_toArray, List.getElem_cons_succ, List.getElem_cons_zero, Act.put, List.setIfInBounds_toArray, List.set_cons_zero, List.set_cons_succ]
        refine wpAnyH_take (i := 8) (v := ?vd8) rfl (by kernel_rfl) (by kernel_rfl) (by kernel_rfl) (fun _ _ _ h => h) (Or.inl ⟨by rfl, ?yd8⟩) (by assumption) ?_
        case yd8 => intro w hSw; (try dsimp only at hSw); go_simp <;> with_reducible rfl
        try simp only [List.getElem_toArray, List.getElem_cons_succ, List.getElem_cons_zero, Act.put, List.setIfInBounds_toArray, List.set_cons_zero, List.set_cons_succ]
        refine wpAnyH_take (i := 9) (v := ?vd9) rfl (by kernel_rfl) (by kernel_rfl) (by kernel_rfl) (fun _ _ _ h => h) (Or.inl ⟨by rfl, ?yd9⟩) (by assumption) ?_
        case yd9 => intro w hSw; (try dsimp only at hSw); go_simp <;> with_reducible rfl
        try simp only [List.getElem_toArray, List.getElem_cons_succ, List.getElem_cons_zero, Act.put, List.setIfInBounds_toArray, List.set_cons_zero, List.set_cons_succ]
        refine wpAnyH_take (i := 10) (v := ?vd10) rfl (by kernel_rfl) (by kernel_rfl) (by kernel_rfl) (fun _ _ _ h => h) (Or.inl ⟨by rfl, ?yd10⟩) (by assumption) ?_
        case yd10 => intro w hSw; (try dsimp only at hSw); go_simp <;> with_reducible rfl
        try simp only [List.getElem_toArray, List.getElem_cons_succ, List.getElem_cons_zero, Act.put, List.setIfInBounds_toArray, List.set_cons_zero, List.set_cons_succ]
        refine wpAnyH_take (i := 11) (v := ?vd11) rfl (by kernel_rfl) (by kernel_rfl) (by kernel_rfl) (fun _ _ _ h => h) (Or.inl ⟨by rfl, ?yd11⟩) (by assumption) ?_
        case yd11 => intro w hSw; (try dsimp only at hSw); go_simp <;> with_reducible rfl
        try simp only [List.getElem_toArray, List.getElem_cons_succ, List.getElem_cons_zero, Act.put, List.setIfInBounds_toArray, List.set_cons_zero, List.set_cons_succ]
        refine wpAnyH_take (i := 12) (v := ?vd12) rfl (by kernel_rfl) (by kernel_rfl) (by kernel_rfl) (fun _ _ _ h => h) (Or.inl ⟨by rfl, ?yd12⟩) (by assumption) ?_
        case yd12 => intro w hSw; (try dsimp only at hSw); go_simp <;> with_reducible rfl
        try simp only [List.getElem_toArray, List.getElem_cons_succ, List.getElem_cons_zero, Act.put, List.setIfInBounds_toArray, List.set_cons_zero, List.set_cons_succ]
        refine wpAnyH_take (i := 13) (v := ?vd13) rfl (by kernel_rfl) (by kernel_rfl) (by kernel_rfl) (fun _ _ _ h => h) (Or.inl ⟨by rfl, ?yd13⟩) (by assumption) ?_
        case yd13 => intro w hSw; (try dsimp only at hSw); go_simp <;> with_reducible rfl
        try simp only [List.getElem_toArray, List.getElem_cons_succ, List.getElem_cons_zero, Act.put, List.setIfInBounds_toArray, List.set_cons_zero, List.set_cons_succ]
        refine wpAnyH_take (i := 14) (v := ?vd14) rfl (by kernel_rfl) (by kernel_rfl) (by kernel_rfl) (fun _ _ _ h => h) (Or.inl ⟨by rfl, ?yd14⟩) (by assumption) ?_
        case yd14 => intro w hSw; (try dsimp only at hSw); go_simp <;> with_reducible rfl
        try simp only [List.getElem_toArray, List.getElem_cons_succ, List.getElem_cons_zero, Act.put, List.setIfInBounds_toArray, List.set_cons_zero, List.set_cons_succ]
        refine wpAnyH_take (i := 15) (v := ?vd15) rfl (by kernel_rfl) (by kernel_rfl) (by kernel_rfl) (fun _ _ _ h => h) (Or.inl ⟨by rfl, ?yd15⟩) (by assumption) ?_
        case yd15 => intro w hSw; (try dsimp only at hSw); go_simp <;> with_reducible rfl
        try simp only [List.getElem_toArray, List.getElem_cons_succ, List.getElem_cons_zero, Act.put, List.setIfInBounds_toArray, List.set_cons_zero, List.set_cons_succ]
        refine wpAnyH_take (i := 16) (v := ?vd16) rfl (by kernel_rfl) (by kernel_rfl) (by kernel_rfl) (fun _ _ _ h => h) (Or.inl ⟨by rfl, ?yd16⟩) (by assumption) ?_
        case yd16 => intro w hSw; (try dsimp only at hSw); go_simp <;> with_reducible rfl
        try simp only [List.getElem_toArray, List.getElem_cons_succ, List.getElem_cons_zero, Act.put, List.setIfInBounds_toArray, List.set_cons_zero, List.set_cons_succ]
        refine wpAnyH_take (i := 17) (v := ?vd17) rfl (by kernel_rfl) (by kernel_rfl) (by kernel_rfl) (fun _ _ _ h => h) (Or.inl ⟨by rfl, ?yd17⟩) (by assumption) ?_
        case yd17 => intro w hSw; (try dsimp only at hSw); go_simp <;> with_reducible rfl
        try simp only [List.getElem_toArray, List.getElem_cons_succ, List.getElem_cons_zero, Act.put, List.setIfInBounds_toArray, List.set_cons_zero, List.set_cons_succ]
        refine wpAnyH_ready (rs := [18]) (by kernel_rfl) (by simp) ?_
        refine AllReadyH.cons rfl (fun K hK => ?_) ?zd18
        case zd18 => exact AllReadyH.nil
        go_simp
        refine (CUZ.out _ hHeld.1).mono ?_
        rintro e w9d18 ⟨vq, rfl, rq, b9⟩
        have RQ := Lib.hid rq
        obtain ⟨qa, qc, rfl⟩ := rq.shape
        clear rq
        refine hK.out _ _ (SK.out _ (bt hHeld.1 b9)) (fun hNew => ?_)
        clear hHeld
        have hHeld := hNew
        clear hNew hK K
        try simp only [List.getElem_toArray, List.getElem_cons_succ, List.getElem_cons_zero, Act.put, List.setIfInBounds_toArray, List.set_cons_zero, List.set_cons_succ]
        refine wpAnyH_ready (rs := [19]) (by kernel_rfl) (by simp) ?_
        refine AllReadyH.cons rfl (fun K hK => ?_) ?zd19
        case zd19 => exact AllReadyH.nil
        go_simp
        refine (SMZ.out _ _ hHeld.1 RQ.out).mono ?_
        rintro e w9d19 ⟨rfl, b9⟩
        refine hK.out _ _ (SK.out _ (bt hHeld.1 b9)) (fun hNew => ?_)
        clear hHeld
        have hHeld := hNew
        clear hNew hK K
        try simp only [List.getElem_toArray, List.getElem_cons_succ, List.getElem_cons_zero, Act.put, List.setIfInBounds_toArray, List.set_cons_zero, List.set_cons_succ]
        refine wpAnyH_take (i := 20) (v := ?vd20) rfl (by kernel_rfl) (by kernel_rfl) (by kernel_rfl) (fun _ _ _ h => h) (Or.inl ⟨by rfl, ?yd20⟩) (by assumption) ?_
        case yd20 => intro w hSw; (try dsimp only at hSw); go_simp <;> with_reducible rfl
        try simp only [List.getElem_toArray, List.getElem_cons_succ, List.getElem_cons_zero, Act.put, List.setIfInBounds_toArray, List.set_cons_zero, List.set_cons_succ]
        refine wpAnyH_take (i := 21) (v := ?vd21) rfl (by kernel_rfl) (by kernel_rfl) (by kernel_rfl) (fun _ _ _ h => h) (Or.inl ⟨by rfl, ?yd21⟩) (by assumption) ?_
        case yd21 => intro w hSw; (try dsimp only at hSw); go_simp <;> with_reducible rfl
        try simp only [List.getElem_toArray, List.getElem_cons_succ, List.getElem_cons_zero, Act.put, List.setIfInBounds_toArray, List.set_cons_zero, List.set_cons_succ]
        refine wpAnyH_take (i := 22) (v := undef) rfl (by kernel_rfl) (by kernel_rfl) (by kernel_rfl) (fun _ _ _ h => h) (Or.inr ⟨by rfl, rfl⟩) (by assumption) ?_
        try simp only [List.getElem_toArray, List.getElem_cons_succ, List.getElem_cons_zero, Act.put, List.setIfInBounds_toArray, List.set_cons_zero, List.set_cons_succ]
        refine wpAnyH_take (i := 23) (v := undef) rfl (by kernel_rfl) (by kernel_rfl) (by kernel_rfl) (fun _ _ _ h => h) (Or.inr ⟨by rfl, rfl⟩) (by assumption) ?_
        try simp only [List.getElem_toArray, List.getElem_cons_succ, List.getElem_cons_zero, Act.put, List.setIfInBounds_toArray, List.set_cons_zero, List.set_cons_succ]
        refine wpAnyH_take (i := 24) (v := undef) rfl (by kernel_rfl) (by kernel_rfl) (by kernel_rfl) (fun _ _ _ h => h) (Or.inr ⟨by rfl, rfl⟩) (by assumption) ?_
        try simp only [List.getElem_toArray, List.getElem_cons_succ, List.getElem_cons_zero, Act.put, List.setIfInBounds_toArray, List.set_cons_zero, List.set_cons_succ]
        refine wpAnyH_take (i := 25) (v := undef) rfl (by kernel_rfl) (by kernel_rfl) (by kernel_rfl) (fun _ _ _ h => h) (Or.inr ⟨by rfl, rfl⟩) (by assumption) ?_
        try simp only [List.getElem_toArray, List.getElem_cons_succ, List.getElem_cons_zero, Act.put, List.setIfInBounds_toArray, List.set_cons_zero, List.set_cons_succ]
        refine wpAnyH_take (i := 26) (v := undef) rfl (by kernel_rfl) (by kernel_rfl) (by kernel_rfl) (fun _ _ _ h => h) (Or.inr ⟨by rfl, rfl⟩) (by assumption) ?_
        try simp only [List.getElem_toArray, List.getElem_cons_succ, List.getElem_cons_zero, Act.put, List.setIfInBounds_toArray, List.set_cons_zero, List.set_cons_succ]
        refine wpAnyH_take (i := 27) (v := undef) rfl (by kernel_rfl) (by kernel_rfl) (by kernel_rfl) (fun _ _ _ h => h) (Or.inr ⟨by rfl, rfl⟩) (by assumption) ?_
        try simp only [List.getElem_toArray, List.getElem_cons_succ, List.getElem_cons_zero, Act.put, List.setIfInBounds_toArray, List.set_cons_zero, List.set_cons_succ]
        refine wpAnyH_take (i := 28) (v := undef) rfl (by kernel_rfl) (by kernel_rfl) (by kernel_rfl) (fun _ _ _ h => h) (Or.inr ⟨by rfl, rfl⟩) (by assumption) ?_
        try simp only [List.getElem_toArray, List.getElem_cons_succ, List.getElem_cons_zero, Act.put, List.setIfInBounds_toArray, List.set_cons_zero, List.set_cons_succ]
        refine wpAnyH_take (i := 29) (v := ?vd29) rfl (by kernel_rfl) (by kernel_rfl) (by kernel_rfl) (fun _ _ _ h => h) (Or.inl ⟨by rfl, ?yd29⟩) (by assumption) ?_
        case yd29 => intro w hSw; (try dsimp only at hSw); go_simp <;> with_reducible rfl
        try simp only [List.getElem_toArray, List.getElem_cons_succ, List.getElem_cons_zero, Act.put, List.setIfInBounds_toArray, List.set_cons_zero, List.set_cons_succ]
        refine wpAnyH_done (by kernel_rfl) ?_ _
        have ZF := Lib.hid (ZE.out _ hHeld.1)
        clear hHeld SK ZE
        go_wp2
        go_roundw
        case rel => exact ⟨i + 1, by omega, by go_num, ZF⟩
        case measure => simp [intOf]; omega
      obtain rfl := F3.out hk1 (of_decide_eq_true HSM.out)
      clear F3 HSM hk1
      rw [HWM.out] at f00
      obtain ⟨-, g0, g1, g2, g3, g4, g5, g6, g7, g8, g9, g10, g11, g12, g13, g14, g15⟩ := f00
      go_wp2
      rw [← HWM.out]
      refine wp_region_held_drew (S := fun w' => Below wm.heap.size wm w' ∧ w'.cell? ⟨w7.heap.size, 0, none⟩ = some (.int .u32 (T : Int)) ∧ w'.cell? ⟨w7.heap.size, 1, none⟩ = some (.int .u8 (R : Int)) ∧ w'.cell? ⟨w.heap.size, 0, none⟩ = some (.int .u32 (T : Int)) ∧ w'.cell? ⟨w.heap.size, 1, none⟩ = some (.int .u8 (R : Int)) ∧ w'.cell? ⟨w8.heap.size, 0, none⟩ = some (.int .u8 ((1 : Nat) : Int)) ∧ w'.cell? ⟨w8.heap.size, 1, none⟩ = some (.int .u32 (zt : Int)) ∧ w'.cell? ⟨w8.heap.size, 2, none⟩ = some (.int .u8 (zr : Int)) ∧ w'.cell? ⟨w8.heap.size, 3, none⟩ = some (.slice fo nf fc) ∧ w'.cell? ⟨w8.heap.size, 4, none⟩ = some (.int .i64 zp) ∧ w'.cell? ⟨bb, oo + j * 5, none⟩ = some (.int .u8 (k : Int)) ∧ w'.cell? ⟨bb, oo + j * 5 + 1, none⟩ = some (.int .u32 (t : Int)) ∧ w'.cell? ⟨bb, oo + j * 5 + 2, none⟩ = some (.int .u8 (r : Int)) ∧ w'.cell? ⟨bb, oo + j * 5 + 3, none⟩ = some (.slice uo nu uc) ∧ w'.cell? ⟨bb, oo + j * 5 + 4, none⟩ = some (.int .i64 p) ∧ w'.cell? ⟨ci, co + i * 2, none⟩ = some (.int .u32 (at' : Int)) ∧ w'.cell? ⟨ci, co + i * 2 + 1, none⟩ = some (.int .u8 (ar : Int))) (by kernel_rfl) (SK.out _ (drew1 _)) (fun hHeld => ?_)
      refine wpAnyH_take (i := 0) (v := ?ve0) rfl (by kernel_rfl) (by kernel_rfl) (by kernel_rfl) (fun _ _ _ h => h) (Or.inl ⟨by rfl, ?ye0⟩) (by assumption) ?_
      case ye0 => intro w hSw; (try dsimp only at hSw); go_simp <;> with_reducible rfl
      try simp only [List.getElem_toArray, List.getElem_cons_zero, Act.put, List.setIfInBounds_toArray, List.set_cons_zero, List.set_cons_succ]
      refine wpAnyH_take (i := 1) (v := ?ve1) rfl (by kernel_rfl) (by kernel_rfl) (by kernel_rfl) (fun _ _ _ h => h) (Or.inl ⟨by rfl, ?ye1⟩) (by assumption) ?_
      case ye1 => intro w hSw; (try dsimp only at hSw); go_simp <;> with_reducible rfl
      try simp only [List.getElem_toArray, List.getElem_cons_succ, List.getElem_cons_zero, Act.put, List.setIfInBounds_toArray, List.set_cons_zero, List.set_cons_succ]
      refine wpAnyH_take (i := 2) (v := ?ve2) rfl (by kernel_rfl) (by kernel_rfl) (by kernel_rfl) (fun _ _ _ h => h) (Or.inl ⟨by rfl, ?ye2⟩) (by assumption) ?_
      case ye2 => intro w hSw; (try dsimp only at hSw); go_simp <;> with_reducible rfl
      try simp only [List.getElem_toArray, List.getElem_cons_succ, List.getElem_cons_zero, Act.put, List.setIfInBounds_toArray, List.set_cons_zero, List.set_cons_succ]
      refine wpAnyH_take (i := 3) (v := ?ve3) rfl (by kernel_rfl) (by kernel_rfl) (by kernel_rfl) (fun _ _ _ h => h) (Or.inl ⟨by rfl, ?ye3⟩) (by assumption) ?_
      case ye3 => intro w hSw; (try dsimp only at hSw); go_simp <;> with_reducible rfl
      try simp only [List.getElem_toArray, List.getElem_cons_succ, List.getElem_cons_zero, Act.put, List.setIfInBounds_toArray, List.set_cons_zero, List.set_cons_succ]
      refine wpAnyH_take (i := 4) (v := ?ve4) rfl (by kernel_rfl) (by kernel_rfl) (by kernel_rfl) (fun _ _ _ h => h) (Or.inl ⟨by rfl, ?ye4⟩) (by assumption) ?_
      case ye4 => intro w hSw; (try dsimp only at hSw); go_simp <;> with_reducible rfl
      try simp only [List.getElem_toArray, List.getElem_cons_succ, List.getElem_cons_zero, Act.put, List.setIfInBounds_toArray, List.set_cons_zero, List.set_cons_succ]
      refine wpAnyH_take (i := 5) (v := ?ve5) rfl (by kernel_rfl) (by kernel_rfl) (by kernel_rfl) (fun _ _ _ h => h) (Or.inl ⟨by rfl, ?ye5⟩) (by assumption) ?_
      case ye5 => intro w hSw; (try dsimp only at hSw); go_simp <;> with_reducible rfl
      try simp only [List.getElem_toArray, List.getElem_cons_succ, List.getElem_cons_zero, Act.put, List.setIfInBounds_toArray, List.set_cons_zero, List.set_cons_succ]
      refine wpAnyH_take (i := 6) (v := ?ve6) rfl (by kernel_rfl) (by kernel_rfl) (by kernel_rfl) (fun _ _ _ h => h) (Or.inl ⟨by rfl, ?ye6⟩) (by assumption) ?_
      case ye6 => intro w hSw; (try dsimp only at hSw); go_simp <;> with_reducible rfl
      try simp only [List.getElem_toArray, List.getElem_cons_succ, List.getElem_cons_zero, Act.put, List.setIfInBounds_toArray, List.set_cons_zero, List.set_cons_succ]
      refine wpAnyH_take (i := 7) (v := ?ve7) rfl (by kernel_rfl) (by kernel_rfl) (by kernel_rfl) (fun _ _ _ h => h) (Or.inl ⟨by rfl, ?ye7⟩) (by assumption) ?_
      case ye7 => intro w hSw; (try dsimp only at hSw); go_simp <;> with_reducible rfl
      try simp only [List.getElem_toArray, List.getElem_cons_succ, List.getElem_cons_zero, Act.put, List.setIfInBounds_toArray, List.set_cons_zero, List.set_cons_succ]
      refine wpAnyH_take (i := 8) (v := ?ve8) rfl (by kernel_rfl) (by kernel_rfl) (by kernel_rfl) (fun _ _ _ h => h) (Or.inl ⟨by rfl, ?ye8⟩) (by assumption) ?_
      case ye8 => intro w hSw; (try dsimp only at hSw); go_simp <;> with_reducible rfl
      try simp only [List.getElem_toArray, List.getElem_cons_succ, List.getElem_cons_zero, Act.put, List.setIfInBounds_toArray, List.set_cons_zero, List.set_cons_succ]
      refine wpAnyH_take (i := 9) (v := ?ve9) rfl (by kernel_rfl) (by kernel_rfl) (by kernel_rfl) (fun _ _ _ h => h) (Or.inl ⟨by rfl, ?ye9⟩) (by assumption) ?_
      case ye9 => intro w hSw; (try dsimp only at hSw); go_simp <;> with_reducible rfl
      try simp only [List.getElem_toArray, List.getElem_cons_succ, List.getElem_cons_zero, Act.put, List.setIfInBounds_toArray, List.set_cons_zero, List.set_cons_succ]
      refine wpAnyH_take (i := 10) (v := ?ve10) rfl (by kernel_rfl) (by kernel_rfl) (by kernel_rfl) (fun _ _ _ h => h) (Or.inl ⟨by rfl, ?ye10⟩) (by assumption) ?_
      case ye10 => intro w hSw; (try dsimp only at hSw); go_simp <;> with_reducible rfl
      try simp only [List.getElem_toArray, List.getElem_cons_succ, List.getElem_cons_zero, Act.put, List.setIfInBounds_toArray, List.set_cons_zero, List.set_cons_succ]
      refine wpAnyH_take (i := 11) (v := ?ve11) rfl (by kernel_rfl) (by kernel_rfl) (by kernel_rfl) (fun _ _ _ h => h) (Or.inl ⟨by rfl, ?ye11⟩) (by assumption) ?_
      case ye11 => intro w hSw; (try dsimp only at hSw); go_simp <;> with_reducible rfl
      try simp only [List.getElem_toArray, List.getElem_cons_succ, List.getElem_cons_zero, Act.put, List.setIfInBounds_toArray, List.set_cons_zero, List.set_cons_succ]
      refine wpAnyH_take (i := 12) (v := ?ve12) rfl (by kernel_rfl) (by kernel_rfl) (by kernel_rfl) (fun _ _ _ h => h) (Or.inl ⟨by rfl, ?ye12⟩) (by assumption) ?_
      case ye12 => intro w hSw; (try dsimp only at hSw); go_simp <;> with_reducible rfl
      try simp only [List.getElem_toArray, List.getElem_cons_succ, List.getElem_cons_zero, Act.put, List.setIfInBounds_toArray, List.set_cons_zero, List.set_cons_succ]
      refine wpAnyH_take (i := 13) (v := ?ve13) rfl (by kernel_rfl) (by kernel_rfl) (by kernel_rfl) (fun _ _ _ h => h) (Or.inl ⟨by rfl, ?ye13⟩) (by assumption) ?_
      case ye13 => intro w hSw; (try dsimp only at hSw); go_simp <;> with_reducible rfl
      try simp only [List.getElem_toArray, List.getElem_cons_succ, List.getElem_cons_zero, Act.put, List.setIfInBounds_toArray, List.set_cons_zero, List.set_cons_succ]
      refine wpAnyH_take (i := 14) (v := ?ve14) rfl (by kernel_rfl) (by kernel_rfl) (by kernel_rfl) (fun _ _ _ h => h) (Or.inl ⟨by rfl, ?ye14⟩) (by assumption) ?_
      case ye14 => intro w hSw; (try dsimp only at hSw); go_simp <;> with_reducible rfl
      try simp only [List.getElem_toArray, List.getElem_cons_succ, List.getElem_cons_zero, Act.put, List.setIfInBounds_toArray, List.set_cons_zero, List.set_cons_succ]
      refine wpAnyH_take (i := 15) (v := ?ve15) rfl (by kernel_rfl) (by kernel_rfl) (by kernel_rfl) (fun _ _ _ h => h) (Or.inl ⟨by rfl, ?ye15⟩) (by assumption) ?_
      case ye15 => intro w hSw; (try dsimp only at hSw); go_simp <;> with_reducible rfl
      try simp only [List.getElem_toArray, List.getElem_cons_succ, List.getElem_cons_zero, Act.put, List.setIfInBounds_toArray, List.set_cons_zero, List.set_cons_succ]
      refine wpAnyH_take (i := 16) (v := ?ve16) rfl (by kernel_rfl) (by kernel_rfl) (by kernel_rfl) (fun _ _ _ h => h) (Or.inl ⟨by rfl, ?ye16⟩) (by assumption) ?_
      case ye16 => intro w hSw; (try dsimp only at hSw); go_simp <;> with_reducible rfl
      try simp only [List.getElem_toArray, List.getElem_cons_succ, List.getElem_cons_zero, Act.put, List.setIfInBounds_toArray, List.set_cons_zero, List.set_cons_succ]
      refine wpAnyH_take (i := 17) (v := ?ve17) rfl (by kernel_rfl) (by kernel_rfl) (by kernel_rfl) (fun _ _ _ h => h) (Or.inl ⟨by rfl, ?ye17⟩) (by assumption) ?_
      case ye17 => intro w hSw; (try dsimp only at hSw); go_simp <;> with_reducible rfl
      try simp only [List.getElem_toArray, List.getElem_cons_succ, List.getElem_cons_zero, Act.put, List.setIfInBounds_toArray, List.set_cons_zero, List.set_cons_succ]
      refine wpAnyH_ready (rs := [18]) (by kernel_rfl) (by simp) ?_
      refine AllReadyH.cons rfl (fun K hK => ?_) ?ze18
      case ze18 => exact AllReadyH.nil
      go_simp
      refine (CUZ.out _ hHeld.1).mono ?_
      rintro e w9e18 ⟨vq, rfl, rq, b9⟩
      have RQ := Lib.hid rq
      obtain ⟨qa, qc, rfl⟩ := rq.shape
      clear rq
      refine hK.out _ _ (SK.out _ (bt hHeld.1 b9)) (fun hNew => ?_)
      clear hHeld
      have hHeld := hNew
      clear hNew hK K
      try simp only [List.getElem_toArray, List.getElem_cons_succ, List.getElem_cons_zero, Act.put, List.setIfInBounds_toArray, List.set_cons_zero, List.set_cons_succ]
      refine wpAnyH_ready (rs := [19]) (by kernel_rfl) (by simp) ?_
      refine AllReadyH.cons rfl (fun K hK => ?_) ?ze19
      case ze19 => exact AllReadyH.nil
      go_simp
      refine (SMZ.out _ _ hHeld.1 RQ.out).mono ?_
      rintro e w9e19 ⟨rfl, b9⟩
      refine hK.out _ _ (SK.out _ (bt hHeld.1 b9)) (fun hNew => ?_)
      clear hHeld
      have hHeld := hNew
      clear hNew hK K
      try simp only [List.getElem_toArray, List.getElem_cons_succ, List.getElem_cons_zero, Act.put, List.setIfInBounds_toArray, List.set_cons_zero, List.set_cons_succ]
      refine wpAnyH_take (i := 20) (v := ?ve20) rfl (by kernel_rfl) (by kernel_rfl) (by kernel_rfl) (fun _ _ _ h => h) (Or.inl ⟨by rfl, ?ye20⟩) (by assumption) ?_
      case ye20 => intro w hSw; (try dsimp only at hSw); go_simp <;> with_reducible rfl
      try simp only [List.getElem_toArray, List.getElem_cons_succ, List.getElem_cons_zero, Act.put, List.setIfInBounds_toArray, List.set_cons_zero, List.set_cons_succ]
      refine wpAnyH_take (i := 21) (v := ?ve21) rfl (by kernel_rfl) (by kernel_rfl) (by kernel_rfl) (fun _ _ _ h => h) (Or.inl ⟨by rfl, ?ye21⟩) (by assumption) ?_
      case ye21 => intro w hSw; (try dsimp only at hSw); go_simp <;> with_reducible rfl
      try simp only [List.getElem_toArray, List.getElem_cons_succ, List.getElem_cons_zero, Act.put, List.setIfInBounds_toArray, List.set_cons_zero, List.set_cons_succ]
      refine wpAnyH_take (i := 22) (v := ?ve22) rfl (by kernel_rfl) (by kernel_rfl) (by kernel_rfl) (fun _ _ _ h => h) (Or.inl ⟨by rfl, ?ye22⟩) (by assumption) ?_
      case ye22 => intro w hSw; (try dsimp only at hSw); go_simp <;> with_reducible rfl
      try simp only [List.getElem_toArray, List.getElem_cons_succ, List.getElem_cons_zero, Act.put, List.setIfInBounds_toArray, List.set_cons_zero, List.set_cons_succ]
      refine wpAnyH_take (i := 23) (v := ?ve23) rfl (by kernel_rfl) (by kernel_rfl) (by kernel_rfl) (fun _ _ _ h => h) (Or.inl ⟨by rfl, ?ye23⟩) (by assumption) ?_
      case ye23 => intro w hSw; (try dsimp only at hSw); go_simp <;> with_reducible rfl
      try simp only [List.getElem_toArray, List.getElem_cons_succ, List.getElem_cons_zero, Act.put, List.setIfInBounds_toArray, List.set_cons_zero, List.set_cons_succ]
      refine wpAnyH_take (i := 24) (v := ?ve24) rfl (by kernel_rfl) (by kernel_rfl) (by kernel_rfl) (fun _ _ _ h => h) (Or.inl ⟨by rfl, ?ye24⟩) (by assumption) ?_
      case ye24 => intro w hSw; (try dsimp only at hSw); go_simp <;> with_reducible rfl
      try simp only [List.getElem_toArray, List.getElem_cons_succ, List.getElem_cons_zero, Act.put, List.setIfInBounds_toArray, List.set_cons_zero, List.set_cons_succ]
      refine wpAnyH_take (i := 25) (v := ?ve25) rfl (by kernel_rfl) (by kernel_rfl) (by kernel_rfl) (fun _ _ _ h => h) (Or.inl ⟨by rfl, ?ye25⟩) (by assumption) ?_
      case ye25 => intro w hSw; (try dsimp only at hSw); go_simp <;> with_reducible rfl
      try simp only [List.getElem_toArray, List.getElem_cons_succ, List.getElem_cons_zero, Act.put, List.setIfInBounds_toArray, List.set_cons_zero, List.set_cons_succ]
      refine wpAnyH_take (i := 26) (v := ?ve26) rfl (by kernel_rfl) (by kernel_rfl) (by kernel_rfl) (fun _ _ _ h => h) (Or.inl ⟨by rfl, ?ye26⟩) (by assumption) ?_
      case ye26 => intro w hSw; (try dsimp only at hSw); go_simp <;> with_reducible rfl
      try simp only [List.getElem_toArray, List.getElem_cons_succ, List.getElem_cons_zero, Act.put, List.setIfInBounds_toArray, List.set_cons_zero, List.set_cons_succ]
      refine wpAnyH_ready (rs := [27]) (by kernel_rfl) (by simp) ?_
      refine AllReadyH.cons rfl (fun K hK => ?_) ?ze27
      case ze27 => exact AllReadyH.nil
      go_simp
      refine (HAW.out _ hHeld.1).mono ?_
      rintro e w9e27 ⟨rfl, b9⟩
      refine hK.out _ _ (SK.out _ (bt hHeld.1 b9)) (fun hNew => ?_)
      clear hHeld
      have hHeld := hNew
      clear hNew hK K
      try simp only [List.getElem_toArray, List.getElem_cons_succ, List.getElem_cons_zero, Act.put, List.setIfInBounds_toArray, List.set_cons_zero, List.set_cons_succ]
      refine wpAnyH_take (i := 28) (v := ?ve28) rfl (by kernel_rfl) (by kernel_rfl) (by kernel_rfl) (fun _ _ _ h => h) (Or.inl ⟨by rfl, ?ye28⟩) (by assumption) ?_
      case ye28 => intro w hSw; (try dsimp only at hSw); go_simp <;> with_reducible rfl
      try simp only [List.getElem_toArray, List.getElem_cons_succ, List.getElem_cons_zero, Act.put, List.setIfInBounds_toArray, List.set_cons_zero, List.set_cons_succ]
      refine wpAnyH_take (i := 29) (v := ?ve29) rfl (by kernel_rfl) (by kernel_rfl) (by kernel_rfl) (fun _ _ _ h => h) (Or.inl ⟨by rfl, ?ye29⟩) (by assumption) ?_
      case ye29 => intro w hSw; (try dsimp only at hSw); go_simp <;> with_reducible rfl
      try simp only [List.getElem_toArray, List.getElem_cons_succ, List.getElem_cons_zero, Act.put, List.setIfInBounds_toArray, List.set_cons_zero, List.set_cons_succ]
      refine wpAnyH_done (by kernel_rfl) ?_ _
      have ZF := Lib.hid (ZE.out _ hHeld.1)
      clear hHeld SK ZE
      go_wp2
      go_roundw
      case rel => exact ⟨i + 1, by omega, by go_num, ZF⟩
      case measure => simp [intOf]; omega
end Go.Proofs.YtdackenaknieaaaGreat.Covers
