/- CoverGrows answers true, and changes nothing that was there. Conditions: none. -/
import Derived.Test.YtdackenaknieaaaGreatPk22
import Derived.Test.YtdackenaknieaaaGreatPk08
import Derived.Test.YtdackenaknieaaaGreatPk14
import Derived.Test.YtdackenaknieaaaGreatPk07

namespace Go.Proofs.YtdackenaknieaaaGreat.Covers
open Go.RowKit Go.WideShapes Stamp Go.Proofs.YtdackenaknieaaaGreat.Place Ops Codes Bags Marks Homes
attribute [local go_sem ↓] Go.wp_at_zero Go.wp_at_succ
attribute [local go_sem] yielded_undef

/-- What the law asks of one that counted, behind one operation more. -/
theorem grow_facts {l : List Opn} {o : Opn} {s : Id} (h1 : spanE l s = 0) (h2 : addE l o = 0) (h4 : o.k ≠ 4) {c : Opn} (hc : c ∈ countsL l s) :
    homeE (addL l o) c.pl = 0 ∧ spanE (addL l o) (homeL (addL l o) c.pl) = 0 ∧ Clocks.hasC (versionL (addL l o) (homeL (addL l o) c.pl)) (idO c) = true ∧ (o.k ≠ 2 → homeL (addL l o) c.pl = s) := by
  have hb := (spanE_zero.1 h1).1
  obtain ⟨e, hw⟩ := addL_bag h2
  have ho : mayO o = true := by
    rcases addE_cases l o with ⟨h, _⟩ | ⟨h, _⟩ | ⟨_, _, h, _⟩
    · rw [h] at h2; cases h2
    · rw [h] at h2; cases h2
    · exact h
  unfold countsL at hc
  rw [if_pos h1] at hc
  have hm := mem_countL.1 hc
  have hp := anyB_may (mayO_parts (hb.2.1 c hm.1.1)).2.1
  rw [e] at hw ⊢
  have eL : homeL (withO l o) c.pl = homeM (livesM (withO l o) (withO l o)) c.pl := by unfold homeL; rw [(bagB_iff _).2 hw, hp]; rfl
  have h0 := home_where hw c.pl
  refine ⟨by unfold homeE; rw [(bagB_iff _).2 hw, hp]; rfl, by rw [eL]; exact h0, ?_, fun h => ?_⟩
  · rw [eL]
    unfold versionL
    rw [if_pos h0]
    have hmy := count_may hw (livesM (withO l o) (withO l o)) (homeM (livesM (withO l o) (withO l o)) c.pl)
    rw [among_has hmy.1 hmy.2.1]
    exact decide_eq_true (List.mem_map_of_mem (count_grows hb ho hw h4 hc))
  · rw [eL, grow_same hb ho hw h4 h hp]
    exact hm.1.2.2

set_option maxRecDepth 100000 in
set_option maxHeartbeats 40000000 in
theorem grows_walk {l : List Opn} {o : Opn} {ao0 ao1 : Option Addr} {cap0 cap1 : Nat} (s : Id) {w : World} (hr0 : OpL w (.slice ao0 l.length cap0) l) (hr1 : Runs w (.slice ao1 o.pl.length cap1) o.pl) :
    Calls Tryz.prog 6 #[.slice ao0 l.length cap0, .agg #[.int .u32 (s.t : Int), .int .u8 (s.r : Int)], opv o (.slice ao1 o.pl.length cap1)] w fun e w' => e = .returned (.bool true) ∧ Below w.heap.size w w' := by
  have HV : Hid (∀ W : World, Below w.heap.size w W → OpL W (.slice ao0 l.length cap0) l) := fun W h => hr0.keeps h
  have HU : Hid (∀ W : World, Below w.heap.size w W → Runs W (.slice ao1 o.pl.length cap1) o.pl) := fun W h => hr1.keeps h
  have AV := Lib.hid alive14_any
  have GR : Hid (∀ W : World, Below w.heap.size w W → Calls Tryz.prog 16 #[.slice ao0 l.length cap0, .int .i64 40] W fun e w' => GrtO l 40 e ∧ W = w') := fun W h => greatO_any (HV.out W h)
  have hgr : ∀ {e : Ending}, GrtO l 40 e → ∃ g, e = .returned (.bool g) := fun ⟨g, h1, h2⟩ => ⟨g, h1⟩
  have CC : Hid (∀ W : World, Below w.heap.size w W → Calls Tryz.prog 10 #[.slice ao0 l.length cap0, .agg #[.int .u32 (s.t : Int), .int .u8 (s.r : Int)]] W (DoneN (countsL l s) (spanE l s) W)) := fun W h => cCounts_any s (HV.out W h)
  have AD : Hid (∀ W : World, Below w.heap.size w W → Calls Tryz.prog 30 #[.slice ao0 l.length cap0, opv o (.slice ao1 o.pl.length cap1)] W (DoneN (addL l o) (addE l o) W)) := fun W h => bAdd_any (HV.out W h) (HU.out W h)
  have CO : Hid (∀ (W : World) (v u : Value) (p : List Run), OpL W v (addL l o) → Runs W u p → Calls Tryz.prog 26 #[v, u] W (OneI (homeL (addL l o) p) (homeE (addL l o) p) W)) := fun W v u p h h2 => hOf_any h h2
  have CV : Hid (∀ (W : World) (v : Value) (a : Id), OpL W v (addL l o) → Calls Tryz.prog 7 #[v, .agg #[.int .u32 (a.t : Int), .int .u8 (a.r : Int)]] W (Bags.DoneC (versionL (addL l o) a) (spanE (addL l o) a) W)) := fun W v a h => cVersion_any a h
  have CHS : Hid (∀ (W : World) (v : Value) (c : List Clocks.Tm) (a : Id), Tms W v c → Calls Tryz.prog 15 #[v, .agg #[.int .u32 (a.t : Int), .int .u8 (a.r : Int)]] W fun e w' => e = .returned (.bool (Clocks.hasC c a)) ∧ Below W.heap.size W w') := fun W v c a h => Clocks.cHas_any a h
  have MF : Hid (spanE l s = 0 → addE l o = 0 → o.k ≠ 4 → ∀ c, c ∈ countsL l s → homeE (addL l o) c.pl = 0 ∧ spanE (addL l o) (homeL (addL l o) c.pl) = 0 ∧ Clocks.hasC (versionL (addL l o) (homeL (addL l o) c.pl)) (idO c) = true ∧ (o.k ≠ 2 → homeL (addL l o) c.pl = s)) := fun h1 h2 h4 c hc => grow_facts h1 h2 h4 hc
  obtain ⟨y, hy⟩ : ∃ y, y = Value.slice ao1 o.pl.length cap1 := ⟨_, rfl⟩
  have HY := Lib.hid hy
  obtain ⟨wb, hwb⟩ : ∃ x, x = w.alloc (.cells #[.int .u32 (s.t : Int), .int .u8 (s.r : Int)] 28) := ⟨_, rfl⟩
  obtain ⟨wl, hwl⟩ : ∃ x, x = wb.alloc (.cells #[.int .u8 (o.k : Int), .int .u32 (o.t : Int), .int .u8 (o.r : Int), y, .int .i64 o.p] 31) := ⟨_, rfl⟩
  have hsz : wb.heap.size = w.heap.size + 1 := by rw [hwb]; exact Array.size_push _
  have Bb : Below w.heap.size w wb := by rw [hwb]; exact (Below.refl _ _).alloc (Nat.le_refl _) _
  have Bbl : Below wb.heap.size wb wl := by rw [hwl]; exact (Below.refl _ _).alloc (Nat.le_refl _) _
  have B0 : Hid (Below w.heap.size w wl) := bt Bb Bbl
  have P0 : Hid (Pair wl w.heap.size (.int .u32 (s.t : Int)) (.int .u8 (s.r : Int))) := by
    have : Pair wb w.heap.size (.int .u32 (s.t : Int)) (.int .u8 (s.r : Int)) := by rw [hwb]; exact pair_new _ _ _ _
    exact this.keeps Bbl
  have O0 : Hid (wl.heap[w.heap.size + 1]? = some (.cells #[.int .u8 (o.k : Int), .int .u32 (o.t : Int), .int .u8 (o.r : Int), y, .int .i64 o.p] 31)) := by rw [hwl, ← hsz]; exact blk_new rfl
  have HW : Hid (wl = (w.alloc (.cells #[.int .u32 (s.t : Int), .int .u8 (s.r : Int)] 28)).alloc (.cells #[.int .u8 (o.k : Int), .int .u32 (o.t : Int), .int .u8 (o.r : Int), y, .int .i64 o.p] 31)) := by rw [hwl, hwb]; rfl
  obtain ⟨n0, hn0⟩ : ∃ n, n = l.length := ⟨_, rfl⟩
  rw [← hn0] at GR CC AD ⊢
  obtain ⟨nu, hnu⟩ : ∃ n, o.pl.length = n := ⟨_, rfl⟩
  have hnm : nu ≤ 9223372036854775807 := by rw [← hnu]; exact hr1.max
  rw [hnu] at AD hy ⊢
  have HOV : Hid (∀ v : Value, opv o v = .agg #[.int .u8 (o.k : Int), .int .u32 (o.t : Int), .int .u8 (o.r : Int), v, .int .i64 o.p]) := fun v => rfl
  obtain ⟨M, hM⟩ : ∃ z, addL l o = z := ⟨_, rfl⟩
  obtain ⟨E2, hE2⟩ : ∃ z, addE l o = z := ⟨_, rfl⟩
  obtain ⟨E1, hE1⟩ : ∃ z, spanE l s = z := ⟨_, rfl⟩
  obtain ⟨C, hC⟩ : ∃ z, countsL l s = z := ⟨_, rfl⟩
  rw [hM, hE2] at AD
  rw [hM] at CO CV
  rw [hC, hE1] at CC
  rw [hM, hE2, hE1, hC] at MF
  obtain ⟨ts, rs, hts, hrs⟩ := s
  simp only at P0 HW CC ⊢
  subst hy
  simp only [HOV.out] at AD ⊢
  obtain ⟨ok, hok⟩ : ∃ z, o.k = z := ⟨_, rfl⟩
  obtain ⟨ot, hot⟩ : ∃ z, o.t = z := ⟨_, rfl⟩
  obtain ⟨or', hor⟩ : ∃ z, o.r = z := ⟨_, rfl⟩
  obtain ⟨op', hop⟩ : ∃ z, o.p = z := ⟨_, rfl⟩
  rw [hok, hot, hor, hop] at AD O0 HW ⊢
  rw [hok] at MF
  clear hr0 hr1 hn0 hnu hwb hwl hsz Bb Bbl hM hE2 hE1 hC HV HU HOV HY hok hot hor hop
  go_enter Tryz.func6, Tryz.ntmps6
  go_wp2_with fail
  rw [← HW.out]
  refine (AV.out _).mono ?_
  rintro e w1 ⟨rfl, b1⟩
  have K1 := Lib.hid b1
  have B1 := Lib.hid (bt B0.out b1)
  clear b1 AV HW
  go_wp2_with fail
  refine (GR.out _ B1.out).mono ?_
  rintro e w2 ⟨hg, rfl⟩
  obtain ⟨g, rfl⟩ := hgr hg
  clear hg hgr GR
  cases g
  rotate_left
  · go_wp2
    go_ret
    exact ⟨rfl, B1.out⟩
  obtain ⟨x0, x1, x2, x3, x4⟩ := cells5 (blk_below K1.out O0.out)
  by_cases hm : 100 < nu
  · have t1 : decide ((100 : Int) < (nu : Int)) = true := decide_eq_true (by omega)
    have u1 : decide (100 < nu) = true := decide_eq_true hm
    go_wp2
    go_ret
    exact ⟨rfl, B1.out⟩
  have t1 : decide ((100 : Int) < (nu : Int)) = false := decide_eq_false (by omega)
  have u1 : decide (100 < nu) = false := decide_eq_false hm
  by_cases hk4 : ok = 4
  · subst hk4
    go_wp2
    go_ret
    exact ⟨rfl, B1.out⟩
  have qk4 : ((ok : Int) == 4) = false := by simp; omega
  have qk4' : decide ((ok : Int) = 4) = false := decide_eq_false (by omega)
  have CCX := Lib.hid (CC.out _ B1.out)
  obtain ⟨_, d0, d1⟩ := P0.out.keeps K1.out
  clear CC
  go_wp2_with fail
  refine CCX.out.mono ?_
  rintro e w3 ⟨vc, rfl, o3, b3⟩
  obtain ⟨ac, cc, rfl⟩ := o3.opl.shape
  have OC3 := Lib.hid o3.opl
  have B3 := Lib.hid (bt B1.out b3)
  have K3 := Lib.hid (bt K1.out b3)
  clear o3 b3 x0 x1 x2 x3 x4 d0 d1 CCX t1 u1 qk4 qk4' B1 K1
  obtain ⟨x0, x1, x2, x3, x4⟩ := cells5 (blk_below K3.out O0.out)
  go_wp2_with fail
  refine (AD.out _ B3.out).mono ?_
  rintro e w4 ⟨vx, rfl, o4, b4⟩
  obtain ⟨ax, cx, rfl⟩ := o4.opl.shape
  have OM4 : Hid (∀ W : World, Below w4.heap.size w4 W → OpL W (.slice ax M.length cx) M) := fun W h => o4.opl.keeps h
  have OC4 : Hid (∀ W : World, Below w4.heap.size w4 W → OpL W (.slice ac C.length cc) C) := fun W h => (OC3.out.keeps b4).keeps h
  have B4 := Lib.hid (bt B3.out b4)
  have K4 := Lib.hid (bt K3.out b4)
  clear o4 b4 x0 x1 x2 x3 x4 OC3 B3 K3 AD
  by_cases h1 : E1 = 0
  rotate_left
  · have q1 : (E1 == 0) = false := by simpa using h1
    have q2 : decide (E1 = 0) = false := decide_eq_false h1
    clear CO CV CHS MF
    go_wp2
    go_ret
    exact ⟨rfl, B4.out⟩
  subst h1
  by_cases h2 : E2 = 0
  rotate_left
  · have q1 : (E2 == 0) = false := by simpa using h2
    have q2 : decide (E2 = 0) = false := decide_eq_false h2
    clear CO CV CHS MF
    go_wp2
    go_ret
    exact ⟨rfl, B4.out⟩
  subst h2
  have MF2 := Lib.hid (MF.out rfl rfl hk4)
  have Z4 : Hid (Below w4.heap.size w4 w4) := Below.refl _ _
  obtain ⟨n, hn⟩ : ∃ z, z = C.length := ⟨_, rfl⟩
  have HN := Lib.hid hn
  obtain ⟨nx, hnx⟩ : ∃ z, M.length = z := ⟨_, rfl⟩
  rw [hnx] at OM4 ⊢
  rw [← hn]
  have hnm2 : n ≤ 9223372036854775807 := by rw [hn]; exact (OC4.out w4 Z4.out).max
  clear MF hk4 hn hnx hm hnm
  go_wp2
  go_loopw [12] (fun i wr => ∃ j : Nat, j ≤ n ∧ i = .int .i64 (j : Int) ∧ Hid (Below w4.heap.size w4 wr)) (fun i _ => n - (intOf i).toNat)
  case atStart => exact ⟨0, by omega, rfl, Z4⟩
  case round =>
    clear Z4
    obtain ⟨j, hj, rfl, hbel⟩ := hrel
    have BW := Lib.hid (bt B4.out hbel.out)
    by_cases hjn : j < n
    rotate_left
    · have q3 : decide (j < n) = false := by simpa using hjn
      clear CO CV CHS MF2 OM4 OC4
      go_wp2
      go_ret
      exact ⟨rfl, BW.out⟩
    have q3 : decide (j < n) = true := by simpa using hjn
    have q4 : (0 : Int) ≤ (j : Int) := by omega
    have q5 : (j : Int) < (n : Int) := by omega
    have hjl : j < C.length := by rw [← HN.out]; exact hjn
    have OCX : OpL wr (.slice ac C.length cc) C := OC4.out wr hbel.out
    obtain ⟨bb, oo, u, e, hbb, hru, h0, h1, h2, h3, h4⟩ := opl_at (OCX) j hjl
    subst e
    obtain ⟨x, hx⟩ : ∃ x, x = C[j]'hjl := ⟨_, rfl⟩
    rw [← hx] at hru h0 h1 h2 h4
    have HO : Hid (∀ v : Value, opv x v = .agg #[.int .u8 (x.k : Int), .int .u32 (x.t : Int), .int .u8 (x.r : Int), v, .int .i64 x.p]) := fun v => rfl
    obtain ⟨uo, uc, rfl⟩ := hru.shape
    obtain ⟨nv, hnv⟩ : ∃ n, n = x.pl.length := ⟨_, rfl⟩
    have HNV2 := Lib.hid hnv
    rw [← hnv] at hru h3
    clear hnv
    have hxm : x ∈ C := by rw [hx]; exact List.getElem_mem _
    obtain ⟨m1, m2, m3, m4⟩ := MF2.out x hxm
    have OFX := CO.out wr _ _ x.pl (OM4.out wr hbel.out) hru
    rw [m1] at OFX
    obtain ⟨at', hat⟩ : ∃ z, homeL M x.pl = z := ⟨_, rfl⟩
    rw [hat] at OFX m2 m3 m4
    have VEX : Hid (∀ W : World, Below w4.heap.size w4 W → Calls Tryz.prog 7 #[.slice ax nx cx, .agg #[.int .u32 (at'.t : Int), .int .u8 (at'.r : Int)]] W (Bags.DoneC (versionL M at') 0 W)) := fun W h => by
      have := CV.out W _ at' (OM4.out W h)
      rwa [m2] at this
    have HAX : Hid (∀ (W : World) (v : Value), Tms W v (versionL M at') → Calls Tryz.prog 15 #[v, .agg #[.int .u32 (x.t : Int), .int .u8 (x.r : Int)]] W fun e w' => e = .returned (.bool true) ∧ Below W.heap.size W w') := fun W v h => by
      have := CHS.out W v _ (idO x) h
      rwa [m3] at this
    obtain ⟨VE, hVE⟩ : ∃ z, versionL M at' = z := ⟨_, rfl⟩
    rw [hVE] at VEX HAX
    have OFX2 := Lib.hid OFX
    obtain ⟨T, R, hT, hR⟩ := at'
    simp only at OFX2 VEX
    have M4 : Hid (ok ≠ 2 → T = ts ∧ R = rs) := fun h => by
      have := m4 h
      exact ⟨congrArg Id.t this, congrArg Id.r this⟩
    clear OFX m1 m2 m3 m4 hat hVE hxm hx CO CV CHS MF2 OM4 OC4 OCX HO
    obtain ⟨k, hk⟩ : ∃ z, x.k = z := ⟨_, rfl⟩
    obtain ⟨t, ht⟩ : ∃ z, x.t = z := ⟨_, rfl⟩
    obtain ⟨r, hr⟩ : ∃ z, x.r = z := ⟨_, rfl⟩
    obtain ⟨p, hp⟩ : ∃ z, x.p = z := ⟨_, rfl⟩
    rw [hk] at h0
    rw [ht] at h1
    rw [hr] at h2
    rw [hp] at h4
    rw [ht, hr] at HAX
    have F1 : Hid (FiveAt wr bb (oo + j * 5) (.int .u8 (k : Int)) (.int .u32 (t : Int)) (.int .u8 (r : Int)) (.slice uo nv uc) (.int .i64 p)) := ⟨hbb, h0, h1, h2, h3, h4⟩
    clear hk ht hr hp hru hbb
    go_wp2_with fail
    refine OFX2.out.mono ?_
    rintro e w5 ⟨rfl, b5⟩
    have bo := (Below.refl w5.heap.size w5).alloc (Nat.le_refl _) (.cells #[.int .u32 (T : Int), .int .u8 (R : Int)] 28)
    have P5 := Lib.hid (pair_new w5 (.int .u32 (T : Int)) (.int .u8 (R : Int)) 28)
    have Z5 := Lib.hid (bt (bt hbel.out b5) bo)
    have F5 := Lib.hid (F1.out.keeps (bt b5 bo))
    clear b5 bo OFX2 F1 h0 h1 h2 h3 h4 BW
    go_wp2_with fail
    refine (VEX.out _ Z5.out).mono ?_
    rintro e w6 ⟨vv, rfl, o6, b6⟩
    have TV := Lib.hid o6.tms
    have P6 := Lib.hid (P5.out.keeps b6)
    have Z6 := Lib.hid (bt Z5.out b6)
    have F6 := Lib.hid (F5.out.keeps b6)
    clear o6 b6 P5 Z5 F5 VEX
    obtain ⟨_, h0, h1, h2, h3, h4⟩ := F6.out
    go_wp2_with fail
    refine (HAX.out _ _ TV.out).mono ?_
    rintro e w7 ⟨rfl, b7⟩
    have Z7 := Lib.hid (bt Z6.out b7)
    obtain ⟨_, f0, f1⟩ := P6.out.keeps b7
    obtain ⟨_, d0, d1⟩ := P0.out.keeps (bt K4.out Z7.out)
    obtain ⟨x0, x1, x2, x3, x4⟩ := cells5 (blk_below (bt K4.out Z7.out) O0.out)
    have ZE := Lib.hid (bt hbel.out (Below.refl _ _))
    clear b7 HAX TV P6 Z6 F6 h0 h1 h2 h3 h4 ZE hbel
    by_cases hk2 : ok = 2
    · have y0 : w7.cell? ⟨w.heap.size + 1, 0, none⟩ = some (.int .u8 2) := by rw [x0, hk2]; rfl
      clear M4 hk2 x0
      go_wp2
      go_roundw
      case rel => exact ⟨j + 1, by omega, by go_num, Z7⟩
      case measure => simp [intOf]; omega
    obtain ⟨rfl, rfl⟩ := M4.out hk2
    have qk2 : ((ok : Int) == 2) = false := by simp; omega
    have qk2' : decide ((ok : Int) = 2) = false := decide_eq_false (by omega)
    clear M4
    go_wp2
    go_roundw
    case rel => exact ⟨j + 1, by omega, by go_num, Z7⟩
    case measure => simp [intOf]; omega
end Go.Proofs.YtdackenaknieaaaGreat.Covers
