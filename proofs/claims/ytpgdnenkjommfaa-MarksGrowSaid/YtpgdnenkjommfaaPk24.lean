/- MarksGrow answers true, and changes nothing that was there. Conditions: none. -/
import Derived.Deep.DeepCutAuto
import Derived.Deep.DrawnRows
import Derived.Deep.RegionHeld3
import Derived.Test.YtpgdnenkjommfaaPk20
import Derived.Test.YtpgdnenkjommfaaPk19
import Derived.Test.YtpgdnenkjommfaaPk18
import Derived.Test.YtpgdnenkjommfaaPk04
import Derived.Test.YtpgdnenkjommfaaPk07

namespace Go.Proofs.Ytpgdnenkjommfaa.Marks
open Go.RowKit Go.WideShapes Stamp Go.Proofs.Ytpgdnenkjommfaa.Place Ops Codes Bags
attribute [local go_sem ↓] Go.wp_at_zero Go.wp_at_succ
attribute [local go_sem] yielded_undef

theorem find_some {l : List Opn} (a : Id) (h : Bag l) : (findL l a).isSome = hasO l a := by unfold findL; rw [(bagB_iff l).2 h, if_pos rfl]; rfl
/-- What the loop has come to. -/
def St (l : List Opn) (o : Opn) (hd d0 : Bool) (j : Nat) (s : List Opn × Bool) : Prop := s = ((livesM l l).take j).foldl (wstep hd o) ([], d0)
theorem st_next {l : List Opn} {o : Opn} {hd d0 : Bool} {j : Nat} {s : List Opn × Bool} (h : St l o hd d0 j s) (hj : j < (livesM l l).length) : St l o hd d0 (j + 1) (wstep hd o s ((livesM l l)[j]'hj)) := by
  unfold St at *
  rw [List.take_succ_eq_append_getElem hj, List.foldl_append, ← h]
  rfl

set_option maxRecDepth 100000 in
set_option maxHeartbeats 32000000 in
theorem grow_walk {l : List Opn} {ao : Option Addr} {cap : Nat} {o : Opn} {ao1 : Option Addr} {cap1 : Nat} {w : World} (hr0 : OpL w (.slice ao l.length cap) l) (hr1 : Runs w (.slice ao1 o.pl.length cap1) o.pl) :
    Calls Try.prog 4 #[.slice ao l.length cap, opv o (.slice ao1 o.pl.length cap1)] w fun e w' => e = .returned (.bool true) ∧ Below w.heap.size w w' := by
  have HV : Hid (∀ W : World, Below w.heap.size w W → OpL W (.slice ao l.length cap) l) := fun W h => hr0.keeps h
  have HU : Hid (∀ W : World, Below w.heap.size w W → Runs W (.slice ao1 o.pl.length cap1) o.pl) := fun W h => hr1.keeps h
  have AV := Lib.hid alive12_any
  have GR : Hid (∀ W : World, Below w.heap.size w W → Calls Try.prog 14 #[.slice ao l.length cap, .int .i64 60] W fun e w' => GrtO l 60 e ∧ W = w') := fun W h => greatO_any (HV.out W h)
  have hgr : ∀ {e : Ending}, GrtO l 60 e → ∃ g, e = .returned (.bool g) := fun ⟨g, h1, h2⟩ => ⟨g, h1⟩
  have FD : Hid (∀ W : World, Below w.heap.size w W → Calls Try.prog 15 #[.slice ao l.length cap, .agg #[.int .u32 (o.t : Int), .int .u8 (o.r : Int)]] W fun e w' => ∃ (x : Opn) (u : Value) (hd : Bool), e = .returned (.tuple #[opv x u, .bool hd]) ∧ (∃ ao cap, u = .slice ao x.pl.length cap) ∧ (Bag l → hd = hasO l (idO o)) ∧ Below W.heap.size W w') := fun W h => by
    refine (bFind_any (idO o) (HV.out W h)).mono ?_
    rintro e w' ⟨v, rfl, ho, hb⟩
    exact ⟨_, v, _, rfl, Sees.shape (Sees.own ho), fun hbag => find_some _ hbag, hb⟩
  have LI : Hid (∀ W : World, Below w.heap.size w W → Calls Try.prog 9 #[.slice ao l.length cap] W (DoneN (liveL l) (chkL l) W)) := fun W h => mLive_any (HV.out W h)
  have AD : Hid (∀ W : World, Below w.heap.size w W → Calls Try.prog 16 #[.slice ao l.length cap, opv o (.slice ao1 o.pl.length cap1)] W (DoneN (addL l o) (addE l o) W)) := fun W h => bAdd_any (HV.out W h) (HU.out W h)
  have LX : Hid (∀ (W : World) (v : Value), OpL W v (addL l o) → Calls Try.prog 9 #[v] W (DoneN (liveL (addL l o)) (chkL (addL l o)) W)) := fun W v h => mLive_any h
  have JO : Hid (∀ W : World, Below w.heap.size w W → Calls Try.prog 11 #[.slice ao l.length cap, .agg #[.int .u32 (o.t : Int), .int .u8 (o.r : Int)]] W fun e w' => e = .returned (.bool (joinedM l (idO o))) ∧ Below W.heap.size W w') := fun W h => mJoined_any (idO o) (HV.out W h)
  have CM : Hid (∀ (W : World) (v : Value) (q : List Run), Below w.heap.size w W → Runs W v q → Calls Try.prog 17 #[.slice ao1 o.pl.length cap1, v] W fun e w' => e = .returned (.int .i64 (cmp o.pl q)) ∧ Below W.heap.size W w') := fun W v q h h2 => pCompare_any (HU.out W h) h2
  have LA : Hid (mayO o = true → ∀ W : World, Below w.heap.size w W → Calls Try.prog 18 #[.slice ao1 o.pl.length cap1] W fun e w' => e = .returned (.agg #[.int .u32 ((tgt o).t : Int), .int .u8 ((tgt o).r : Int)]) ∧ Below W.heap.size W w') := fun hm W h => by
    have := pLast_any (HU.out W h)
    have hc := tgt_cells hm
    rwa [← hc.1, ← hc.2] at this
  have JX : Hid (∀ (W : World) (v : Value), OpL W v (addL l o) → Calls Try.prog 11 #[v, .agg #[.int .u32 ((tgt o).t : Int), .int .u8 ((tgt o).r : Int)]] W fun e w' => e = .returned (.bool (joinedM (addL l o) (tgt o))) ∧ Below W.heap.size W w') := fun W v h => mJoined_any (tgt o) h
  have SL : Hid (∀ (W : World) (u v : Value) (m : List Opn), OpL W u m → OpL W v m → Calls Try.prog 19 #[u, v] W fun e w' => e = .returned (.bool true) ∧ Below W.heap.size W w') := fun W u v m h h2 => by
    have := sameL_any h h2
    rwa [decide_eq_true rfl] at this
  obtain ⟨n, hn⟩ : ∃ n, n = l.length := ⟨_, rfl⟩
  obtain ⟨nu0, hnu0⟩ : ∃ n, n = o.pl.length := ⟨_, rfl⟩
  obtain ⟨uo0, hu0⟩ : ∃ z, z = ao1 := ⟨_, rfl⟩
  obtain ⟨uc0, hc0⟩ : ∃ z, z = cap1 := ⟨_, rfl⟩
  rw [← hnu0, ← hu0, ← hc0] at HU AD CM LA ⊢
  rw [← hn] at GR FD LI AD JO ⊢
  have HO0 : Hid (∀ v : Value, opv o v = .agg #[.int .u8 (o.k : Int), .int .u32 (o.t : Int), .int .u8 (o.r : Int), v, .int .i64 o.p]) := fun v => rfl
  obtain ⟨k0, hk0⟩ : ∃ z, o.k = z := ⟨_, rfl⟩
  obtain ⟨t0, ht0⟩ : ∃ z, o.t = z := ⟨_, rfl⟩
  obtain ⟨r0, hr0'⟩ : ∃ z, o.r = z := ⟨_, rfl⟩
  obtain ⟨p0, hp0⟩ : ∃ z, o.p = z := ⟨_, rfl⟩
  have HK0 : Hid (o.k = k0) := hk0
  have HF5 : Hid (∀ v : Value, ([.int .u8 (k0 : Int), .int .u32 (t0 : Int), .int .u8 (r0 : Int), v, .int .i64 p0] : List Value) = [Value.int .u8 (o.k : Int), .int .u32 (o.t : Int), .int .u8 (o.r : Int), v, .int .i64 o.p]) := fun v => by rw [hk0, ht0, hr0', hp0]
  rw [hk0, ht0, hr0', hp0] at HO0
  rw [ht0, hr0'] at FD JO
  simp only [HO0.out] at AD ⊢
  obtain ⟨E, hE⟩ : ∃ z, addE l o = z := ⟨_, rfl⟩
  have HE := Lib.hid hE
  rw [hE] at AD
  have XE : Hid (Bag l → E = 0 → mayO o = true ∧ Bag (addL l o) ∧ addL l o = withO l o) := fun hb he => by
    rw [← hE] at he
    rcases addE_cases l o with ⟨h, _⟩ | ⟨h, _⟩ | ⟨_, _, h2, _⟩
    · omega
    · omega
    · exact ⟨h2, (addL_bag he).2, (addL_bag he).1⟩
  have XB : Hid (¬ Bag l → E = 8) := fun hb => by
    rcases addE_cases l o with ⟨h, _⟩ | ⟨_, h, _⟩ | ⟨_, h, _⟩
    · omega
    · exact absurd h hb
    · exact absurd h hb
  have B0 : Hid (Below w.heap.size w (w.alloc (.cells #[.int .u8 (k0 : Int), .int .u32 (t0 : Int), .int .u8 (r0 : Int), .slice uo0 nu0 uc0, .int .i64 p0] 27))) := (Below.refl _ _).alloc (Nat.le_refl _) _
  have CE : Hid (∀ W : World, Below (w.alloc (.cells #[.int .u8 (k0 : Int), .int .u32 (t0 : Int), .int .u8 (r0 : Int), .slice uo0 nu0 uc0, .int .i64 p0] 27)).heap.size (w.alloc (.cells #[.int .u8 (k0 : Int), .int .u32 (t0 : Int), .int .u8 (r0 : Int), .slice uo0 nu0 uc0, .int .i64 p0] 27)) W → W.cell? ⟨w.heap.size, 0, none⟩ = some (.int .u8 (k0 : Int)) ∧ W.cell? ⟨w.heap.size, 1, none⟩ = some (.int .u32 (t0 : Int)) ∧ W.cell? ⟨w.heap.size, 2, none⟩ = some (.int .u8 (r0 : Int)) ∧ W.cell? ⟨w.heap.size, 3, none⟩ = some (.slice uo0 nu0 uc0) ∧ W.cell? ⟨w.heap.size, 4, none⟩ = some (.int .i64 p0)) := fun W h => five_cells h
  clear hr0 hr1 hn hnu0 hu0 hc0 hk0 ht0 hr0' hp0 HO0 hE HV
  go_enter Try.func4, Try.ntmps4
  go_wp2_with fail
  refine (AV.out _).mono ?_
  rintro e w1 ⟨rfl, b1⟩
  have B1 := Lib.hid (bt B0.out b1)
  have K1 := Lib.hid b1
  clear b1 B0 AV
  obtain ⟨c0, c1, c2, c3, c4⟩ := CE.out _ K1.out
  go_wp2_with fail
  refine (GR.out _ B1.out).mono ?_
  rintro e w2 ⟨hg, rfl⟩
  obtain ⟨g, rfl⟩ := hgr hg
  clear hg hgr GR
  cases g
  rotate_left
  · go_wp2
    go_ret
    exact ⟨rfl, B1.out⟩
  by_cases hbig : 100 < nu0
  · have q1 : decide (100 < nu0) = true := decide_eq_true hbig
    have q2 : decide ((100 : Int) < (nu0 : Int)) = true := decide_eq_true (by omega)
    go_wp2
    go_ret
    exact ⟨rfl, B1.out⟩
  have q1 : decide (100 < nu0) = false := decide_eq_false hbig
  have q2 : decide ((100 : Int) < (nu0 : Int)) = false := decide_eq_false (by omega)
  go_wp2_with fail
  refine (FD.out _ B1.out).mono ?_
  rintro e w4 ⟨xf, uf, hd, rfl, ⟨af, cf, rfl⟩, hhd, b4⟩
  have B4 := Lib.hid (bt B1.out b4)
  have K4 := Lib.hid (bt K1.out b4)
  have HHD := Lib.hid hhd
  have HOF : Hid (∀ v : Value, opv xf v = .agg #[.int .u8 (xf.k : Int), .int .u32 (xf.t : Int), .int .u8 (xf.r : Int), v, .int .i64 xf.p]) := fun v => rfl
  rw [HOF.out]
  obtain ⟨fk, hfk⟩ : ∃ z, (xf.k : Int) = z := ⟨_, rfl⟩
  obtain ⟨ft, hft⟩ : ∃ z, (xf.t : Int) = z := ⟨_, rfl⟩
  obtain ⟨fr, hfr⟩ : ∃ z, (xf.r : Int) = z := ⟨_, rfl⟩
  obtain ⟨fp, hfp⟩ : ∃ z, xf.p = z := ⟨_, rfl⟩
  obtain ⟨fn, hfn⟩ : ∃ z, xf.pl.length = z := ⟨_, rfl⟩
  rw [hfk, hft, hfr, hfp, hfn]
  clear b4 hhd HOF hfk hft hfr hfp hfn c0 c1 c2 c3 c4 B1 K1 FD
  have BA : Hid (∀ c : Obj, Below w.heap.size w (w4.alloc c)) := fun c => B4.out.alloc B4.out.size c
  have KA : Hid (∀ c : Obj, Below (w.alloc (.cells #[.int .u8 (k0 : Int), .int .u32 (t0 : Int), .int .u8 (r0 : Int), .slice uo0 nu0 uc0, .int .i64 p0] 27)).heap.size (w.alloc (.cells #[.int .u8 (k0 : Int), .int .u32 (t0 : Int), .int .u8 (r0 : Int), .slice uo0 nu0 uc0, .int .i64 p0] 27)) (w4.alloc c)) := fun c => K4.out.alloc K4.out.size c
  go_wp2_with fail
  refine (LI.out _ (BA.out _)).mono ?_
  rintro e w6 ⟨va, rfl, o6, b6⟩
  have B6 := Lib.hid (bt (BA.out _) b6)
  have K6 := Lib.hid (bt (KA.out _) b6)
  have A6 := Lib.hid o6.opl
  obtain ⟨aa, ca, rfl⟩ := A6.out.shape
  clear o6 b6 B4 K4 BA KA LI
  obtain ⟨c0, c1, c2, c3, c4⟩ := CE.out _ K6.out
  go_wp2_with fail
  refine (AD.out _ B6.out).mono ?_
  rintro e w7 ⟨vx, rfl, o7, b7⟩
  have B7 := Lib.hid (bt B6.out b7)
  have K7 := Lib.hid (bt K6.out b7)
  have A7 := Lib.hid (A6.out.keeps b7)
  have X7 := Lib.hid o7.opl
  clear o7 b7 c0 c1 c2 c3 c4 B6 K6 A6 AD
  go_wp2_with fail
  refine (LX.out _ _ X7.out).mono ?_
  rintro e w8 ⟨vb, rfl, o8, b8⟩
  have B8 := Lib.hid (bt B7.out b8)
  have K8 := Lib.hid (bt K7.out b8)
  have A8 := Lib.hid (A7.out.keeps b8)
  have X8 := Lib.hid (X7.out.keeps b8)
  have Q8 := Lib.hid o8.opl
  clear o8 b8 B7 K7 A7 X7 LX
  by_cases hbag : Bag l
  rotate_left
  · have e1 : chkL l = 8 := chkL_no hbag
    obtain rfl := XB.out hbag
    rw [e1]
    clear e1 hbag XE XB CM LA JX SL JO CE A8 X8 Q8 K8
    go_wp2
    go_ret
    exact ⟨rfl, B8.out⟩
  have e1 : chkL l = 0 := chkL_yes hbag
  rw [e1]
  by_cases he : E = 0
  rotate_left
  · have d1 : (E != 0) = true := by simpa using he
    clear e1 hbag XE XB CM LA JX SL JO CE A8 X8 Q8 K8 HE
    go_wp2
    go_ret
    exact ⟨rfl, B8.out⟩
  subst he
  obtain ⟨hmo, hbx, hax⟩ := XE.out hbag rfl
  have e2 : chkL (addL l o) = 0 := chkL_yes hbx
  rw [e2]
  have e3 : liveL l = livesM l l := by unfold liveL; rw [(bagB_iff l).2 hbag]; rfl
  have e4 : liveL (addL l o) = livesM (withO l o) (withO l o) := by unfold liveL; rw [(bagB_iff _).2 hbx, if_pos rfl, hax]
  have e5 : joinedM l (idO o) = ended l (idO o) := by unfold joinedM; rw [(bagB_iff l).2 hbag, Bool.true_and]
  have HDH : Hid (hd = hasO l (idO o)) := HHD.out hbag
  rw [hax] at hbx
  have FIN : Hid (wfin o ((livesM l l).foldl (wstep hd o) ([], hd || (!decide (k0 = 2) || ended l (idO o)))) = livesM (withO l o) (withO l o)) := by
    unfold Hid
    rw [HDH.out, ← HK0.out]
    exact grow_is hbag hmo hbx
  have FJ : Hid (hd = false → k0 = 4 → joinedM (addL l o) (tgt o) = true) := fun h h2 => by
    rw [hax]
    unfold joinedM
    rw [(bagB_iff _).2 hbx, Bool.true_and]
    exact grow_join (by rw [← HDH.out]; exact h) (by rw [HK0.out]; exact h2)
  have LA2 := Lib.hid (LA.out hmo)
  obtain ⟨FL, hFL⟩ : ∃ z, livesM (withO l o) (withO l o) = z := ⟨_, rfl⟩
  rw [e3] at A8
  rw [e4, hFL] at Q8
  rw [hFL] at FIN
  rw [e5] at JO
  have hfit := liveL_fits l
  rw [e3] at hfit
  rw [e3]
  obtain ⟨na, hna⟩ : ∃ z, z = (livesM l l).length := ⟨_, rfl⟩
  have HNA := Lib.hid hna
  have hnam : na ≤ 1024 := by rw [hna]; exact hfit.1
  rw [← hna] at A8 ⊢
  have AL8 : Hid (OpL w8 (.slice aa na ca) (livesM l l)) := A8.out
  obtain ⟨ej, hej⟩ : ∃ z, ended l (idO o) = z := ⟨_, rfl⟩
  rw [hej] at JO FIN
  have CE8 : Hid (∀ W : World, Below w8.heap.size w8 W → W.cell? ⟨w.heap.size, 0, none⟩ = some (.int .u8 (k0 : Int)) ∧ W.cell? ⟨w.heap.size, 1, none⟩ = some (.int .u32 (t0 : Int)) ∧ W.cell? ⟨w.heap.size, 2, none⟩ = some (.int .u8 (r0 : Int)) ∧ W.cell? ⟨w.heap.size, 3, none⟩ = some (.slice uo0 nu0 uc0) ∧ W.cell? ⟨w.heap.size, 4, none⟩ = some (.int .i64 p0)) := fun W h => CE.out W (bt K8.out h)
  have INO : Hid (opE.inn w8 [.int .u8 (k0 : Int), .int .u32 (t0 : Int), .int .u8 (r0 : Int), .slice uo0 nu0 uc0, .int .i64 p0] o) := ⟨_, HF5.out _, HU.out _ B8.out⟩
  obtain ⟨tt, htt⟩ : ∃ z, (tgt o).t = z := ⟨_, rfl⟩
  obtain ⟨tr, htr⟩ : ∃ z, (tgt o).r = z := ⟨_, rfl⟩
  have HTG : Hid ((tgt o).t = tt ∧ (tgt o).r = tr) := ⟨htt, htr⟩
  rw [htt, htr] at LA2 JX
  clear e1 e2 e3 e4 e5 hmo hbx hax hbag hfit hFL hej hna htt htr XE XB CE K8 HHD HDH LA HE A8
  go_upto_region 11 with fail
  go_cut [15] (fun t wx => ∃ q, t = .bool q ∧ Hid (q = (hd || (!decide (k0 = 2) || ej))) ∧ Hid (Below w8.heap.size w8 wx))
  case first =>
    clear CM LA2 JX SL FIN FJ AL8 X8 Q8 INO
    obtain ⟨c0, c1, c2, c3, c4⟩ := CE8.out w8 (Below.refl _ _)
    cases hd
    rotate_left
    · go_wp2
      all_goals go_meet
      all_goals exact ⟨_, rfl, rfl, Below.refl _ _⟩
    by_cases hk2 : k0 = 2
    rotate_left
    · have d1 : ((k0 : Int) != 2) = true := by simp; omega
      have d2 : decide (k0 = 2) = false := decide_eq_false hk2
      go_wp2
      all_goals go_meet
      all_goals exact ⟨_, rfl, by unfold Hid; rw [d2]; rfl, Below.refl _ _⟩
    have d1 : ((k0 : Int) != 2) = false := by simp; omega
    have d2 : decide (k0 = 2) = true := decide_eq_true hk2
    have D2 := Lib.hid d2
    clear hk2
    go_wp2_with fail
    refine (JO.out _ B8.out).mono ?_
    rintro e w9 ⟨rfl, b9⟩
    have B9 := Lib.hid b9
    clear b9
    go_wp2
    all_goals go_meet
    all_goals exact ⟨_, rfl, by unfold Hid; rw [D2.out]; cases ej <;> rfl, B9.out⟩
  case rest =>
  obtain ⟨q0, rfl, HQ0, hb8⟩ := hcut
  rw [← HQ0.out] at FIN
  have S0 : Hid (ShrO w8 wc (.slice none 0 0) []) := Shr.nil _ _ _ _
  have T0 : Hid (St l o hd q0 0 ([], q0)) := rfl
  have V0 : Hid (q0 = false → hd = false ∧ k0 = 2) := fun h => by
    rw [HQ0.out] at h
    cases hd
    · refine ⟨rfl, ?_⟩
      by_cases h2 : k0 = 2
      · exact h2
      · rw [decide_eq_false h2] at h; cases h
    · cases h
  have M0 : Hid (0 = ([] : List Opn).length) := rfl
  clear JO HQ0
  go_wp2
  go_loopw [14, 15, 16] (fun v t i wr => ∃ (j m : Nat) (q : Bool) (W : List Opn), j ≤ na ∧ i = .int .i64 (j : Int) ∧ t = .bool q ∧ (∃ ao cap, v = .slice ao m cap) ∧ m ≤ 2 * j ∧ Hid (m = W.length) ∧ Hid (ShrO w8 wr v W) ∧ Hid (St l o hd q0 j (W, q)) ∧ Hid (q = false → hd = false ∧ k0 = 2) ∧ Hid (Below w8.heap.size w8 wr)) (fun _ _ i _ => na - (intOf i).toNat)
  case atStart => exact ⟨0, 0, q0, [], by omega, rfl, rfl, ⟨none, 0, rfl⟩, by omega, M0, S0, T0, V0, hb8⟩
  case round =>
    clear S0 T0 V0 M0 hb8
    obtain ⟨j, m, q, W, hj, rfl, rfl, ⟨wo, wl, rfl⟩, hmj, HM, HS, HT, HVV, hbel⟩ := hrel
    by_cases hjn : j < na
    rotate_left
    · have q3 : decide (j < na) = false := by simpa using hjn
      have FW : Hid (wfin o (W, q) = FL) := by
        have h := HT.out
        unfold St at h
        rw [List.take_of_length_le (by have := HNA.out; omega)] at h
        unfold Hid
        rw [h]
        exact FIN.out
      have B9 := Lib.hid (bt B8.out hbel.out)
      have Q9 := Lib.hid (Q8.out.keeps hbel.out)
      clear HT FIN AL8 CM
      cases q
      · obtain ⟨hh, hk2⟩ := HVV.out rfl
        subst hh
        have d1 : ((k0 : Int) != 4) = true := by simp; omega
        have HW : Hid (W ++ [o] = FL) := FW.out
        obtain ⟨c0, c1, c2, c3, c4⟩ := CE8.out wr hbel.out
        have HZ := Lib.hid hbel.out.size
        clear hk2 HVV FW LA2 JX FJ
        go_wp2_with (at_builtin; refine wpList_append_enc (E := opE) Try.underlying30 op_info rfl (w0 := w8) (wp := wr) (by rfl) (.tmp 131) (.tmp 133) (by rfl) (by rfl) HS.out (G := wr.heap.size) (by rfl) rfl (c := #[.int .u8 (k0 : Int), .int .u32 (t0 : Int), .int .u8 (r0 : Int), .slice uo0 nu0 uc0, .int .i64 p0]) INO.out HM.out (by omega) (by omega) HZ.out ?_)
        rintro v6 w6 s6 vo vc rfl b6
        have BW6 := Lib.hid (hbel.out.trans b6)
        have S6 : Hid (OpL w6 (.slice vo (m + 1) vc) FL) := by rw [← HW.out]; exact s6.seq BW6.out
        have Q6 := Lib.hid (Q8.out.keeps BW6.out)
        have X6 := Lib.hid (SL.out w6 _ _ _ Q6.out S6.out)
        have B6 := Lib.hid (bt B8.out BW6.out)
        clear s6 b6 c0 c1 c2 c3 c4 HS SL
        go_wp2_with fail
        refine X6.out.mono ?_
        rintro e w10 ⟨rfl, b10⟩
        have B10 := Lib.hid (bt B6.out b10)
        obtain ⟨c0, c1, c2, c3, c4⟩ := CE8.out w10 (bt BW6.out b10)
        clear b10
        go_wp2
        go_ret
        exact ⟨rfl, B10.out⟩
      have HW : Hid (W = FL) := FW.out
      have S6 : Hid (OpL wr (.slice wo m wl) FL) := by rw [← HW.out]; exact HS.out.seq hbel.out
      have X6 := Lib.hid (SL.out wr _ _ _ Q9.out S6.out)
      clear FW HVV HS SL S6 HW
      go_wp2_with fail
      refine X6.out.mono ?_
      rintro e w10 ⟨rfl, b10⟩
      have B10 := Lib.hid (bt B9.out b10)
      have C10 := Lib.hid (bt hbel.out b10)
      obtain ⟨c0, c1, c2, c3, c4⟩ := CE8.out w10 C10.out
      clear b10 X6
      cases hd
      rotate_left
      · go_wp2
        go_ret
        exact ⟨rfl, B10.out⟩
      by_cases hk4 : k0 = 4
      rotate_left
      · have d1 : ((k0 : Int) != 4) = true := by simp; omega
        go_wp2
        go_ret
        exact ⟨rfl, B10.out⟩
      have d1 : ((k0 : Int) != 4) = false := by simp; omega
      have XX := Lib.hid (X8.out.keeps C10.out)
      have FJ2 := Lib.hid (FJ.out rfl hk4)
      go_wp2_with fail
      refine (LA2.out _ B10.out).mono ?_
      rintro e w11 ⟨rfl, b11⟩
      have B11 := Lib.hid (bt B10.out b11)
      have X11 := Lib.hid (XX.out.keeps b11)
      have J11 := Lib.hid (JX.out w11 _ X11.out)
      rw [FJ2.out] at J11
      clear b11 c0 c1 c2 c3 c4
      go_wp2_with fail
      refine J11.out.mono ?_
      rintro e w12 ⟨rfl, b12⟩
      have B12 := Lib.hid (bt B11.out b12)
      clear b12
      go_wp2
      go_ret
      exact ⟨rfl, B12.out⟩
    have q3 : decide (j < na) = true := by simpa using hjn
    have q4 : (0 : Int) ≤ (j : Int) := by omega
    have q5 : (j : Int) < (na : Int) := by omega
    have hjl : j < (livesM l l).length := by rw [← HNA.out]; exact hjn
    obtain ⟨bb, oo, u, e, hbb, hru, h0, h1, h2, h3, h4⟩ := opl_at (AL8.out) j hjl
    subst e
    obtain ⟨x, hx⟩ : ∃ x, x = (livesM l l)[j]'hjl := ⟨_, rfl⟩
    rw [← hx] at hru h0 h1 h2 h4
    have HO : Hid (∀ v : Value, opv x v = .agg #[.int .u8 (x.k : Int), .int .u32 (x.t : Int), .int .u8 (x.r : Int), v, .int .i64 x.p]) := fun v => rfl
    obtain ⟨uo, uc, rfl⟩ := hru.shape
    obtain ⟨nu, hnu⟩ : ∃ n, n = x.pl.length := ⟨_, rfl⟩
    have HNU := Lib.hid hnu
    rw [← hnu] at hru h3
    clear hnu
    have NX := Lib.hid (st_next HT.out hjl)
    rw [← hx] at NX
    have RX := Lib.hid hru
    have HKX : Hid (idO x = ⟨x.t, x.r, x.ht, x.hr⟩) := rfl
    clear hx hru
    have CX : Hid (∀ W : World, Below w8.heap.size w8 W → Calls Try.prog 17 #[.slice uo0 nu0 uc0, .slice uo nu uc] W fun e w' => e = .returned (.int .i64 (cmp o.pl x.pl)) ∧ Below W.heap.size W w') := fun W h => CM.out W _ _ (bt B8.out h) (RX.out.keeps h)
    have LW : Hid (∀ W : World, Below w8.heap.size w8 W → Calls Try.prog 18 #[.slice uo0 nu0 uc0] W fun e w' => e = .returned (.agg #[.int .u32 (tt : Int), .int .u8 (tr : Int)]) ∧ Below W.heap.size W w') := fun W h => LA2.out W (bt B8.out h)
    have INX : Hid (opE.inn w8 [.int .u8 (x.k : Int), .int .u32 (x.t : Int), .int .u8 (x.r : Int), .slice uo nu uc, .int .i64 x.p] x) := ⟨_, rfl, RX.out⟩
    obtain ⟨k, hk⟩ : ∃ z, x.k = z := ⟨_, rfl⟩
    obtain ⟨t, ht⟩ : ∃ z, x.t = z := ⟨_, rfl⟩
    obtain ⟨r, hr⟩ : ∃ z, x.r = z := ⟨_, rfl⟩
    obtain ⟨p, hp⟩ : ∃ z, x.p = z := ⟨_, rfl⟩
    rw [hk, ht, hr, hp] at HO
    rw [hk] at h0
    rw [ht] at h1
    rw [hr] at h2
    rw [hp] at h4
    rw [hk, ht, hr, hp] at INX
    have HXT : Hid (x.t = t ∧ x.r = r) := ⟨ht, hr⟩
    have FA : Hid (FiveAt w8 bb (oo + j * 5) (.int .u8 (k : Int)) (.int .u32 (t : Int)) (.int .u8 (r : Int)) (.slice uo nu uc) (.int .i64 p)) := ⟨hbb, h0, h1, h2, h3, h4⟩
    obtain ⟨cv, hcv⟩ : ∃ z, cmp o.pl x.pl = z := ⟨_, rfl⟩
    have HCV : Hid (cmp o.pl x.pl = cv) := hcv
    rw [hcv] at CX
    have FOO : Hid (∀ z ∈ ([.int .u8 (k0 : Int), .int .u32 (t0 : Int), .int .u8 (r0 : Int), .slice uo0 nu0 uc0, .int .i64 p0] : List Value), z.oneCell' = true) := opE.one INO.out
    have FOX : Hid (∀ z ∈ ([.int .u8 (k : Int), .int .u32 (t : Int), .int .u8 (r : Int), .slice uo nu uc, .int .i64 p] : List Value), z.oneCell' = true) := opE.one INX.out
    clear hk ht hr hp HO h0 h1 h2 h3 h4 hbb hcv CM LA2 JX SL FIN FJ AL8 Q8 X8 HT
    have SK : Hid (∀ w' : World, Below wr.heap.size wr w' → Below wr.heap.size wr w' ∧ w'.cell? ⟨w.heap.size, 0, none⟩ = some (.int .u8 (k0 : Int)) ∧ w'.cell? ⟨w.heap.size, 3, none⟩ = some (.slice uo0 nu0 uc0) ∧ w'.cell? ⟨bb, oo + j * 5 + 1, none⟩ = some (.int .u32 (t : Int)) ∧ w'.cell? ⟨bb, oo + j * 5 + 2, none⟩ = some (.int .u8 (r : Int)) ∧ w'.cell? ⟨bb, oo + j * 5 + 3, none⟩ = some (.slice uo nu uc)) := fun W h => by
      have a1 := CE8.out W (bt hbel.out h)
      have a2 := (FA.out.keeps (bt hbel.out h)).2
      exact ⟨h, a1.1, a1.2.2.2.1, a2.2.1, a2.2.2.1, a2.2.2.2.1⟩
    have KX := Lib.hid (fun y => show keepM hd o y = (hd || (!decide (o.k = 4) || !decide (tgt o = idO y))) from rfl)
    have HLw : Hid (m = W.length) := HM.out
    obtain ⟨csw, sow, srw⟩ := HS.out
    rw [← HM.out] at sow
    have SOw := Lib.hid sow
    have SRw := Lib.hid srw
    clear sow srw
    cases q
    rotate_left
    · have HV9 : Hid (true = false → hd = false ∧ k0 = 2) := fun h => by cases h
      go_wp2
      refine wp_region_held_drew (S := fun w' => Below wr.heap.size wr w' ∧ w'.cell? ⟨w.heap.size, 0, none⟩ = some (.int .u8 (k0 : Int)) ∧ w'.cell? ⟨w.heap.size, 3, none⟩ = some (.slice uo0 nu0 uc0) ∧ w'.cell? ⟨bb, oo + j * 5 + 1, none⟩ = some (.int .u32 (t : Int)) ∧ w'.cell? ⟨bb, oo + j * 5 + 2, none⟩ = some (.int .u8 (r : Int)) ∧ w'.cell? ⟨bb, oo + j * 5 + 3, none⟩ = some (.slice uo nu uc)) (by kernel_rfl) (SK.out _ (drew1 _)) (fun hHeld => ?_)
      refine wpAnyH_take (i := 0) (v := ?vA0) rfl (by kernel_rfl) (by kernel_rfl) (by kernel_rfl) (fun _ _ _ h => h) (Or.inl ⟨by rfl, ?yA0⟩) (by assumption) ?_
      case yA0 => intro w hSw; (try dsimp only at hSw); go_simp <;> with_reducible rfl
      try simp only [List.getElem_toArray, List.getElem_cons_zero, Act.put, List.setIfInBounds_toArray, List.set_cons_zero, List.set_cons_succ]
      refine wpAnyH_take (i := 1) (v := ?vA1) rfl (by kernel_rfl) (by kernel_rfl) (by kernel_rfl) (fun _ _ _ h => h) (Or.inl ⟨by rfl, ?yA1⟩) (by assumption) ?_
      case yA1 => intro w hSw; (try dsimp only at hSw); go_simp <;> with_reducible rfl
      try simp only [List.getElem_toArray, List.getElem_cons_succ, List.getElem_cons_zero, Act.put, List.setIfInBounds_toArray, List.set_cons_zero, List.set_cons_succ]
      refine wpAnyH_take (i := 2) (v := ?vA2) rfl (by kernel_rfl) (by kernel_rfl) (by kernel_rfl) (fun _ _ _ h => h) (Or.inl ⟨by rfl, ?yA2⟩) (by assumption) ?_
      case yA2 => intro w hSw; (try dsimp only at hSw); go_simp <;> with_reducible rfl
      try simp only [List.getElem_toArray, List.getElem_cons_succ, List.getElem_cons_zero, Act.put, List.setIfInBounds_toArray, List.set_cons_zero, List.set_cons_succ]
      refine wpAnyH_take (i := 3) (v := undef) rfl (by kernel_rfl) (by kernel_rfl) (by kernel_rfl) (fun _ _ _ h => h) (Or.inr ⟨by rfl, rfl⟩) (by assumption) ?_
      try simp only [List.getElem_toArray, List.getElem_cons_succ, List.getElem_cons_zero, Act.put, List.setIfInBounds_toArray, List.set_cons_zero, List.set_cons_succ]
      refine wpAnyH_take (i := 4) (v := undef) rfl (by kernel_rfl) (by kernel_rfl) (by kernel_rfl) (fun _ _ _ h => h) (Or.inr ⟨by rfl, rfl⟩) (by assumption) ?_
      try simp only [List.getElem_toArray, List.getElem_cons_succ, List.getElem_cons_zero, Act.put, List.setIfInBounds_toArray, List.set_cons_zero, List.set_cons_succ]
      refine wpAnyH_take (i := 5) (v := undef) rfl (by kernel_rfl) (by kernel_rfl) (by kernel_rfl) (fun _ _ _ h => h) (Or.inr ⟨by rfl, rfl⟩) (by assumption) ?_
      try simp only [List.getElem_toArray, List.getElem_cons_succ, List.getElem_cons_zero, Act.put, List.setIfInBounds_toArray, List.set_cons_zero, List.set_cons_succ]
      refine wpAnyH_take (i := 6) (v := undef) rfl (by kernel_rfl) (by kernel_rfl) (by kernel_rfl) (fun _ _ _ h => h) (Or.inr ⟨by rfl, rfl⟩) (by assumption) ?_
      try simp only [List.getElem_toArray, List.getElem_cons_succ, List.getElem_cons_zero, Act.put, List.setIfInBounds_toArray, List.set_cons_zero, List.set_cons_succ]
      refine wpAnyH_take (i := 7) (v := undef) rfl (by kernel_rfl) (by kernel_rfl) (by kernel_rfl) (fun _ _ _ h => h) (Or.inr ⟨by rfl, rfl⟩) (by assumption) ?_
      try simp only [List.getElem_toArray, List.getElem_cons_succ, List.getElem_cons_zero, Act.put, List.setIfInBounds_toArray, List.set_cons_zero, List.set_cons_succ]
      refine wpAnyH_take (i := 8) (v := undef) rfl (by kernel_rfl) (by kernel_rfl) (by kernel_rfl) (fun _ _ _ h => h) (Or.inr ⟨by rfl, rfl⟩) (by assumption) ?_
      try simp only [List.getElem_toArray, List.getElem_cons_succ, List.getElem_cons_zero, Act.put, List.setIfInBounds_toArray, List.set_cons_zero, List.set_cons_succ]
      refine wpAnyH_take (i := 9) (v := undef) rfl (by kernel_rfl) (by kernel_rfl) (by kernel_rfl) (fun _ _ _ h => h) (Or.inr ⟨by rfl, rfl⟩) (by assumption) ?_
      try simp only [List.getElem_toArray, List.getElem_cons_succ, List.getElem_cons_zero, Act.put, List.setIfInBounds_toArray, List.set_cons_zero, List.set_cons_succ]
      refine wpAnyH_take (i := 10) (v := undef) rfl (by kernel_rfl) (by kernel_rfl) (by kernel_rfl) (fun _ _ _ h => h) (Or.inr ⟨by rfl, rfl⟩) (by assumption) ?_
      try simp only [List.getElem_toArray, List.getElem_cons_succ, List.getElem_cons_zero, Act.put, List.setIfInBounds_toArray, List.set_cons_zero, List.set_cons_succ]
      refine wpAnyH_take (i := 11) (v := undef) rfl (by kernel_rfl) (by kernel_rfl) (by kernel_rfl) (fun _ _ _ h => h) (Or.inr ⟨by rfl, rfl⟩) (by assumption) ?_
      try simp only [List.getElem_toArray, List.getElem_cons_succ, List.getElem_cons_zero, Act.put, List.setIfInBounds_toArray, List.set_cons_zero, List.set_cons_succ]
      refine wpAnyH_take (i := 12) (v := ?vA12) rfl (by kernel_rfl) (by kernel_rfl) (by kernel_rfl) (fun _ _ _ h => h) (Or.inl ⟨by rfl, ?yA12⟩) (by assumption) ?_
      case yA12 => intro w hSw; (try dsimp only at hSw); go_simp <;> with_reducible rfl
      try simp only [List.getElem_toArray, List.getElem_cons_succ, List.getElem_cons_zero, Act.put, List.setIfInBounds_toArray, List.set_cons_zero, List.set_cons_succ]
      refine wpAnyH_done (by kernel_rfl) ?_ _
      have hP := hHeld.1
      clear hHeld CX
      cases hd
      rotate_left
      · have hkp : keepM true o x = true := rfl
        have NX9 : Hid (St l o true q0 (j + 1) (W ++ [x], true)) := by
          have h := NX.out
          unfold Hid
          rw [show wstep true o (W, true) x = (W ++ [x], true) by simp [wstep, hkp]] at h
          exact h
        clear NX KX hkp
        go_wp2
        refine wp_region_held_drew (S := fun w' => Below wr.heap.size wr w' ∧ w'.cell? ⟨w.heap.size, 0, none⟩ = some (.int .u8 (k0 : Int)) ∧ w'.cell? ⟨w.heap.size, 3, none⟩ = some (.slice uo0 nu0 uc0) ∧ w'.cell? ⟨bb, oo + j * 5 + 1, none⟩ = some (.int .u32 (t : Int)) ∧ w'.cell? ⟨bb, oo + j * 5 + 2, none⟩ = some (.int .u8 (r : Int)) ∧ w'.cell? ⟨bb, oo + j * 5 + 3, none⟩ = some (.slice uo nu uc)) (by kernel_rfl) (SK.out _ (bt hP (drew1 _))) (fun hHeld => ?_)
        refine wpAnyH_take (i := 0) (v := ?vAa0) rfl (by kernel_rfl) (by kernel_rfl) (by kernel_rfl) (fun _ _ _ h => h) (Or.inl ⟨by rfl, ?yAa0⟩) (by assumption) ?_
        case yAa0 => intro w hSw; (try dsimp only at hSw); go_simp <;> with_reducible rfl
        try simp only [List.getElem_toArray, List.getElem_cons_zero, Act.put, List.setIfInBounds_toArray, List.set_cons_zero, List.set_cons_succ]
        refine wpAnyH_take (i := 1) (v := ?vAa1) rfl (by kernel_rfl) (by kernel_rfl) (by kernel_rfl) (fun _ _ _ h => h) (Or.inl ⟨by rfl, ?yAa1⟩) (by assumption) ?_
        case yAa1 => intro w hSw; (try dsimp only at hSw); go_simp <;> with_reducible rfl
        try simp only [List.getElem_toArray, List.getElem_cons_succ, List.getElem_cons_zero, Act.put, List.setIfInBounds_toArray, List.set_cons_zero, List.set_cons_succ]
        refine wpAnyH_take (i := 2) (v := undef) rfl (by kernel_rfl) (by kernel_rfl) (by kernel_rfl) (fun _ _ _ h => h) (Or.inr ⟨by rfl, rfl⟩) (by assumption) ?_
        try simp only [List.getElem_toArray, List.getElem_cons_succ, List.getElem_cons_zero, Act.put, List.setIfInBounds_toArray, List.set_cons_zero, List.set_cons_succ]
        refine wpAnyH_take (i := 3) (v := undef) rfl (by kernel_rfl) (by kernel_rfl) (by kernel_rfl) (fun _ _ _ h => h) (Or.inr ⟨by rfl, rfl⟩) (by assumption) ?_
        try simp only [List.getElem_toArray, List.getElem_cons_succ, List.getElem_cons_zero, Act.put, List.setIfInBounds_toArray, List.set_cons_zero, List.set_cons_succ]
        refine wpAnyH_take (i := 4) (v := undef) rfl (by kernel_rfl) (by kernel_rfl) (by kernel_rfl) (fun _ _ _ h => h) (Or.inr ⟨by rfl, rfl⟩) (by assumption) ?_
        try simp only [List.getElem_toArray, List.getElem_cons_succ, List.getElem_cons_zero, Act.put, List.setIfInBounds_toArray, List.set_cons_zero, List.set_cons_succ]
        refine wpAnyH_take (i := 5) (v := ?vAa5) rfl (by kernel_rfl) (by kernel_rfl) (by kernel_rfl) (fun _ _ _ h => h) (Or.inl ⟨by rfl, ?yAa5⟩) (by assumption) ?_
        case yAa5 => intro w hSw; (try dsimp only at hSw); go_simp <;> with_reducible rfl
        try simp only [List.getElem_toArray, List.getElem_cons_succ, List.getElem_cons_zero, Act.put, List.setIfInBounds_toArray, List.set_cons_zero, List.set_cons_succ]
        refine wpAnyH_take (i := 6) (v := ?vAa6) rfl (by kernel_rfl) (by kernel_rfl) (by kernel_rfl) (fun _ _ _ h => h) (Or.inl ⟨by rfl, ?yAa6⟩) (by assumption) ?_
        case yAa6 => intro w hSw; (try dsimp only at hSw); go_simp <;> with_reducible rfl
        try simp only [List.getElem_toArray, List.getElem_cons_succ, List.getElem_cons_zero, Act.put, List.setIfInBounds_toArray, List.set_cons_zero, List.set_cons_succ]
        refine wpAnyH_take (i := 7) (v := undef) rfl (by kernel_rfl) (by kernel_rfl) (by kernel_rfl) (fun _ _ _ h => h) (Or.inr ⟨by rfl, rfl⟩) (by assumption) ?_
        try simp only [List.getElem_toArray, List.getElem_cons_succ, List.getElem_cons_zero, Act.put, List.setIfInBounds_toArray, List.set_cons_zero, List.set_cons_succ]
        refine wpAnyH_take (i := 8) (v := undef) rfl (by kernel_rfl) (by kernel_rfl) (by kernel_rfl) (fun _ _ _ h => h) (Or.inr ⟨by rfl, rfl⟩) (by assumption) ?_
        try simp only [List.getElem_toArray, List.getElem_cons_succ, List.getElem_cons_zero, Act.put, List.setIfInBounds_toArray, List.set_cons_zero, List.set_cons_succ]
        refine wpAnyH_take (i := 9) (v := undef) rfl (by kernel_rfl) (by kernel_rfl) (by kernel_rfl) (fun _ _ _ h => h) (Or.inr ⟨by rfl, rfl⟩) (by assumption) ?_
        try simp only [List.getElem_toArray, List.getElem_cons_succ, List.getElem_cons_zero, Act.put, List.setIfInBounds_toArray, List.set_cons_zero, List.set_cons_succ]
        refine wpAnyH_take (i := 10) (v := undef) rfl (by kernel_rfl) (by kernel_rfl) (by kernel_rfl) (fun _ _ _ h => h) (Or.inr ⟨by rfl, rfl⟩) (by assumption) ?_
        try simp only [List.getElem_toArray, List.getElem_cons_succ, List.getElem_cons_zero, Act.put, List.setIfInBounds_toArray, List.set_cons_zero, List.set_cons_succ]
        refine wpAnyH_take (i := 11) (v := undef) rfl (by kernel_rfl) (by kernel_rfl) (by kernel_rfl) (fun _ _ _ h => h) (Or.inr ⟨by rfl, rfl⟩) (by assumption) ?_
        try simp only [List.getElem_toArray, List.getElem_cons_succ, List.getElem_cons_zero, Act.put, List.setIfInBounds_toArray, List.set_cons_zero, List.set_cons_succ]
        refine wpAnyH_take (i := 12) (v := undef) rfl (by kernel_rfl) (by kernel_rfl) (by kernel_rfl) (fun _ _ _ h => h) (Or.inr ⟨by rfl, rfl⟩) (by assumption) ?_
        try simp only [List.getElem_toArray, List.getElem_cons_succ, List.getElem_cons_zero, Act.put, List.setIfInBounds_toArray, List.set_cons_zero, List.set_cons_succ]
        refine wpAnyH_take (i := 13) (v := undef) rfl (by kernel_rfl) (by kernel_rfl) (by kernel_rfl) (fun _ _ _ h => h) (Or.inr ⟨by rfl, rfl⟩) (by assumption) ?_
        try simp only [List.getElem_toArray, List.getElem_cons_succ, List.getElem_cons_zero, Act.put, List.setIfInBounds_toArray, List.set_cons_zero, List.set_cons_succ]
        refine wpAnyH_take (i := 14) (v := undef) rfl (by kernel_rfl) (by kernel_rfl) (by kernel_rfl) (fun _ _ _ h => h) (Or.inr ⟨by rfl, rfl⟩) (by assumption) ?_
        try simp only [List.getElem_toArray, List.getElem_cons_succ, List.getElem_cons_zero, Act.put, List.setIfInBounds_toArray, List.set_cons_zero, List.set_cons_succ]
        refine wpAnyH_take (i := 15) (v := undef) rfl (by kernel_rfl) (by kernel_rfl) (by kernel_rfl) (fun _ _ _ h => h) (Or.inr ⟨by rfl, rfl⟩) (by assumption) ?_
        try simp only [List.getElem_toArray, List.getElem_cons_succ, List.getElem_cons_zero, Act.put, List.setIfInBounds_toArray, List.set_cons_zero, List.set_cons_succ]
        refine wpAnyH_take (i := 16) (v := ?vAa16) rfl (by kernel_rfl) (by kernel_rfl) (by kernel_rfl) (fun _ _ _ h => h) (Or.inl ⟨by rfl, ?yAa16⟩) (by assumption) ?_
        case yAa16 => intro w hSw; (try dsimp only at hSw); go_simp <;> with_reducible rfl
        try simp only [List.getElem_toArray, List.getElem_cons_succ, List.getElem_cons_zero, Act.put, List.setIfInBounds_toArray, List.set_cons_zero, List.set_cons_succ]
        refine wpAnyH_done (by kernel_rfl) ?_ _
        have hP8 := bt hbel.out hP
        have hq := hHeld.1
        have hz8 : Below w8.heap.size w8 wr := hbel.out
        have hq8 := bt hz8 hq
        obtain ⟨y0, y1, y2, y3, y4⟩ := (FA.out.keeps hq8).2
        have rz := Below.refl wr.heap.size wr
        clear hHeld
        go_wp2_with (at_builtin; refine wpList_append_sees rfl (.tmp 122) (.tmp 127) 30 27 rfl Try.underlying30 op_info rfl (by decide) w8.heap.size _ (m) csw rfl (own_stays SOw.out ?hb) _ 1 [.int .u8 (k : Int), .int .u32 (t : Int), .int .u8 (r : Int), .slice uo nu uc, .int .i64 p] rfl (sees_blk5 (e := 27) ?hG) FOX.out ?k1 ?k2 ?hz ?_)
        case k1 => omega
        case k2 => omega
        case hb => repeat' (first | assumption | (with_reducible refine Below.drew ?_) | (with_reducible refine below_draw ?_ _) | (with_reducible refine alloc_bs ?_ _) | fail)
        case hG => repeat' (first | ((with_reducible refine blk_new ?_); (first | rfl | (simp; done))) | (with_reducible refine blk_drew ?_) | (with_reducible refine blk_old ?_))
        case hz => (refine Below.size (?_ : Below w8.heap.size w8 _); repeat' (first | assumption | (with_reducible refine Below.drew ?_) | (with_reducible refine below_draw ?_ _) | (with_reducible refine alloc_bs ?_ _) | fail))
        rintro v7Aa w7Aa o7Aa g7Aa b7Aa
        have hb7Aa : Below w8.heap.size w8 w7Aa := Below.trans (by repeat' (first | assumption | (with_reducible refine Below.drew ?_) | (with_reducible refine below_draw ?_ _) | (with_reducible refine alloc_bs ?_ _) | fail)) b7Aa
        have S7Aa : Hid (ShrO w8 w7Aa v7Aa (W ++ [x])) := ⟨_, by rw [List.length_append, ← HLw.out, List.length_singleton]; exact o7Aa, Enc.rows_snoc SRw.out INX.out⟩
        obtain ⟨vo7Aa, vc7Aa, rfl⟩ : ∃ ao cap, v7Aa = .slice ao (m + 1) cap := Sees.shape (Sees.own o7Aa)
        have B7Aa := Lib.hid hb7Aa
        have HM9 : Hid (m + 1 = (W ++ [x]).length) := by unfold Hid; rw [List.length_append, List.length_singleton, ← HLw.out]
        clear o7Aa g7Aa b7Aa hb7Aa y0 y1 y2 y3 y4
        clear hq hq8 hz8 rz
        go_wp2
        go_roundw
        case rel => exact ⟨j + 1, m + 1, true, W ++ [x], by omega, by go_num, rfl, ⟨vo7Aa, vc7Aa, rfl⟩, by omega, HM9, S7Aa, NX9, HV9, B7Aa⟩
        case measure => simp [intOf]; omega
      by_cases hk4 : k0 = 4
      rotate_left
      · have d1 : ((k0 : Int) != 4) = true := by simp; omega
        have hkp : keepM false o x = true := by unfold keepM; rw [HK0.out, decide_eq_false (show ¬ k0 = 4 by assumption)]; rfl
        have NX9 : Hid (St l o false q0 (j + 1) (W ++ [x], true)) := by
          have h := NX.out
          unfold Hid
          rw [show wstep false o (W, true) x = (W ++ [x], true) by simp [wstep, hkp]] at h
          exact h
        clear NX KX hkp
        go_wp2
        refine wp_region_held_drew (S := fun w' => Below wr.heap.size wr w' ∧ w'.cell? ⟨w.heap.size, 0, none⟩ = some (.int .u8 (k0 : Int)) ∧ w'.cell? ⟨w.heap.size, 3, none⟩ = some (.slice uo0 nu0 uc0) ∧ w'.cell? ⟨bb, oo + j * 5 + 1, none⟩ = some (.int .u32 (t : Int)) ∧ w'.cell? ⟨bb, oo + j * 5 + 2, none⟩ = some (.int .u8 (r : Int)) ∧ w'.cell? ⟨bb, oo + j * 5 + 3, none⟩ = some (.slice uo nu uc)) (by kernel_rfl) (SK.out _ (bt hP (drew1 _))) (fun hHeld => ?_)
        refine wpAnyH_take (i := 0) (v := ?vAb0) rfl (by kernel_rfl) (by kernel_rfl) (by kernel_rfl) (fun _ _ _ h => h) (Or.inl ⟨by rfl, ?yAb0⟩) (by assumption) ?_
        case yAb0 => intro w hSw; (try dsimp only at hSw); go_simp <;> with_reducible rfl
        try simp only [List.getElem_toArray, List.getElem_cons_zero, Act.put, List.setIfInBounds_toArray, List.set_cons_zero, List.set_cons_succ]
        refine wpAnyH_take (i := 1) (v := ?vAb1) rfl (by kernel_rfl) (by kernel_rfl) (by kernel_rfl) (fun _ _ _ h => h) (Or.inl ⟨by rfl, ?yAb1⟩) (by assumption) ?_
        case yAb1 => intro w hSw; (try dsimp only at hSw); go_simp <;> with_reducible rfl
        try simp only [List.getElem_toArray, List.getElem_cons_succ, List.getElem_cons_zero, Act.put, List.setIfInBounds_toArray, List.set_cons_zero, List.set_cons_succ]
        refine wpAnyH_take (i := 2) (v := ?vAb2) rfl (by kernel_rfl) (by kernel_rfl) (by kernel_rfl) (fun _ _ _ h => h) (Or.inl ⟨by rfl, ?yAb2⟩) (by assumption) ?_
        case yAb2 => intro w hSw; (try dsimp only at hSw); go_simp <;> with_reducible rfl
        try simp only [List.getElem_toArray, List.getElem_cons_succ, List.getElem_cons_zero, Act.put, List.setIfInBounds_toArray, List.set_cons_zero, List.set_cons_succ]
        refine wpAnyH_take (i := 3) (v := ?vAb3) rfl (by kernel_rfl) (by kernel_rfl) (by kernel_rfl) (fun _ _ _ h => h) (Or.inl ⟨by rfl, ?yAb3⟩) (by assumption) ?_
        case yAb3 => intro w hSw; (try dsimp only at hSw); go_simp <;> with_reducible rfl
        try simp only [List.getElem_toArray, List.getElem_cons_succ, List.getElem_cons_zero, Act.put, List.setIfInBounds_toArray, List.set_cons_zero, List.set_cons_succ]
        refine wpAnyH_take (i := 4) (v := ?vAb4) rfl (by kernel_rfl) (by kernel_rfl) (by kernel_rfl) (fun _ _ _ h => h) (Or.inl ⟨by rfl, ?yAb4⟩) (by assumption) ?_
        case yAb4 => intro w hSw; (try dsimp only at hSw); go_simp <;> with_reducible rfl
        try simp only [List.getElem_toArray, List.getElem_cons_succ, List.getElem_cons_zero, Act.put, List.setIfInBounds_toArray, List.set_cons_zero, List.set_cons_succ]
        refine wpAnyH_take (i := 5) (v := ?vAb5) rfl (by kernel_rfl) (by kernel_rfl) (by kernel_rfl) (fun _ _ _ h => h) (Or.inl ⟨by rfl, ?yAb5⟩) (by assumption) ?_
        case yAb5 => intro w hSw; (try dsimp only at hSw); go_simp <;> with_reducible rfl
        try simp only [List.getElem_toArray, List.getElem_cons_succ, List.getElem_cons_zero, Act.put, List.setIfInBounds_toArray, List.set_cons_zero, List.set_cons_succ]
        refine wpAnyH_take (i := 6) (v := ?vAb6) rfl (by kernel_rfl) (by kernel_rfl) (by kernel_rfl) (fun _ _ _ h => h) (Or.inl ⟨by rfl, ?yAb6⟩) (by assumption) ?_
        case yAb6 => intro w hSw; (try dsimp only at hSw); go_simp <;> with_reducible rfl
        try simp only [List.getElem_toArray, List.getElem_cons_succ, List.getElem_cons_zero, Act.put, List.setIfInBounds_toArray, List.set_cons_zero, List.set_cons_succ]
        refine wpAnyH_take (i := 7) (v := undef) rfl (by kernel_rfl) (by kernel_rfl) (by kernel_rfl) (fun _ _ _ h => h) (Or.inr ⟨by rfl, rfl⟩) (by assumption) ?_
        try simp only [List.getElem_toArray, List.getElem_cons_succ, List.getElem_cons_zero, Act.put, List.setIfInBounds_toArray, List.set_cons_zero, List.set_cons_succ]
        refine wpAnyH_take (i := 8) (v := undef) rfl (by kernel_rfl) (by kernel_rfl) (by kernel_rfl) (fun _ _ _ h => h) (Or.inr ⟨by rfl, rfl⟩) (by assumption) ?_
        try simp only [List.getElem_toArray, List.getElem_cons_succ, List.getElem_cons_zero, Act.put, List.setIfInBounds_toArray, List.set_cons_zero, List.set_cons_succ]
        refine wpAnyH_take (i := 9) (v := undef) rfl (by kernel_rfl) (by kernel_rfl) (by kernel_rfl) (fun _ _ _ h => h) (Or.inr ⟨by rfl, rfl⟩) (by assumption) ?_
        try simp only [List.getElem_toArray, List.getElem_cons_succ, List.getElem_cons_zero, Act.put, List.setIfInBounds_toArray, List.set_cons_zero, List.set_cons_succ]
        refine wpAnyH_take (i := 10) (v := undef) rfl (by kernel_rfl) (by kernel_rfl) (by kernel_rfl) (fun _ _ _ h => h) (Or.inr ⟨by rfl, rfl⟩) (by assumption) ?_
        try simp only [List.getElem_toArray, List.getElem_cons_succ, List.getElem_cons_zero, Act.put, List.setIfInBounds_toArray, List.set_cons_zero, List.set_cons_succ]
        refine wpAnyH_take (i := 11) (v := undef) rfl (by kernel_rfl) (by kernel_rfl) (by kernel_rfl) (fun _ _ _ h => h) (Or.inr ⟨by rfl, rfl⟩) (by assumption) ?_
        try simp only [List.getElem_toArray, List.getElem_cons_succ, List.getElem_cons_zero, Act.put, List.setIfInBounds_toArray, List.set_cons_zero, List.set_cons_succ]
        refine wpAnyH_take (i := 12) (v := undef) rfl (by kernel_rfl) (by kernel_rfl) (by kernel_rfl) (fun _ _ _ h => h) (Or.inr ⟨by rfl, rfl⟩) (by assumption) ?_
        try simp only [List.getElem_toArray, List.getElem_cons_succ, List.getElem_cons_zero, Act.put, List.setIfInBounds_toArray, List.set_cons_zero, List.set_cons_succ]
        refine wpAnyH_take (i := 13) (v := undef) rfl (by kernel_rfl) (by kernel_rfl) (by kernel_rfl) (fun _ _ _ h => h) (Or.inr ⟨by rfl, rfl⟩) (by assumption) ?_
        try simp only [List.getElem_toArray, List.getElem_cons_succ, List.getElem_cons_zero, Act.put, List.setIfInBounds_toArray, List.set_cons_zero, List.set_cons_succ]
        refine wpAnyH_take (i := 14) (v := undef) rfl (by kernel_rfl) (by kernel_rfl) (by kernel_rfl) (fun _ _ _ h => h) (Or.inr ⟨by rfl, rfl⟩) (by assumption) ?_
        try simp only [List.getElem_toArray, List.getElem_cons_succ, List.getElem_cons_zero, Act.put, List.setIfInBounds_toArray, List.set_cons_zero, List.set_cons_succ]
        refine wpAnyH_take (i := 15) (v := undef) rfl (by kernel_rfl) (by kernel_rfl) (by kernel_rfl) (fun _ _ _ h => h) (Or.inr ⟨by rfl, rfl⟩) (by assumption) ?_
        try simp only [List.getElem_toArray, List.getElem_cons_succ, List.getElem_cons_zero, Act.put, List.setIfInBounds_toArray, List.set_cons_zero, List.set_cons_succ]
        refine wpAnyH_take (i := 16) (v := ?vAb16) rfl (by kernel_rfl) (by kernel_rfl) (by kernel_rfl) (fun _ _ _ h => h) (Or.inl ⟨by rfl, ?yAb16⟩) (by assumption) ?_
        case yAb16 => intro w hSw; (try dsimp only at hSw); go_simp <;> with_reducible rfl
        try simp only [List.getElem_toArray, List.getElem_cons_succ, List.getElem_cons_zero, Act.put, List.setIfInBounds_toArray, List.set_cons_zero, List.set_cons_succ]
        refine wpAnyH_done (by kernel_rfl) ?_ _
        have hP8 := bt hbel.out hP
        have hq := hHeld.1
        have hz8 : Below w8.heap.size w8 wr := hbel.out
        have hq8 := bt hz8 hq
        obtain ⟨y0, y1, y2, y3, y4⟩ := (FA.out.keeps hq8).2
        have rz := Below.refl wr.heap.size wr
        clear hHeld
        go_wp2_with (at_builtin; refine wpList_append_sees rfl (.tmp 122) (.tmp 127) 30 27 rfl Try.underlying30 op_info rfl (by decide) w8.heap.size _ (m) csw rfl (own_stays SOw.out ?hb) _ 1 [.int .u8 (k : Int), .int .u32 (t : Int), .int .u8 (r : Int), .slice uo nu uc, .int .i64 p] rfl (sees_blk5 (e := 27) ?hG) FOX.out ?k1 ?k2 ?hz ?_)
        case k1 => omega
        case k2 => omega
        case hb => repeat' (first | assumption | (with_reducible refine Below.drew ?_) | (with_reducible refine below_draw ?_ _) | (with_reducible refine alloc_bs ?_ _) | fail)
        case hG => repeat' (first | ((with_reducible refine blk_new ?_); (first | rfl | (simp; done))) | (with_reducible refine blk_drew ?_) | (with_reducible refine blk_old ?_))
        case hz => (refine Below.size (?_ : Below w8.heap.size w8 _); repeat' (first | assumption | (with_reducible refine Below.drew ?_) | (with_reducible refine below_draw ?_ _) | (with_reducible refine alloc_bs ?_ _) | fail))
        rintro v7Ab w7Ab o7Ab g7Ab b7Ab
        have hb7Ab : Below w8.heap.size w8 w7Ab := Below.trans (by repeat' (first | assumption | (with_reducible refine Below.drew ?_) | (with_reducible refine below_draw ?_ _) | (with_reducible refine alloc_bs ?_ _) | fail)) b7Ab
        have S7Ab : Hid (ShrO w8 w7Ab v7Ab (W ++ [x])) := ⟨_, by rw [List.length_append, ← HLw.out, List.length_singleton]; exact o7Ab, Enc.rows_snoc SRw.out INX.out⟩
        obtain ⟨vo7Ab, vc7Ab, rfl⟩ : ∃ ao cap, v7Ab = .slice ao (m + 1) cap := Sees.shape (Sees.own o7Ab)
        have B7Ab := Lib.hid hb7Ab
        have HM9 : Hid (m + 1 = (W ++ [x]).length) := by unfold Hid; rw [List.length_append, List.length_singleton, ← HLw.out]
        clear o7Ab g7Ab b7Ab hb7Ab y0 y1 y2 y3 y4
        clear hq hq8 hz8 rz
        go_wp2
        go_roundw
        case rel => exact ⟨j + 1, m + 1, true, W ++ [x], by omega, by go_num, rfl, ⟨vo7Ab, vc7Ab, rfl⟩, by omega, HM9, S7Ab, NX9, HV9, B7Ab⟩
        case measure => simp [intOf]; omega
      have d1 : ((k0 : Int) != 4) = false := by simp; omega
      have HK4 : Hid (k0 = 4) := hk4
      clear hk4
      by_cases heq1 : t = tt
      rotate_left
      · skip
        have HNE : Hid (¬ tgt o = idO x) := fun e => by
          rw [Id.eq_iff] at e
          have e1 : (tgt o).t = x.t := e.1
          have e2 : (tgt o).r = x.r := e.2
          rw [HTG.out.1, HXT.out.1] at e1
          rw [HTG.out.2, HXT.out.2] at e2
          omega
        have hkp : keepM false o x = true := by unfold keepM; rw [decide_eq_false HNE.out]; simp
        have NX9 : Hid (St l o false q0 (j + 1) (W ++ [x], true)) := by
          have h := NX.out
          unfold Hid
          rw [show wstep false o (W, true) x = (W ++ [x], true) by simp [wstep, hkp]] at h
          exact h
        have d2 : ((tt : Int) == (t : Int)) = false := by simp; omega
        have d3 : ((tt : Int) != (t : Int)) = true := by simp; omega
        clear NX KX hkp
        go_wp2
        refine wp_region_held_drew (S := fun w' => Below wr.heap.size wr w' ∧ w'.cell? ⟨w.heap.size, 0, none⟩ = some (.int .u8 (k0 : Int)) ∧ w'.cell? ⟨w.heap.size, 3, none⟩ = some (.slice uo0 nu0 uc0) ∧ w'.cell? ⟨bb, oo + j * 5 + 1, none⟩ = some (.int .u32 (t : Int)) ∧ w'.cell? ⟨bb, oo + j * 5 + 2, none⟩ = some (.int .u8 (r : Int)) ∧ w'.cell? ⟨bb, oo + j * 5 + 3, none⟩ = some (.slice uo nu uc)) (by kernel_rfl) (SK.out _ (bt hP (drew1 _))) (fun hHeld => ?_)
        refine wpAnyH_take (i := 0) (v := ?vAc0) rfl (by kernel_rfl) (by kernel_rfl) (by kernel_rfl) (fun _ _ _ h => h) (Or.inl ⟨by rfl, ?yAc0⟩) (by assumption) ?_
        case yAc0 => intro w hSw; (try dsimp only at hSw); go_simp <;> with_reducible rfl
        try simp only [List.getElem_toArray, List.getElem_cons_zero, Act.put, List.setIfInBounds_toArray, List.set_cons_zero, List.set_cons_succ]
        refine wpAnyH_take (i := 1) (v := ?vAc1) rfl (by kernel_rfl) (by kernel_rfl) (by kernel_rfl) (fun _ _ _ h => h) (Or.inl ⟨by rfl, ?yAc1⟩) (by assumption) ?_
        case yAc1 => intro w hSw; (try dsimp only at hSw); go_simp <;> with_reducible rfl
        try simp only [List.getElem_toArray, List.getElem_cons_succ, List.getElem_cons_zero, Act.put, List.setIfInBounds_toArray, List.set_cons_zero, List.set_cons_succ]
        refine wpAnyH_take (i := 2) (v := ?vAc2) rfl (by kernel_rfl) (by kernel_rfl) (by kernel_rfl) (fun _ _ _ h => h) (Or.inl ⟨by rfl, ?yAc2⟩) (by assumption) ?_
        case yAc2 => intro w hSw; (try dsimp only at hSw); go_simp <;> with_reducible rfl
        try simp only [List.getElem_toArray, List.getElem_cons_succ, List.getElem_cons_zero, Act.put, List.setIfInBounds_toArray, List.set_cons_zero, List.set_cons_succ]
        refine wpAnyH_take (i := 3) (v := ?vAc3) rfl (by kernel_rfl) (by kernel_rfl) (by kernel_rfl) (fun _ _ _ h => h) (Or.inl ⟨by rfl, ?yAc3⟩) (by assumption) ?_
        case yAc3 => intro w hSw; (try dsimp only at hSw); go_simp <;> with_reducible rfl
        try simp only [List.getElem_toArray, List.getElem_cons_succ, List.getElem_cons_zero, Act.put, List.setIfInBounds_toArray, List.set_cons_zero, List.set_cons_succ]
        refine wpAnyH_take (i := 4) (v := ?vAc4) rfl (by kernel_rfl) (by kernel_rfl) (by kernel_rfl) (fun _ _ _ h => h) (Or.inl ⟨by rfl, ?yAc4⟩) (by assumption) ?_
        case yAc4 => intro w hSw; (try dsimp only at hSw); go_simp <;> with_reducible rfl
        try simp only [List.getElem_toArray, List.getElem_cons_succ, List.getElem_cons_zero, Act.put, List.setIfInBounds_toArray, List.set_cons_zero, List.set_cons_succ]
        refine wpAnyH_take (i := 5) (v := ?vAc5) rfl (by kernel_rfl) (by kernel_rfl) (by kernel_rfl) (fun _ _ _ h => h) (Or.inl ⟨by rfl, ?yAc5⟩) (by assumption) ?_
        case yAc5 => intro w hSw; (try dsimp only at hSw); go_simp <;> with_reducible rfl
        try simp only [List.getElem_toArray, List.getElem_cons_succ, List.getElem_cons_zero, Act.put, List.setIfInBounds_toArray, List.set_cons_zero, List.set_cons_succ]
        refine wpAnyH_take (i := 6) (v := ?vAc6) rfl (by kernel_rfl) (by kernel_rfl) (by kernel_rfl) (fun _ _ _ h => h) (Or.inl ⟨by rfl, ?yAc6⟩) (by assumption) ?_
        case yAc6 => intro w hSw; (try dsimp only at hSw); go_simp <;> with_reducible rfl
        try simp only [List.getElem_toArray, List.getElem_cons_succ, List.getElem_cons_zero, Act.put, List.setIfInBounds_toArray, List.set_cons_zero, List.set_cons_succ]
        refine wpAnyH_take (i := 7) (v := ?vAc7) rfl (by kernel_rfl) (by kernel_rfl) (by kernel_rfl) (fun _ _ _ h => h) (Or.inl ⟨by rfl, ?yAc7⟩) (by assumption) ?_
        case yAc7 => intro w hSw; (try dsimp only at hSw); go_simp <;> with_reducible rfl
        try simp only [List.getElem_toArray, List.getElem_cons_succ, List.getElem_cons_zero, Act.put, List.setIfInBounds_toArray, List.set_cons_zero, List.set_cons_succ]
        refine wpAnyH_take (i := 8) (v := ?vAc8) rfl (by kernel_rfl) (by kernel_rfl) (by kernel_rfl) (fun _ _ _ h => h) (Or.inl ⟨by rfl, ?yAc8⟩) (by assumption) ?_
        case yAc8 => intro w hSw; (try dsimp only at hSw); go_simp <;> with_reducible rfl
        try simp only [List.getElem_toArray, List.getElem_cons_succ, List.getElem_cons_zero, Act.put, List.setIfInBounds_toArray, List.set_cons_zero, List.set_cons_succ]
        refine wpAnyH_take (i := 10) (v := ?vAc10) rfl (by kernel_rfl) (by kernel_rfl) (by kernel_rfl) (fun _ _ _ h => h) (Or.inl ⟨by rfl, ?yAc10⟩) (by assumption) ?_
        case yAc10 => intro w hSw; (try dsimp only at hSw); go_simp <;> with_reducible rfl
        try simp only [List.getElem_toArray, List.getElem_cons_succ, List.getElem_cons_zero, Act.put, List.setIfInBounds_toArray, List.set_cons_zero, List.set_cons_succ]
        refine wpAnyH_take (i := 11) (v := ?vAc11) rfl (by kernel_rfl) (by kernel_rfl) (by kernel_rfl) (fun _ _ _ h => h) (Or.inl ⟨by rfl, ?yAc11⟩) (by assumption) ?_
        case yAc11 => intro w hSw; (try dsimp only at hSw); go_simp <;> with_reducible rfl
        try simp only [List.getElem_toArray, List.getElem_cons_succ, List.getElem_cons_zero, Act.put, List.setIfInBounds_toArray, List.set_cons_zero, List.set_cons_succ]
        refine wpAnyH_take (i := 12) (v := ?vAc12) rfl (by kernel_rfl) (by kernel_rfl) (by kernel_rfl) (fun _ _ _ h => h) (Or.inl ⟨by rfl, ?yAc12⟩) (by assumption) ?_
        case yAc12 => intro w hSw; (try dsimp only at hSw); go_simp <;> with_reducible rfl
        try simp only [List.getElem_toArray, List.getElem_cons_succ, List.getElem_cons_zero, Act.put, List.setIfInBounds_toArray, List.set_cons_zero, List.set_cons_succ]
        refine wpAnyH_take (i := 13) (v := ?vAc13) rfl (by kernel_rfl) (by kernel_rfl) (by kernel_rfl) (fun _ _ _ h => h) (Or.inl ⟨by rfl, ?yAc13⟩) (by assumption) ?_
        case yAc13 => intro w hSw; (try dsimp only at hSw); go_simp <;> with_reducible rfl
        try simp only [List.getElem_toArray, List.getElem_cons_succ, List.getElem_cons_zero, Act.put, List.setIfInBounds_toArray, List.set_cons_zero, List.set_cons_succ]
        refine wpAnyH_take (i := 14) (v := ?vAc14) rfl (by kernel_rfl) (by kernel_rfl) (by kernel_rfl) (fun _ _ _ h => h) (Or.inl ⟨by rfl, ?yAc14⟩) (by assumption) ?_
        case yAc14 => intro w hSw; (try dsimp only at hSw); go_simp <;> with_reducible rfl
        try simp only [List.getElem_toArray, List.getElem_cons_succ, List.getElem_cons_zero, Act.put, List.setIfInBounds_toArray, List.set_cons_zero, List.set_cons_succ]
        refine wpAnyH_ready (rs := [9]) (by kernel_rfl) (by simp) ?_
        refine AllReadyH.cons rfl (fun K hK => ?_) ?zAc9
        case zAc9 => exact AllReadyH.nil
        go_simp
        refine (LW.out _ (bt hbel.out hHeld.1)).mono ?_
        rintro e w9Ac9 ⟨rfl, b9⟩
        refine hK.out _ _ (SK.out _ (bt hHeld.1 b9)) (fun hNew => ?_)
        clear hHeld
        have hHeld := hNew
        clear hNew hK K
        try simp only [List.getElem_toArray, List.getElem_cons_succ, List.getElem_cons_zero, Act.put, List.setIfInBounds_toArray, List.set_cons_zero, List.set_cons_succ]
        refine wpAnyH_take (i := 15) (v := ?vAc15) rfl (by kernel_rfl) (by kernel_rfl) (by kernel_rfl) (fun _ _ _ h => h) (Or.inl ⟨by rfl, ?yAc15⟩) (by assumption) ?_
        case yAc15 => intro w hSw; (try dsimp only at hSw); go_simp <;> with_reducible rfl
        try simp only [List.getElem_toArray, List.getElem_cons_succ, List.getElem_cons_zero, Act.put, List.setIfInBounds_toArray, List.set_cons_zero, List.set_cons_succ]
        refine wpAnyH_take (i := 16) (v := ?vAc16) rfl (by kernel_rfl) (by kernel_rfl) (by kernel_rfl) (fun _ _ _ h => h) (Or.inl ⟨by rfl, ?yAc16⟩) (by assumption) ?_
        case yAc16 => intro w hSw; (try dsimp only at hSw); go_simp <;> with_reducible rfl
        try simp only [List.getElem_toArray, List.getElem_cons_succ, List.getElem_cons_zero, Act.put, List.setIfInBounds_toArray, List.set_cons_zero, List.set_cons_succ]
        refine wpAnyH_done (by kernel_rfl) ?_ _
        have hP8 := bt hbel.out hP
        have hq := hHeld.1
        have hz8 : Below w8.heap.size w8 wr := hbel.out
        have hq8 := bt hz8 hq
        obtain ⟨y0, y1, y2, y3, y4⟩ := (FA.out.keeps hq8).2
        have rz := Below.refl wr.heap.size wr
        clear hHeld
        go_wp2_with (at_builtin; refine wpList_append_sees rfl (.tmp 122) (.tmp 127) 30 27 rfl Try.underlying30 op_info rfl (by decide) w8.heap.size _ (m) csw rfl (own_stays SOw.out ?hb) _ 1 [.int .u8 (k : Int), .int .u32 (t : Int), .int .u8 (r : Int), .slice uo nu uc, .int .i64 p] rfl (sees_blk5 (e := 27) ?hG) FOX.out ?k1 ?k2 ?hz ?_)
        case k1 => omega
        case k2 => omega
        case hb => repeat' (first | assumption | (with_reducible refine Below.drew ?_) | (with_reducible refine below_draw ?_ _) | (with_reducible refine alloc_bs ?_ _) | fail)
        case hG => repeat' (first | ((with_reducible refine blk_new ?_); (first | rfl | (simp; done))) | (with_reducible refine blk_drew ?_) | (with_reducible refine blk_old ?_))
        case hz => (refine Below.size (?_ : Below w8.heap.size w8 _); repeat' (first | assumption | (with_reducible refine Below.drew ?_) | (with_reducible refine below_draw ?_ _) | (with_reducible refine alloc_bs ?_ _) | fail))
        rintro v7Ac w7Ac o7Ac g7Ac b7Ac
        have hb7Ac : Below w8.heap.size w8 w7Ac := Below.trans (by repeat' (first | assumption | (with_reducible refine Below.drew ?_) | (with_reducible refine below_draw ?_ _) | (with_reducible refine alloc_bs ?_ _) | fail)) b7Ac
        have S7Ac : Hid (ShrO w8 w7Ac v7Ac (W ++ [x])) := ⟨_, by rw [List.length_append, ← HLw.out, List.length_singleton]; exact o7Ac, Enc.rows_snoc SRw.out INX.out⟩
        obtain ⟨vo7Ac, vc7Ac, rfl⟩ : ∃ ao cap, v7Ac = .slice ao (m + 1) cap := Sees.shape (Sees.own o7Ac)
        have B7Ac := Lib.hid hb7Ac
        have HM9 : Hid (m + 1 = (W ++ [x]).length) := by unfold Hid; rw [List.length_append, List.length_singleton, ← HLw.out]
        clear o7Ac g7Ac b7Ac hb7Ac y0 y1 y2 y3 y4
        clear hq hq8 hz8 rz
        go_wp2
        go_roundw
        case rel => exact ⟨j + 1, m + 1, true, W ++ [x], by omega, by go_num, rfl, ⟨vo7Ac, vc7Ac, rfl⟩, by omega, HM9, S7Ac, NX9, HV9, B7Ac⟩
        case measure => simp [intOf]; omega
      by_cases heq2 : r = tr
      rotate_left
      · skip
        have HNE : Hid (¬ tgt o = idO x) := fun e => by
          rw [Id.eq_iff] at e
          have e1 : (tgt o).t = x.t := e.1
          have e2 : (tgt o).r = x.r := e.2
          rw [HTG.out.1, HXT.out.1] at e1
          rw [HTG.out.2, HXT.out.2] at e2
          omega
        have hkp : keepM false o x = true := by unfold keepM; rw [decide_eq_false HNE.out]; simp
        have NX9 : Hid (St l o false q0 (j + 1) (W ++ [x], true)) := by
          have h := NX.out
          unfold Hid
          rw [show wstep false o (W, true) x = (W ++ [x], true) by simp [wstep, hkp]] at h
          exact h
        have d2 : ((tt : Int) == (t : Int)) = true := by simp; omega
        have d3 : ((tr : Int) == (r : Int)) = false := by simp; omega
        clear heq1
        clear NX KX hkp
        go_wp2
        refine wp_region_held_drew (S := fun w' => Below wr.heap.size wr w' ∧ w'.cell? ⟨w.heap.size, 0, none⟩ = some (.int .u8 (k0 : Int)) ∧ w'.cell? ⟨w.heap.size, 3, none⟩ = some (.slice uo0 nu0 uc0) ∧ w'.cell? ⟨bb, oo + j * 5 + 1, none⟩ = some (.int .u32 (t : Int)) ∧ w'.cell? ⟨bb, oo + j * 5 + 2, none⟩ = some (.int .u8 (r : Int)) ∧ w'.cell? ⟨bb, oo + j * 5 + 3, none⟩ = some (.slice uo nu uc)) (by kernel_rfl) (SK.out _ (bt hP (drew1 _))) (fun hHeld => ?_)
        refine wpAnyH_take (i := 0) (v := ?vAe0) rfl (by kernel_rfl) (by kernel_rfl) (by kernel_rfl) (fun _ _ _ h => h) (Or.inl ⟨by rfl, ?yAe0⟩) (by assumption) ?_
        case yAe0 => intro w hSw; (try dsimp only at hSw); go_simp <;> with_reducible rfl
        try simp only [List.getElem_toArray, List.getElem_cons_zero, Act.put, List.setIfInBounds_toArray, List.set_cons_zero, List.set_cons_succ]
        refine wpAnyH_take (i := 1) (v := ?vAe1) rfl (by kernel_rfl) (by kernel_rfl) (by kernel_rfl) (fun _ _ _ h => h) (Or.inl ⟨by rfl, ?yAe1⟩) (by assumption) ?_
        case yAe1 => intro w hSw; (try dsimp only at hSw); go_simp <;> with_reducible rfl
        try simp only [List.getElem_toArray, List.getElem_cons_succ, List.getElem_cons_zero, Act.put, List.setIfInBounds_toArray, List.set_cons_zero, List.set_cons_succ]
        refine wpAnyH_take (i := 2) (v := ?vAe2) rfl (by kernel_rfl) (by kernel_rfl) (by kernel_rfl) (fun _ _ _ h => h) (Or.inl ⟨by rfl, ?yAe2⟩) (by assumption) ?_
        case yAe2 => intro w hSw; (try dsimp only at hSw); go_simp <;> with_reducible rfl
        try simp only [List.getElem_toArray, List.getElem_cons_succ, List.getElem_cons_zero, Act.put, List.setIfInBounds_toArray, List.set_cons_zero, List.set_cons_succ]
        refine wpAnyH_take (i := 3) (v := ?vAe3) rfl (by kernel_rfl) (by kernel_rfl) (by kernel_rfl) (fun _ _ _ h => h) (Or.inl ⟨by rfl, ?yAe3⟩) (by assumption) ?_
        case yAe3 => intro w hSw; (try dsimp only at hSw); go_simp <;> with_reducible rfl
        try simp only [List.getElem_toArray, List.getElem_cons_succ, List.getElem_cons_zero, Act.put, List.setIfInBounds_toArray, List.set_cons_zero, List.set_cons_succ]
        refine wpAnyH_take (i := 4) (v := ?vAe4) rfl (by kernel_rfl) (by kernel_rfl) (by kernel_rfl) (fun _ _ _ h => h) (Or.inl ⟨by rfl, ?yAe4⟩) (by assumption) ?_
        case yAe4 => intro w hSw; (try dsimp only at hSw); go_simp <;> with_reducible rfl
        try simp only [List.getElem_toArray, List.getElem_cons_succ, List.getElem_cons_zero, Act.put, List.setIfInBounds_toArray, List.set_cons_zero, List.set_cons_succ]
        refine wpAnyH_take (i := 5) (v := ?vAe5) rfl (by kernel_rfl) (by kernel_rfl) (by kernel_rfl) (fun _ _ _ h => h) (Or.inl ⟨by rfl, ?yAe5⟩) (by assumption) ?_
        case yAe5 => intro w hSw; (try dsimp only at hSw); go_simp <;> with_reducible rfl
        try simp only [List.getElem_toArray, List.getElem_cons_succ, List.getElem_cons_zero, Act.put, List.setIfInBounds_toArray, List.set_cons_zero, List.set_cons_succ]
        refine wpAnyH_take (i := 6) (v := ?vAe6) rfl (by kernel_rfl) (by kernel_rfl) (by kernel_rfl) (fun _ _ _ h => h) (Or.inl ⟨by rfl, ?yAe6⟩) (by assumption) ?_
        case yAe6 => intro w hSw; (try dsimp only at hSw); go_simp <;> with_reducible rfl
        try simp only [List.getElem_toArray, List.getElem_cons_succ, List.getElem_cons_zero, Act.put, List.setIfInBounds_toArray, List.set_cons_zero, List.set_cons_succ]
        refine wpAnyH_take (i := 7) (v := ?vAe7) rfl (by kernel_rfl) (by kernel_rfl) (by kernel_rfl) (fun _ _ _ h => h) (Or.inl ⟨by rfl, ?yAe7⟩) (by assumption) ?_
        case yAe7 => intro w hSw; (try dsimp only at hSw); go_simp <;> with_reducible rfl
        try simp only [List.getElem_toArray, List.getElem_cons_succ, List.getElem_cons_zero, Act.put, List.setIfInBounds_toArray, List.set_cons_zero, List.set_cons_succ]
        refine wpAnyH_take (i := 8) (v := ?vAe8) rfl (by kernel_rfl) (by kernel_rfl) (by kernel_rfl) (fun _ _ _ h => h) (Or.inl ⟨by rfl, ?yAe8⟩) (by assumption) ?_
        case yAe8 => intro w hSw; (try dsimp only at hSw); go_simp <;> with_reducible rfl
        try simp only [List.getElem_toArray, List.getElem_cons_succ, List.getElem_cons_zero, Act.put, List.setIfInBounds_toArray, List.set_cons_zero, List.set_cons_succ]
        refine wpAnyH_take (i := 10) (v := ?vAe10) rfl (by kernel_rfl) (by kernel_rfl) (by kernel_rfl) (fun _ _ _ h => h) (Or.inl ⟨by rfl, ?yAe10⟩) (by assumption) ?_
        case yAe10 => intro w hSw; (try dsimp only at hSw); go_simp <;> with_reducible rfl
        try simp only [List.getElem_toArray, List.getElem_cons_succ, List.getElem_cons_zero, Act.put, List.setIfInBounds_toArray, List.set_cons_zero, List.set_cons_succ]
        refine wpAnyH_take (i := 11) (v := ?vAe11) rfl (by kernel_rfl) (by kernel_rfl) (by kernel_rfl) (fun _ _ _ h => h) (Or.inl ⟨by rfl, ?yAe11⟩) (by assumption) ?_
        case yAe11 => intro w hSw; (try dsimp only at hSw); go_simp <;> with_reducible rfl
        try simp only [List.getElem_toArray, List.getElem_cons_succ, List.getElem_cons_zero, Act.put, List.setIfInBounds_toArray, List.set_cons_zero, List.set_cons_succ]
        refine wpAnyH_take (i := 12) (v := ?vAe12) rfl (by kernel_rfl) (by kernel_rfl) (by kernel_rfl) (fun _ _ _ h => h) (Or.inl ⟨by rfl, ?yAe12⟩) (by assumption) ?_
        case yAe12 => intro w hSw; (try dsimp only at hSw); go_simp <;> with_reducible rfl
        try simp only [List.getElem_toArray, List.getElem_cons_succ, List.getElem_cons_zero, Act.put, List.setIfInBounds_toArray, List.set_cons_zero, List.set_cons_succ]
        refine wpAnyH_take (i := 13) (v := ?vAe13) rfl (by kernel_rfl) (by kernel_rfl) (by kernel_rfl) (fun _ _ _ h => h) (Or.inl ⟨by rfl, ?yAe13⟩) (by assumption) ?_
        case yAe13 => intro w hSw; (try dsimp only at hSw); go_simp <;> with_reducible rfl
        try simp only [List.getElem_toArray, List.getElem_cons_succ, List.getElem_cons_zero, Act.put, List.setIfInBounds_toArray, List.set_cons_zero, List.set_cons_succ]
        refine wpAnyH_take (i := 14) (v := ?vAe14) rfl (by kernel_rfl) (by kernel_rfl) (by kernel_rfl) (fun _ _ _ h => h) (Or.inl ⟨by rfl, ?yAe14⟩) (by assumption) ?_
        case yAe14 => intro w hSw; (try dsimp only at hSw); go_simp <;> with_reducible rfl
        try simp only [List.getElem_toArray, List.getElem_cons_succ, List.getElem_cons_zero, Act.put, List.setIfInBounds_toArray, List.set_cons_zero, List.set_cons_succ]
        refine wpAnyH_ready (rs := [9]) (by kernel_rfl) (by simp) ?_
        refine AllReadyH.cons rfl (fun K hK => ?_) ?zAe9
        case zAe9 => exact AllReadyH.nil
        go_simp
        refine (LW.out _ (bt hbel.out hHeld.1)).mono ?_
        rintro e w9Ae9 ⟨rfl, b9⟩
        refine hK.out _ _ (SK.out _ (bt hHeld.1 b9)) (fun hNew => ?_)
        clear hHeld
        have hHeld := hNew
        clear hNew hK K
        try simp only [List.getElem_toArray, List.getElem_cons_succ, List.getElem_cons_zero, Act.put, List.setIfInBounds_toArray, List.set_cons_zero, List.set_cons_succ]
        refine wpAnyH_take (i := 15) (v := ?vAe15) rfl (by kernel_rfl) (by kernel_rfl) (by kernel_rfl) (fun _ _ _ h => h) (Or.inl ⟨by rfl, ?yAe15⟩) (by assumption) ?_
        case yAe15 => intro w hSw; (try dsimp only at hSw); go_simp <;> with_reducible rfl
        try simp only [List.getElem_toArray, List.getElem_cons_succ, List.getElem_cons_zero, Act.put, List.setIfInBounds_toArray, List.set_cons_zero, List.set_cons_succ]
        refine wpAnyH_take (i := 16) (v := ?vAe16) rfl (by kernel_rfl) (by kernel_rfl) (by kernel_rfl) (fun _ _ _ h => h) (Or.inl ⟨by rfl, ?yAe16⟩) (by assumption) ?_
        case yAe16 => intro w hSw; (try dsimp only at hSw); go_simp <;> with_reducible rfl
        try simp only [List.getElem_toArray, List.getElem_cons_succ, List.getElem_cons_zero, Act.put, List.setIfInBounds_toArray, List.set_cons_zero, List.set_cons_succ]
        refine wpAnyH_done (by kernel_rfl) ?_ _
        have hP8 := bt hbel.out hP
        have hq := hHeld.1
        have hz8 : Below w8.heap.size w8 wr := hbel.out
        have hq8 := bt hz8 hq
        obtain ⟨y0, y1, y2, y3, y4⟩ := (FA.out.keeps hq8).2
        have rz := Below.refl wr.heap.size wr
        clear hHeld
        go_wp2_with (at_builtin; refine wpList_append_sees rfl (.tmp 122) (.tmp 127) 30 27 rfl Try.underlying30 op_info rfl (by decide) w8.heap.size _ (m) csw rfl (own_stays SOw.out ?hb) _ 1 [.int .u8 (k : Int), .int .u32 (t : Int), .int .u8 (r : Int), .slice uo nu uc, .int .i64 p] rfl (sees_blk5 (e := 27) ?hG) FOX.out ?k1 ?k2 ?hz ?_)
        case k1 => omega
        case k2 => omega
        case hb => repeat' (first | assumption | (with_reducible refine Below.drew ?_) | (with_reducible refine below_draw ?_ _) | (with_reducible refine alloc_bs ?_ _) | fail)
        case hG => repeat' (first | ((with_reducible refine blk_new ?_); (first | rfl | (simp; done))) | (with_reducible refine blk_drew ?_) | (with_reducible refine blk_old ?_))
        case hz => (refine Below.size (?_ : Below w8.heap.size w8 _); repeat' (first | assumption | (with_reducible refine Below.drew ?_) | (with_reducible refine below_draw ?_ _) | (with_reducible refine alloc_bs ?_ _) | fail))
        rintro v7Ae w7Ae o7Ae g7Ae b7Ae
        have hb7Ae : Below w8.heap.size w8 w7Ae := Below.trans (by repeat' (first | assumption | (with_reducible refine Below.drew ?_) | (with_reducible refine below_draw ?_ _) | (with_reducible refine alloc_bs ?_ _) | fail)) b7Ae
        have S7Ae : Hid (ShrO w8 w7Ae v7Ae (W ++ [x])) := ⟨_, by rw [List.length_append, ← HLw.out, List.length_singleton]; exact o7Ae, Enc.rows_snoc SRw.out INX.out⟩
        obtain ⟨vo7Ae, vc7Ae, rfl⟩ : ∃ ao cap, v7Ae = .slice ao (m + 1) cap := Sees.shape (Sees.own o7Ae)
        have B7Ae := Lib.hid hb7Ae
        have HM9 : Hid (m + 1 = (W ++ [x]).length) := by unfold Hid; rw [List.length_append, List.length_singleton, ← HLw.out]
        clear o7Ae g7Ae b7Ae hb7Ae y0 y1 y2 y3 y4
        clear hq hq8 hz8 rz
        go_wp2
        go_roundw
        case rel => exact ⟨j + 1, m + 1, true, W ++ [x], by omega, by go_num, rfl, ⟨vo7Ae, vc7Ae, rfl⟩, by omega, HM9, S7Ae, NX9, HV9, B7Ae⟩
        case measure => simp [intOf]; omega
      have HEQ : Hid (tgt o = idO x) := by
        unfold Hid
        rw [Id.eq_iff]
        exact ⟨by show (tgt o).t = x.t; rw [HTG.out.1, HXT.out.1]; exact heq1.symm, by show (tgt o).r = x.r; rw [HTG.out.2, HXT.out.2]; exact heq2.symm⟩
      have hkp : keepM false o x = false := by unfold keepM; rw [HK0.out, decide_eq_true HK4.out, decide_eq_true HEQ.out]; rfl
      have NX9 : Hid (St l o false q0 (j + 1) (W, true)) := by
        have h := NX.out
        unfold Hid
        rw [show wstep false o (W, true) x = (W, true) by simp [wstep, hkp]] at h
        exact h
      have d2 : ((tt : Int) == (t : Int)) = true := by simp; omega
      have d3 : ((tr : Int) == (r : Int)) = true := by simp; omega
      clear heq1 heq2
      clear NX KX hkp
      go_wp2
      refine wp_region_held_drew (S := fun w' => Below wr.heap.size wr w' ∧ w'.cell? ⟨w.heap.size, 0, none⟩ = some (.int .u8 (k0 : Int)) ∧ w'.cell? ⟨w.heap.size, 3, none⟩ = some (.slice uo0 nu0 uc0) ∧ w'.cell? ⟨bb, oo + j * 5 + 1, none⟩ = some (.int .u32 (t : Int)) ∧ w'.cell? ⟨bb, oo + j * 5 + 2, none⟩ = some (.int .u8 (r : Int)) ∧ w'.cell? ⟨bb, oo + j * 5 + 3, none⟩ = some (.slice uo nu uc)) (by kernel_rfl) (SK.out _ (bt hP (drew1 _))) (fun hHeld => ?_)
      refine wpAnyH_take (i := 0) (v := ?vAd0) rfl (by kernel_rfl) (by kernel_rfl) (by kernel_rfl) (fun _ _ _ h => h) (Or.inl ⟨by rfl, ?yAd0⟩) (by assumption) ?_
      case yAd0 => intro w hSw; (try dsimp only at hSw); go_simp <;> with_reducible rfl
      try simp only [List.getElem_toArray, List.getElem_cons_zero, Act.put, List.setIfInBounds_toArray, List.set_cons_zero, List.set_cons_succ]
      refine wpAnyH_take (i := 1) (v := ?vAd1) rfl (by kernel_rfl) (by kernel_rfl) (by kernel_rfl) (fun _ _ _ h => h) (Or.inl ⟨by rfl, ?yAd1⟩) (by assumption) ?_
      case yAd1 => intro w hSw; (try dsimp only at hSw); go_simp <;> with_reducible rfl
      try simp only [List.getElem_toArray, List.getElem_cons_succ, List.getElem_cons_zero, Act.put, List.setIfInBounds_toArray, List.set_cons_zero, List.set_cons_succ]
      refine wpAnyH_take (i := 2) (v := ?vAd2) rfl (by kernel_rfl) (by kernel_rfl) (by kernel_rfl) (fun _ _ _ h => h) (Or.inl ⟨by rfl, ?yAd2⟩) (by assumption) ?_
      case yAd2 => intro w hSw; (try dsimp only at hSw); go_simp <;> with_reducible rfl
      try simp only [List.getElem_toArray, List.getElem_cons_succ, List.getElem_cons_zero, Act.put, List.setIfInBounds_toArray, List.set_cons_zero, List.set_cons_succ]
      refine wpAnyH_take (i := 3) (v := ?vAd3) rfl (by kernel_rfl) (by kernel_rfl) (by kernel_rfl) (fun _ _ _ h => h) (Or.inl ⟨by rfl, ?yAd3⟩) (by assumption) ?_
      case yAd3 => intro w hSw; (try dsimp only at hSw); go_simp <;> with_reducible rfl
      try simp only [List.getElem_toArray, List.getElem_cons_succ, List.getElem_cons_zero, Act.put, List.setIfInBounds_toArray, List.set_cons_zero, List.set_cons_succ]
      refine wpAnyH_take (i := 4) (v := ?vAd4) rfl (by kernel_rfl) (by kernel_rfl) (by kernel_rfl) (fun _ _ _ h => h) (Or.inl ⟨by rfl, ?yAd4⟩) (by assumption) ?_
      case yAd4 => intro w hSw; (try dsimp only at hSw); go_simp <;> with_reducible rfl
      try simp only [List.getElem_toArray, List.getElem_cons_succ, List.getElem_cons_zero, Act.put, List.setIfInBounds_toArray, List.set_cons_zero, List.set_cons_succ]
      refine wpAnyH_take (i := 5) (v := ?vAd5) rfl (by kernel_rfl) (by kernel_rfl) (by kernel_rfl) (fun _ _ _ h => h) (Or.inl ⟨by rfl, ?yAd5⟩) (by assumption) ?_
      case yAd5 => intro w hSw; (try dsimp only at hSw); go_simp <;> with_reducible rfl
      try simp only [List.getElem_toArray, List.getElem_cons_succ, List.getElem_cons_zero, Act.put, List.setIfInBounds_toArray, List.set_cons_zero, List.set_cons_succ]
      refine wpAnyH_take (i := 6) (v := ?vAd6) rfl (by kernel_rfl) (by kernel_rfl) (by kernel_rfl) (fun _ _ _ h => h) (Or.inl ⟨by rfl, ?yAd6⟩) (by assumption) ?_
      case yAd6 => intro w hSw; (try dsimp only at hSw); go_simp <;> with_reducible rfl
      try simp only [List.getElem_toArray, List.getElem_cons_succ, List.getElem_cons_zero, Act.put, List.setIfInBounds_toArray, List.set_cons_zero, List.set_cons_succ]
      refine wpAnyH_take (i := 7) (v := ?vAd7) rfl (by kernel_rfl) (by kernel_rfl) (by kernel_rfl) (fun _ _ _ h => h) (Or.inl ⟨by rfl, ?yAd7⟩) (by assumption) ?_
      case yAd7 => intro w hSw; (try dsimp only at hSw); go_simp <;> with_reducible rfl
      try simp only [List.getElem_toArray, List.getElem_cons_succ, List.getElem_cons_zero, Act.put, List.setIfInBounds_toArray, List.set_cons_zero, List.set_cons_succ]
      refine wpAnyH_take (i := 8) (v := ?vAd8) rfl (by kernel_rfl) (by kernel_rfl) (by kernel_rfl) (fun _ _ _ h => h) (Or.inl ⟨by rfl, ?yAd8⟩) (by assumption) ?_
      case yAd8 => intro w hSw; (try dsimp only at hSw); go_simp <;> with_reducible rfl
      try simp only [List.getElem_toArray, List.getElem_cons_succ, List.getElem_cons_zero, Act.put, List.setIfInBounds_toArray, List.set_cons_zero, List.set_cons_succ]
      refine wpAnyH_take (i := 10) (v := ?vAd10) rfl (by kernel_rfl) (by kernel_rfl) (by kernel_rfl) (fun _ _ _ h => h) (Or.inl ⟨by rfl, ?yAd10⟩) (by assumption) ?_
      case yAd10 => intro w hSw; (try dsimp only at hSw); go_simp <;> with_reducible rfl
      try simp only [List.getElem_toArray, List.getElem_cons_succ, List.getElem_cons_zero, Act.put, List.setIfInBounds_toArray, List.set_cons_zero, List.set_cons_succ]
      refine wpAnyH_take (i := 11) (v := ?vAd11) rfl (by kernel_rfl) (by kernel_rfl) (by kernel_rfl) (fun _ _ _ h => h) (Or.inl ⟨by rfl, ?yAd11⟩) (by assumption) ?_
      case yAd11 => intro w hSw; (try dsimp only at hSw); go_simp <;> with_reducible rfl
      try simp only [List.getElem_toArray, List.getElem_cons_succ, List.getElem_cons_zero, Act.put, List.setIfInBounds_toArray, List.set_cons_zero, List.set_cons_succ]
      refine wpAnyH_take (i := 12) (v := ?vAd12) rfl (by kernel_rfl) (by kernel_rfl) (by kernel_rfl) (fun _ _ _ h => h) (Or.inl ⟨by rfl, ?yAd12⟩) (by assumption) ?_
      case yAd12 => intro w hSw; (try dsimp only at hSw); go_simp <;> with_reducible rfl
      try simp only [List.getElem_toArray, List.getElem_cons_succ, List.getElem_cons_zero, Act.put, List.setIfInBounds_toArray, List.set_cons_zero, List.set_cons_succ]
      refine wpAnyH_take (i := 13) (v := ?vAd13) rfl (by kernel_rfl) (by kernel_rfl) (by kernel_rfl) (fun _ _ _ h => h) (Or.inl ⟨by rfl, ?yAd13⟩) (by assumption) ?_
      case yAd13 => intro w hSw; (try dsimp only at hSw); go_simp <;> with_reducible rfl
      try simp only [List.getElem_toArray, List.getElem_cons_succ, List.getElem_cons_zero, Act.put, List.setIfInBounds_toArray, List.set_cons_zero, List.set_cons_succ]
      refine wpAnyH_take (i := 14) (v := ?vAd14) rfl (by kernel_rfl) (by kernel_rfl) (by kernel_rfl) (fun _ _ _ h => h) (Or.inl ⟨by rfl, ?yAd14⟩) (by assumption) ?_
      case yAd14 => intro w hSw; (try dsimp only at hSw); go_simp <;> with_reducible rfl
      try simp only [List.getElem_toArray, List.getElem_cons_succ, List.getElem_cons_zero, Act.put, List.setIfInBounds_toArray, List.set_cons_zero, List.set_cons_succ]
      refine wpAnyH_ready (rs := [9]) (by kernel_rfl) (by simp) ?_
      refine AllReadyH.cons rfl (fun K hK => ?_) ?zAd9
      case zAd9 => exact AllReadyH.nil
      go_simp
      refine (LW.out _ (bt hbel.out hHeld.1)).mono ?_
      rintro e w9Ad9 ⟨rfl, b9⟩
      refine hK.out _ _ (SK.out _ (bt hHeld.1 b9)) (fun hNew => ?_)
      clear hHeld
      have hHeld := hNew
      clear hNew hK K
      try simp only [List.getElem_toArray, List.getElem_cons_succ, List.getElem_cons_zero, Act.put, List.setIfInBounds_toArray, List.set_cons_zero, List.set_cons_succ]
      refine wpAnyH_take (i := 15) (v := ?vAd15) rfl (by kernel_rfl) (by kernel_rfl) (by kernel_rfl) (fun _ _ _ h => h) (Or.inl ⟨by rfl, ?yAd15⟩) (by assumption) ?_
      case yAd15 => intro w hSw; (try dsimp only at hSw); go_simp <;> with_reducible rfl
      try simp only [List.getElem_toArray, List.getElem_cons_succ, List.getElem_cons_zero, Act.put, List.setIfInBounds_toArray, List.set_cons_zero, List.set_cons_succ]
      refine wpAnyH_take (i := 16) (v := ?vAd16) rfl (by kernel_rfl) (by kernel_rfl) (by kernel_rfl) (fun _ _ _ h => h) (Or.inl ⟨by rfl, ?yAd16⟩) (by assumption) ?_
      case yAd16 => intro w hSw; (try dsimp only at hSw); go_simp <;> with_reducible rfl
      try simp only [List.getElem_toArray, List.getElem_cons_succ, List.getElem_cons_zero, Act.put, List.setIfInBounds_toArray, List.set_cons_zero, List.set_cons_succ]
      refine wpAnyH_done (by kernel_rfl) ?_ _
      have hP8 := bt hbel.out hP
      have hq := hHeld.1
      have hz8 : Below w8.heap.size w8 wr := hbel.out
      have hq8 := bt hz8 hq
      obtain ⟨y0, y1, y2, y3, y4⟩ := (FA.out.keeps hq8).2
      have rz := Below.refl wr.heap.size wr
      clear hHeld
      have HS9 := Lib.hid (HS.out.keeps hq)
      have B9 := Lib.hid hq8
      have HM9 := Lib.hid HM.out
      clear y0 y1 y2 y3 y4
      clear hq hq8 hz8 rz
      go_wp2
      go_roundw
      case rel => exact ⟨j + 1, m, true, W, by omega, by go_num, rfl, ⟨wo, wl, rfl⟩, by omega, HM9, HS9, NX9, HV9, B9⟩
      case measure => simp [intOf]; omega
    obtain ⟨hh, hk2⟩ := HVV.out rfl
    subst hh
    have d1 : ((k0 : Int) != 4) = true := by simp; omega
    have hk4 : ¬ k0 = 4 := by omega
    have HK2 : Hid (k0 = 2) := hk2
    clear hk2
    have hkp : keepM false o x = true := by unfold keepM; rw [HK0.out, decide_eq_false (show ¬ k0 = 4 by assumption)]; rfl
    by_cases hcv : cv < 0
    rotate_left
    · have d5 : decide (cv < 0) = false := decide_eq_false hcv
      have NX9 : Hid (St l o false q0 (j + 1) (W ++ [x], false)) := by
        have h := NX.out
        unfold Hid
        rw [show wstep false o (W, false) x = (W ++ [x], false) by simp [wstep, hkp, HCV.out, hcv]] at h
        exact h
      clear NX KX hkp HVV
      go_wp2
      refine wp_region_held_drew (S := fun w' => Below wr.heap.size wr w' ∧ w'.cell? ⟨w.heap.size, 0, none⟩ = some (.int .u8 (k0 : Int)) ∧ w'.cell? ⟨w.heap.size, 3, none⟩ = some (.slice uo0 nu0 uc0) ∧ w'.cell? ⟨bb, oo + j * 5 + 1, none⟩ = some (.int .u32 (t : Int)) ∧ w'.cell? ⟨bb, oo + j * 5 + 2, none⟩ = some (.int .u8 (r : Int)) ∧ w'.cell? ⟨bb, oo + j * 5 + 3, none⟩ = some (.slice uo nu uc)) (by kernel_rfl) (SK.out _ (drew1 _)) (fun hHeld => ?_)
      refine wpAnyH_take (i := 0) (v := ?vB0) rfl (by kernel_rfl) (by kernel_rfl) (by kernel_rfl) (fun _ _ _ h => h) (Or.inl ⟨by rfl, ?yB0⟩) (by assumption) ?_
      case yB0 => intro w hSw; (try dsimp only at hSw); go_simp <;> with_reducible rfl
      try simp only [List.getElem_toArray, List.getElem_cons_zero, Act.put, List.setIfInBounds_toArray, List.set_cons_zero, List.set_cons_succ]
      refine wpAnyH_take (i := 1) (v := ?vB1) rfl (by kernel_rfl) (by kernel_rfl) (by kernel_rfl) (fun _ _ _ h => h) (Or.inl ⟨by rfl, ?yB1⟩) (by assumption) ?_
      case yB1 => intro w hSw; (try dsimp only at hSw); go_simp <;> with_reducible rfl
      try simp only [List.getElem_toArray, List.getElem_cons_succ, List.getElem_cons_zero, Act.put, List.setIfInBounds_toArray, List.set_cons_zero, List.set_cons_succ]
      refine wpAnyH_take (i := 2) (v := ?vB2) rfl (by kernel_rfl) (by kernel_rfl) (by kernel_rfl) (fun _ _ _ h => h) (Or.inl ⟨by rfl, ?yB2⟩) (by assumption) ?_
      case yB2 => intro w hSw; (try dsimp only at hSw); go_simp <;> with_reducible rfl
      try simp only [List.getElem_toArray, List.getElem_cons_succ, List.getElem_cons_zero, Act.put, List.setIfInBounds_toArray, List.set_cons_zero, List.set_cons_succ]
      refine wpAnyH_take (i := 3) (v := ?vB3) rfl (by kernel_rfl) (by kernel_rfl) (by kernel_rfl) (fun _ _ _ h => h) (Or.inl ⟨by rfl, ?yB3⟩) (by assumption) ?_
      case yB3 => intro w hSw; (try dsimp only at hSw); go_simp <;> with_reducible rfl
      try simp only [List.getElem_toArray, List.getElem_cons_succ, List.getElem_cons_zero, Act.put, List.setIfInBounds_toArray, List.set_cons_zero, List.set_cons_succ]
      refine wpAnyH_take (i := 4) (v := ?vB4) rfl (by kernel_rfl) (by kernel_rfl) (by kernel_rfl) (fun _ _ _ h => h) (Or.inl ⟨by rfl, ?yB4⟩) (by assumption) ?_
      case yB4 => intro w hSw; (try dsimp only at hSw); go_simp <;> with_reducible rfl
      try simp only [List.getElem_toArray, List.getElem_cons_succ, List.getElem_cons_zero, Act.put, List.setIfInBounds_toArray, List.set_cons_zero, List.set_cons_succ]
      refine wpAnyH_take (i := 5) (v := ?vB5) rfl (by kernel_rfl) (by kernel_rfl) (by kernel_rfl) (fun _ _ _ h => h) (Or.inl ⟨by rfl, ?yB5⟩) (by assumption) ?_
      case yB5 => intro w hSw; (try dsimp only at hSw); go_simp <;> with_reducible rfl
      try simp only [List.getElem_toArray, List.getElem_cons_succ, List.getElem_cons_zero, Act.put, List.setIfInBounds_toArray, List.set_cons_zero, List.set_cons_succ]
      refine wpAnyH_take (i := 6) (v := ?vB6) rfl (by kernel_rfl) (by kernel_rfl) (by kernel_rfl) (fun _ _ _ h => h) (Or.inl ⟨by rfl, ?yB6⟩) (by assumption) ?_
      case yB6 => intro w hSw; (try dsimp only at hSw); go_simp <;> with_reducible rfl
      try simp only [List.getElem_toArray, List.getElem_cons_succ, List.getElem_cons_zero, Act.put, List.setIfInBounds_toArray, List.set_cons_zero, List.set_cons_succ]
      refine wpAnyH_take (i := 7) (v := ?vB7) rfl (by kernel_rfl) (by kernel_rfl) (by kernel_rfl) (fun _ _ _ h => h) (Or.inl ⟨by rfl, ?yB7⟩) (by assumption) ?_
      case yB7 => intro w hSw; (try dsimp only at hSw); go_simp <;> with_reducible rfl
      try simp only [List.getElem_toArray, List.getElem_cons_succ, List.getElem_cons_zero, Act.put, List.setIfInBounds_toArray, List.set_cons_zero, List.set_cons_succ]
      refine wpAnyH_take (i := 8) (v := ?vB8) rfl (by kernel_rfl) (by kernel_rfl) (by kernel_rfl) (fun _ _ _ h => h) (Or.inl ⟨by rfl, ?yB8⟩) (by assumption) ?_
      case yB8 => intro w hSw; (try dsimp only at hSw); go_simp <;> with_reducible rfl
      try simp only [List.getElem_toArray, List.getElem_cons_succ, List.getElem_cons_zero, Act.put, List.setIfInBounds_toArray, List.set_cons_zero, List.set_cons_succ]
      refine wpAnyH_take (i := 9) (v := ?vB9) rfl (by kernel_rfl) (by kernel_rfl) (by kernel_rfl) (fun _ _ _ h => h) (Or.inl ⟨by rfl, ?yB9⟩) (by assumption) ?_
      case yB9 => intro w hSw; (try dsimp only at hSw); go_simp <;> with_reducible rfl
      try simp only [List.getElem_toArray, List.getElem_cons_succ, List.getElem_cons_zero, Act.put, List.setIfInBounds_toArray, List.set_cons_zero, List.set_cons_succ]
      refine wpAnyH_ready (rs := [10]) (by kernel_rfl) (by simp) ?_
      refine AllReadyH.cons rfl (fun K hK => ?_) ?zB10
      case zB10 => exact AllReadyH.nil
      go_simp
      refine (CX.out _ (bt hbel.out hHeld.1)).mono ?_
      rintro e w9B10 ⟨rfl, b9⟩
      refine hK.out _ _ (SK.out _ (bt hHeld.1 b9)) (fun hNew => ?_)
      clear hHeld
      have hHeld := hNew
      clear hNew hK K
      try simp only [List.getElem_toArray, List.getElem_cons_succ, List.getElem_cons_zero, Act.put, List.setIfInBounds_toArray, List.set_cons_zero, List.set_cons_succ]
      refine wpAnyH_take (i := 11) (v := ?vB11) rfl (by kernel_rfl) (by kernel_rfl) (by kernel_rfl) (fun _ _ _ h => h) (Or.inl ⟨by rfl, ?yB11⟩) (by assumption) ?_
      case yB11 => intro w hSw; (try dsimp only at hSw); go_simp <;> with_reducible rfl
      try simp only [List.getElem_toArray, List.getElem_cons_succ, List.getElem_cons_zero, Act.put, List.setIfInBounds_toArray, List.set_cons_zero, List.set_cons_succ]
      refine wpAnyH_take (i := 12) (v := ?vB12) rfl (by kernel_rfl) (by kernel_rfl) (by kernel_rfl) (fun _ _ _ h => h) (Or.inl ⟨by rfl, ?yB12⟩) (by assumption) ?_
      case yB12 => intro w hSw; (try dsimp only at hSw); go_simp <;> with_reducible rfl
      try simp only [List.getElem_toArray, List.getElem_cons_succ, List.getElem_cons_zero, Act.put, List.setIfInBounds_toArray, List.set_cons_zero, List.set_cons_succ]
      refine wpAnyH_done (by kernel_rfl) ?_ _
      have hP := hHeld.1
      clear hHeld CX
      go_wp2
      refine wp_region_held_drew (S := fun w' => Below wr.heap.size wr w' ∧ w'.cell? ⟨w.heap.size, 0, none⟩ = some (.int .u8 (k0 : Int)) ∧ w'.cell? ⟨w.heap.size, 3, none⟩ = some (.slice uo0 nu0 uc0) ∧ w'.cell? ⟨bb, oo + j * 5 + 1, none⟩ = some (.int .u32 (t : Int)) ∧ w'.cell? ⟨bb, oo + j * 5 + 2, none⟩ = some (.int .u8 (r : Int)) ∧ w'.cell? ⟨bb, oo + j * 5 + 3, none⟩ = some (.slice uo nu uc)) (by kernel_rfl) (SK.out _ (bt hP (drew1 _))) (fun hHeld => ?_)
      refine wpAnyH_take (i := 0) (v := ?vBb0) rfl (by kernel_rfl) (by kernel_rfl) (by kernel_rfl) (fun _ _ _ h => h) (Or.inl ⟨by rfl, ?yBb0⟩) (by assumption) ?_
      case yBb0 => intro w hSw; (try dsimp only at hSw); go_simp <;> with_reducible rfl
      try simp only [List.getElem_toArray, List.getElem_cons_zero, Act.put, List.setIfInBounds_toArray, List.set_cons_zero, List.set_cons_succ]
      refine wpAnyH_take (i := 1) (v := ?vBb1) rfl (by kernel_rfl) (by kernel_rfl) (by kernel_rfl) (fun _ _ _ h => h) (Or.inl ⟨by rfl, ?yBb1⟩) (by assumption) ?_
      case yBb1 => intro w hSw; (try dsimp only at hSw); go_simp <;> with_reducible rfl
      try simp only [List.getElem_toArray, List.getElem_cons_succ, List.getElem_cons_zero, Act.put, List.setIfInBounds_toArray, List.set_cons_zero, List.set_cons_succ]
      refine wpAnyH_take (i := 2) (v := ?vBb2) rfl (by kernel_rfl) (by kernel_rfl) (by kernel_rfl) (fun _ _ _ h => h) (Or.inl ⟨by rfl, ?yBb2⟩) (by assumption) ?_
      case yBb2 => intro w hSw; (try dsimp only at hSw); go_simp <;> with_reducible rfl
      try simp only [List.getElem_toArray, List.getElem_cons_succ, List.getElem_cons_zero, Act.put, List.setIfInBounds_toArray, List.set_cons_zero, List.set_cons_succ]
      refine wpAnyH_take (i := 3) (v := ?vBb3) rfl (by kernel_rfl) (by kernel_rfl) (by kernel_rfl) (fun _ _ _ h => h) (Or.inl ⟨by rfl, ?yBb3⟩) (by assumption) ?_
      case yBb3 => intro w hSw; (try dsimp only at hSw); go_simp <;> with_reducible rfl
      try simp only [List.getElem_toArray, List.getElem_cons_succ, List.getElem_cons_zero, Act.put, List.setIfInBounds_toArray, List.set_cons_zero, List.set_cons_succ]
      refine wpAnyH_take (i := 4) (v := ?vBb4) rfl (by kernel_rfl) (by kernel_rfl) (by kernel_rfl) (fun _ _ _ h => h) (Or.inl ⟨by rfl, ?yBb4⟩) (by assumption) ?_
      case yBb4 => intro w hSw; (try dsimp only at hSw); go_simp <;> with_reducible rfl
      try simp only [List.getElem_toArray, List.getElem_cons_succ, List.getElem_cons_zero, Act.put, List.setIfInBounds_toArray, List.set_cons_zero, List.set_cons_succ]
      refine wpAnyH_take (i := 5) (v := ?vBb5) rfl (by kernel_rfl) (by kernel_rfl) (by kernel_rfl) (fun _ _ _ h => h) (Or.inl ⟨by rfl, ?yBb5⟩) (by assumption) ?_
      case yBb5 => intro w hSw; (try dsimp only at hSw); go_simp <;> with_reducible rfl
      try simp only [List.getElem_toArray, List.getElem_cons_succ, List.getElem_cons_zero, Act.put, List.setIfInBounds_toArray, List.set_cons_zero, List.set_cons_succ]
      refine wpAnyH_take (i := 6) (v := ?vBb6) rfl (by kernel_rfl) (by kernel_rfl) (by kernel_rfl) (fun _ _ _ h => h) (Or.inl ⟨by rfl, ?yBb6⟩) (by assumption) ?_
      case yBb6 => intro w hSw; (try dsimp only at hSw); go_simp <;> with_reducible rfl
      try simp only [List.getElem_toArray, List.getElem_cons_succ, List.getElem_cons_zero, Act.put, List.setIfInBounds_toArray, List.set_cons_zero, List.set_cons_succ]
      refine wpAnyH_take (i := 7) (v := undef) rfl (by kernel_rfl) (by kernel_rfl) (by kernel_rfl) (fun _ _ _ h => h) (Or.inr ⟨by rfl, rfl⟩) (by assumption) ?_
      try simp only [List.getElem_toArray, List.getElem_cons_succ, List.getElem_cons_zero, Act.put, List.setIfInBounds_toArray, List.set_cons_zero, List.set_cons_succ]
      refine wpAnyH_take (i := 8) (v := undef) rfl (by kernel_rfl) (by kernel_rfl) (by kernel_rfl) (fun _ _ _ h => h) (Or.inr ⟨by rfl, rfl⟩) (by assumption) ?_
      try simp only [List.getElem_toArray, List.getElem_cons_succ, List.getElem_cons_zero, Act.put, List.setIfInBounds_toArray, List.set_cons_zero, List.set_cons_succ]
      refine wpAnyH_take (i := 9) (v := undef) rfl (by kernel_rfl) (by kernel_rfl) (by kernel_rfl) (fun _ _ _ h => h) (Or.inr ⟨by rfl, rfl⟩) (by assumption) ?_
      try simp only [List.getElem_toArray, List.getElem_cons_succ, List.getElem_cons_zero, Act.put, List.setIfInBounds_toArray, List.set_cons_zero, List.set_cons_succ]
      refine wpAnyH_take (i := 10) (v := undef) rfl (by kernel_rfl) (by kernel_rfl) (by kernel_rfl) (fun _ _ _ h => h) (Or.inr ⟨by rfl, rfl⟩) (by assumption) ?_
      try simp only [List.getElem_toArray, List.getElem_cons_succ, List.getElem_cons_zero, Act.put, List.setIfInBounds_toArray, List.set_cons_zero, List.set_cons_succ]
      refine wpAnyH_take (i := 11) (v := undef) rfl (by kernel_rfl) (by kernel_rfl) (by kernel_rfl) (fun _ _ _ h => h) (Or.inr ⟨by rfl, rfl⟩) (by assumption) ?_
      try simp only [List.getElem_toArray, List.getElem_cons_succ, List.getElem_cons_zero, Act.put, List.setIfInBounds_toArray, List.set_cons_zero, List.set_cons_succ]
      refine wpAnyH_take (i := 12) (v := undef) rfl (by kernel_rfl) (by kernel_rfl) (by kernel_rfl) (fun _ _ _ h => h) (Or.inr ⟨by rfl, rfl⟩) (by assumption) ?_
      try simp only [List.getElem_toArray, List.getElem_cons_succ, List.getElem_cons_zero, Act.put, List.setIfInBounds_toArray, List.set_cons_zero, List.set_cons_succ]
      refine wpAnyH_take (i := 13) (v := undef) rfl (by kernel_rfl) (by kernel_rfl) (by kernel_rfl) (fun _ _ _ h => h) (Or.inr ⟨by rfl, rfl⟩) (by assumption) ?_
      try simp only [List.getElem_toArray, List.getElem_cons_succ, List.getElem_cons_zero, Act.put, List.setIfInBounds_toArray, List.set_cons_zero, List.set_cons_succ]
      refine wpAnyH_take (i := 14) (v := undef) rfl (by kernel_rfl) (by kernel_rfl) (by kernel_rfl) (fun _ _ _ h => h) (Or.inr ⟨by rfl, rfl⟩) (by assumption) ?_
      try simp only [List.getElem_toArray, List.getElem_cons_succ, List.getElem_cons_zero, Act.put, List.setIfInBounds_toArray, List.set_cons_zero, List.set_cons_succ]
      refine wpAnyH_take (i := 15) (v := undef) rfl (by kernel_rfl) (by kernel_rfl) (by kernel_rfl) (fun _ _ _ h => h) (Or.inr ⟨by rfl, rfl⟩) (by assumption) ?_
      try simp only [List.getElem_toArray, List.getElem_cons_succ, List.getElem_cons_zero, Act.put, List.setIfInBounds_toArray, List.set_cons_zero, List.set_cons_succ]
      refine wpAnyH_take (i := 16) (v := ?vBb16) rfl (by kernel_rfl) (by kernel_rfl) (by kernel_rfl) (fun _ _ _ h => h) (Or.inl ⟨by rfl, ?yBb16⟩) (by assumption) ?_
      case yBb16 => intro w hSw; (try dsimp only at hSw); go_simp <;> with_reducible rfl
      try simp only [List.getElem_toArray, List.getElem_cons_succ, List.getElem_cons_zero, Act.put, List.setIfInBounds_toArray, List.set_cons_zero, List.set_cons_succ]
      refine wpAnyH_done (by kernel_rfl) ?_ _
      have hP8 := bt hbel.out hP
      have hq := hHeld.1
      have hz8 : Below w8.heap.size w8 wr := hbel.out
      have hq8 := bt hz8 hq
      obtain ⟨y0, y1, y2, y3, y4⟩ := (FA.out.keeps hq8).2
      have rz := Below.refl wr.heap.size wr
      clear hHeld
      go_wp2_with (at_builtin; refine wpList_append_sees rfl (.tmp 122) (.tmp 127) 30 27 rfl Try.underlying30 op_info rfl (by decide) w8.heap.size _ (m) csw rfl (own_stays SOw.out ?hb) _ 1 [.int .u8 (k : Int), .int .u32 (t : Int), .int .u8 (r : Int), .slice uo nu uc, .int .i64 p] rfl (sees_blk5 (e := 27) ?hG) FOX.out ?k1 ?k2 ?hz ?_)
      case k1 => omega
      case k2 => omega
      case hb => repeat' (first | assumption | (with_reducible refine Below.drew ?_) | (with_reducible refine below_draw ?_ _) | (with_reducible refine alloc_bs ?_ _) | fail)
      case hG => repeat' (first | ((with_reducible refine blk_new ?_); (first | rfl | (simp; done))) | (with_reducible refine blk_drew ?_) | (with_reducible refine blk_old ?_))
      case hz => (refine Below.size (?_ : Below w8.heap.size w8 _); repeat' (first | assumption | (with_reducible refine Below.drew ?_) | (with_reducible refine below_draw ?_ _) | (with_reducible refine alloc_bs ?_ _) | fail))
      rintro v7Bb w7Bb o7Bb g7Bb b7Bb
      have hb7Bb : Below w8.heap.size w8 w7Bb := Below.trans (by repeat' (first | assumption | (with_reducible refine Below.drew ?_) | (with_reducible refine below_draw ?_ _) | (with_reducible refine alloc_bs ?_ _) | fail)) b7Bb
      have S7Bb : Hid (ShrO w8 w7Bb v7Bb (W ++ [x])) := ⟨_, by rw [List.length_append, ← HLw.out, List.length_singleton]; exact o7Bb, Enc.rows_snoc SRw.out INX.out⟩
      obtain ⟨vo7Bb, vc7Bb, rfl⟩ : ∃ ao cap, v7Bb = .slice ao (m + 1) cap := Sees.shape (Sees.own o7Bb)
      have B7Bb := Lib.hid hb7Bb
      have HM9 : Hid (m + 1 = (W ++ [x]).length) := by unfold Hid; rw [List.length_append, List.length_singleton, ← HLw.out]
      clear o7Bb g7Bb b7Bb hb7Bb y0 y1 y2 y3 y4
      clear hq hq8 hz8 rz
      go_wp2
      go_roundw
      case rel => exact ⟨j + 1, m + 1, false, W ++ [x], by omega, by go_num, rfl, ⟨vo7Bb, vc7Bb, rfl⟩, by omega, HM9, S7Bb, NX9, (fun _ => ⟨by first | trivial | rfl, HK2.out⟩), B7Bb⟩
      case measure => simp [intOf]; omega
    have d5 : decide (cv < 0) = true := decide_eq_true hcv
    have NX9 : Hid (St l o false q0 (j + 1) (W ++ [o] ++ [x], true)) := by
      have h := NX.out
      unfold Hid
      rw [show wstep false o (W, false) x = (W ++ [o] ++ [x], true) by simp [wstep, hkp, HCV.out, hcv]] at h
      exact h
    have HV9 : Hid (true = false → false = false ∧ k0 = 2) := fun h => by cases h
    clear NX KX hkp
    go_wp2
    refine wp_region_held_drew (S := fun w' => Below wr.heap.size wr w' ∧ w'.cell? ⟨w.heap.size, 0, none⟩ = some (.int .u8 (k0 : Int)) ∧ w'.cell? ⟨w.heap.size, 3, none⟩ = some (.slice uo0 nu0 uc0) ∧ w'.cell? ⟨bb, oo + j * 5 + 1, none⟩ = some (.int .u32 (t : Int)) ∧ w'.cell? ⟨bb, oo + j * 5 + 2, none⟩ = some (.int .u8 (r : Int)) ∧ w'.cell? ⟨bb, oo + j * 5 + 3, none⟩ = some (.slice uo nu uc)) (by kernel_rfl) (SK.out _ (drew1 _)) (fun hHeld => ?_)
    refine wpAnyH_take (i := 0) (v := ?vC0) rfl (by kernel_rfl) (by kernel_rfl) (by kernel_rfl) (fun _ _ _ h => h) (Or.inl ⟨by rfl, ?yC0⟩) (by assumption) ?_
    case yC0 => intro w hSw; (try dsimp only at hSw); go_simp <;> with_reducible rfl
    try simp only [List.getElem_toArray, List.getElem_cons_zero, Act.put, List.setIfInBounds_toArray, List.set_cons_zero, List.set_cons_succ]
    refine wpAnyH_take (i := 1) (v := ?vC1) rfl (by kernel_rfl) (by kernel_rfl) (by kernel_rfl) (fun _ _ _ h => h) (Or.inl ⟨by rfl, ?yC1⟩) (by assumption) ?_
    case yC1 => intro w hSw; (try dsimp only at hSw); go_simp <;> with_reducible rfl
    try simp only [List.getElem_toArray, List.getElem_cons_succ, List.getElem_cons_zero, Act.put, List.setIfInBounds_toArray, List.set_cons_zero, List.set_cons_succ]
    refine wpAnyH_take (i := 2) (v := ?vC2) rfl (by kernel_rfl) (by kernel_rfl) (by kernel_rfl) (fun _ _ _ h => h) (Or.inl ⟨by rfl, ?yC2⟩) (by assumption) ?_
    case yC2 => intro w hSw; (try dsimp only at hSw); go_simp <;> with_reducible rfl
    try simp only [List.getElem_toArray, List.getElem_cons_succ, List.getElem_cons_zero, Act.put, List.setIfInBounds_toArray, List.set_cons_zero, List.set_cons_succ]
    refine wpAnyH_take (i := 3) (v := ?vC3) rfl (by kernel_rfl) (by kernel_rfl) (by kernel_rfl) (fun _ _ _ h => h) (Or.inl ⟨by rfl, ?yC3⟩) (by assumption) ?_
    case yC3 => intro w hSw; (try dsimp only at hSw); go_simp <;> with_reducible rfl
    try simp only [List.getElem_toArray, List.getElem_cons_succ, List.getElem_cons_zero, Act.put, List.setIfInBounds_toArray, List.set_cons_zero, List.set_cons_succ]
    refine wpAnyH_take (i := 4) (v := ?vC4) rfl (by kernel_rfl) (by kernel_rfl) (by kernel_rfl) (fun _ _ _ h => h) (Or.inl ⟨by rfl, ?yC4⟩) (by assumption) ?_
    case yC4 => intro w hSw; (try dsimp only at hSw); go_simp <;> with_reducible rfl
    try simp only [List.getElem_toArray, List.getElem_cons_succ, List.getElem_cons_zero, Act.put, List.setIfInBounds_toArray, List.set_cons_zero, List.set_cons_succ]
    refine wpAnyH_take (i := 5) (v := ?vC5) rfl (by kernel_rfl) (by kernel_rfl) (by kernel_rfl) (fun _ _ _ h => h) (Or.inl ⟨by rfl, ?yC5⟩) (by assumption) ?_
    case yC5 => intro w hSw; (try dsimp only at hSw); go_simp <;> with_reducible rfl
    try simp only [List.getElem_toArray, List.getElem_cons_succ, List.getElem_cons_zero, Act.put, List.setIfInBounds_toArray, List.set_cons_zero, List.set_cons_succ]
    refine wpAnyH_take (i := 6) (v := ?vC6) rfl (by kernel_rfl) (by kernel_rfl) (by kernel_rfl) (fun _ _ _ h => h) (Or.inl ⟨by rfl, ?yC6⟩) (by assumption) ?_
    case yC6 => intro w hSw; (try dsimp only at hSw); go_simp <;> with_reducible rfl
    try simp only [List.getElem_toArray, List.getElem_cons_succ, List.getElem_cons_zero, Act.put, List.setIfInBounds_toArray, List.set_cons_zero, List.set_cons_succ]
    refine wpAnyH_take (i := 7) (v := ?vC7) rfl (by kernel_rfl) (by kernel_rfl) (by kernel_rfl) (fun _ _ _ h => h) (Or.inl ⟨by rfl, ?yC7⟩) (by assumption) ?_
    case yC7 => intro w hSw; (try dsimp only at hSw); go_simp <;> with_reducible rfl
    try simp only [List.getElem_toArray, List.getElem_cons_succ, List.getElem_cons_zero, Act.put, List.setIfInBounds_toArray, List.set_cons_zero, List.set_cons_succ]
    refine wpAnyH_take (i := 8) (v := ?vC8) rfl (by kernel_rfl) (by kernel_rfl) (by kernel_rfl) (fun _ _ _ h => h) (Or.inl ⟨by rfl, ?yC8⟩) (by assumption) ?_
    case yC8 => intro w hSw; (try dsimp only at hSw); go_simp <;> with_reducible rfl
    try simp only [List.getElem_toArray, List.getElem_cons_succ, List.getElem_cons_zero, Act.put, List.setIfInBounds_toArray, List.set_cons_zero, List.set_cons_succ]
    refine wpAnyH_take (i := 9) (v := ?vC9) rfl (by kernel_rfl) (by kernel_rfl) (by kernel_rfl) (fun _ _ _ h => h) (Or.inl ⟨by rfl, ?yC9⟩) (by assumption) ?_
    case yC9 => intro w hSw; (try dsimp only at hSw); go_simp <;> with_reducible rfl
    try simp only [List.getElem_toArray, List.getElem_cons_succ, List.getElem_cons_zero, Act.put, List.setIfInBounds_toArray, List.set_cons_zero, List.set_cons_succ]
    refine wpAnyH_ready (rs := [10]) (by kernel_rfl) (by simp) ?_
    refine AllReadyH.cons rfl (fun K hK => ?_) ?zC10
    case zC10 => exact AllReadyH.nil
    go_simp
    refine (CX.out _ (bt hbel.out hHeld.1)).mono ?_
    rintro e w9C10 ⟨rfl, b9⟩
    refine hK.out _ _ (SK.out _ (bt hHeld.1 b9)) (fun hNew => ?_)
    clear hHeld
    have hHeld := hNew
    clear hNew hK K
    try simp only [List.getElem_toArray, List.getElem_cons_succ, List.getElem_cons_zero, Act.put, List.setIfInBounds_toArray, List.set_cons_zero, List.set_cons_succ]
    refine wpAnyH_take (i := 11) (v := ?vC11) rfl (by kernel_rfl) (by kernel_rfl) (by kernel_rfl) (fun _ _ _ h => h) (Or.inl ⟨by rfl, ?yC11⟩) (by assumption) ?_
    case yC11 => intro w hSw; (try dsimp only at hSw); go_simp <;> with_reducible rfl
    try simp only [List.getElem_toArray, List.getElem_cons_succ, List.getElem_cons_zero, Act.put, List.setIfInBounds_toArray, List.set_cons_zero, List.set_cons_succ]
    refine wpAnyH_take (i := 12) (v := ?vC12) rfl (by kernel_rfl) (by kernel_rfl) (by kernel_rfl) (fun _ _ _ h => h) (Or.inl ⟨by rfl, ?yC12⟩) (by assumption) ?_
    case yC12 => intro w hSw; (try dsimp only at hSw); go_simp <;> with_reducible rfl
    try simp only [List.getElem_toArray, List.getElem_cons_succ, List.getElem_cons_zero, Act.put, List.setIfInBounds_toArray, List.set_cons_zero, List.set_cons_succ]
    refine wpAnyH_done (by kernel_rfl) ?_ _
    have hP := hHeld.1
    have hP8 := bt hbel.out hP
    obtain ⟨c0, c1, c2, c3, c4⟩ := CE8.out _ hP8
    clear hHeld CX
    go_wp2_with (at_builtin; refine wpList_append_sees rfl (.tmp 101) (.tmp 103) 30 27 rfl Try.underlying30 op_info rfl (by decide) w8.heap.size _ (m) csw rfl (own_stays SOw.out ?hb) _ 1 [.int .u8 (k0 : Int), .int .u32 (t0 : Int), .int .u8 (r0 : Int), .slice uo0 nu0 uc0, .int .i64 p0] rfl (sees_blk5 (e := 27) ?hG) FOO.out ?k1 ?k2 ?hz ?_)
    case k1 => omega
    case k2 => omega
    case hb => repeat' (first | assumption | (with_reducible refine Below.drew ?_) | (with_reducible refine below_draw ?_ _) | (with_reducible refine alloc_bs ?_ _) | fail)
    case hG => repeat' (first | ((with_reducible refine blk_new ?_); (first | rfl | (simp; done))) | (with_reducible refine blk_drew ?_) | (with_reducible refine blk_old ?_))
    case hz => (refine Below.size (?_ : Below w8.heap.size w8 _); repeat' (first | assumption | (with_reducible refine Below.drew ?_) | (with_reducible refine below_draw ?_ _) | (with_reducible refine alloc_bs ?_ _) | fail))
    rintro v6 w6 o6 g6 b6
    have hb6 : Below w8.heap.size w8 w6 := Below.trans (by repeat' (first | assumption | (with_reducible refine Below.drew ?_) | (with_reducible refine below_draw ?_ _) | (with_reducible refine alloc_bs ?_ _) | fail)) b6
    have S6 : Hid (ShrO w8 w6 v6 (W ++ [o])) := ⟨_, by rw [List.length_append, ← HLw.out, List.length_singleton]; exact o6, Enc.rows_snoc SRw.out INO.out⟩
    obtain ⟨vo6, vc6, rfl⟩ : ∃ ao cap, v6 = .slice ao (m + 1) cap := Sees.shape (Sees.own o6)
    have B6 := Lib.hid hb6
    have HLz : Hid (m + 1 = (W ++ [o]).length) := by unfold Hid; rw [List.length_append, List.length_singleton, ← HLw.out]
    clear o6 g6 b6 c0 c1 c2 c3 c4 hP hP8
    have SKB : Hid (∀ w' : World, Below w6.heap.size w6 w' → Below w6.heap.size w6 w' ∧ w'.cell? ⟨w.heap.size, 0, none⟩ = some (.int .u8 (k0 : Int)) ∧ w'.cell? ⟨w.heap.size, 3, none⟩ = some (.slice uo0 nu0 uc0) ∧ w'.cell? ⟨bb, oo + j * 5 + 1, none⟩ = some (.int .u32 (t : Int)) ∧ w'.cell? ⟨bb, oo + j * 5 + 2, none⟩ = some (.int .u8 (r : Int)) ∧ w'.cell? ⟨bb, oo + j * 5 + 3, none⟩ = some (.slice uo nu uc)) := fun W h => by
      have a1 := CE8.out W (bt B6.out h)
      have a2 := (FA.out.keeps (bt B6.out h)).2
      exact ⟨h, a1.1, a1.2.2.2.1, a2.2.1, a2.2.2.1, a2.2.2.2.1⟩
    obtain ⟨csz, soz, srz⟩ := S6.out
    rw [← HLz.out] at soz
    have SOz := Lib.hid soz
    have SRz := Lib.hid srz
    clear soz srz
    go_wp2
    refine wp_region_held_drew (S := fun w' => Below w6.heap.size w6 w' ∧ w'.cell? ⟨w.heap.size, 0, none⟩ = some (.int .u8 (k0 : Int)) ∧ w'.cell? ⟨w.heap.size, 3, none⟩ = some (.slice uo0 nu0 uc0) ∧ w'.cell? ⟨bb, oo + j * 5 + 1, none⟩ = some (.int .u32 (t : Int)) ∧ w'.cell? ⟨bb, oo + j * 5 + 2, none⟩ = some (.int .u8 (r : Int)) ∧ w'.cell? ⟨bb, oo + j * 5 + 3, none⟩ = some (.slice uo nu uc)) (by kernel_rfl) (SKB.out _ (drew1 _)) (fun hHeld => ?_)
    refine wpAnyH_take (i := 0) (v := ?vCb0) rfl (by kernel_rfl) (by kernel_rfl) (by kernel_rfl) (fun _ _ _ h => h) (Or.inl ⟨by rfl, ?yCb0⟩) (by assumption) ?_
    case yCb0 => intro w hSw; (try dsimp only at hSw); go_simp <;> with_reducible rfl
    try simp only [List.getElem_toArray, List.getElem_cons_zero, Act.put, List.setIfInBounds_toArray, List.set_cons_zero, List.set_cons_succ]
    refine wpAnyH_take (i := 1) (v := ?vCb1) rfl (by kernel_rfl) (by kernel_rfl) (by kernel_rfl) (fun _ _ _ h => h) (Or.inl ⟨by rfl, ?yCb1⟩) (by assumption) ?_
    case yCb1 => intro w hSw; (try dsimp only at hSw); go_simp <;> with_reducible rfl
    try simp only [List.getElem_toArray, List.getElem_cons_succ, List.getElem_cons_zero, Act.put, List.setIfInBounds_toArray, List.set_cons_zero, List.set_cons_succ]
    refine wpAnyH_take (i := 2) (v := ?vCb2) rfl (by kernel_rfl) (by kernel_rfl) (by kernel_rfl) (fun _ _ _ h => h) (Or.inl ⟨by rfl, ?yCb2⟩) (by assumption) ?_
    case yCb2 => intro w hSw; (try dsimp only at hSw); go_simp <;> with_reducible rfl
    try simp only [List.getElem_toArray, List.getElem_cons_succ, List.getElem_cons_zero, Act.put, List.setIfInBounds_toArray, List.set_cons_zero, List.set_cons_succ]
    refine wpAnyH_take (i := 3) (v := ?vCb3) rfl (by kernel_rfl) (by kernel_rfl) (by kernel_rfl) (fun _ _ _ h => h) (Or.inl ⟨by rfl, ?yCb3⟩) (by assumption) ?_
    case yCb3 => intro w hSw; (try dsimp only at hSw); go_simp <;> with_reducible rfl
    try simp only [List.getElem_toArray, List.getElem_cons_succ, List.getElem_cons_zero, Act.put, List.setIfInBounds_toArray, List.set_cons_zero, List.set_cons_succ]
    refine wpAnyH_take (i := 4) (v := ?vCb4) rfl (by kernel_rfl) (by kernel_rfl) (by kernel_rfl) (fun _ _ _ h => h) (Or.inl ⟨by rfl, ?yCb4⟩) (by assumption) ?_
    case yCb4 => intro w hSw; (try dsimp only at hSw); go_simp <;> with_reducible rfl
    try simp only [List.getElem_toArray, List.getElem_cons_succ, List.getElem_cons_zero, Act.put, List.setIfInBounds_toArray, List.set_cons_zero, List.set_cons_succ]
    refine wpAnyH_take (i := 5) (v := ?vCb5) rfl (by kernel_rfl) (by kernel_rfl) (by kernel_rfl) (fun _ _ _ h => h) (Or.inl ⟨by rfl, ?yCb5⟩) (by assumption) ?_
    case yCb5 => intro w hSw; (try dsimp only at hSw); go_simp <;> with_reducible rfl
    try simp only [List.getElem_toArray, List.getElem_cons_succ, List.getElem_cons_zero, Act.put, List.setIfInBounds_toArray, List.set_cons_zero, List.set_cons_succ]
    refine wpAnyH_take (i := 6) (v := ?vCb6) rfl (by kernel_rfl) (by kernel_rfl) (by kernel_rfl) (fun _ _ _ h => h) (Or.inl ⟨by rfl, ?yCb6⟩) (by assumption) ?_
    case yCb6 => intro w hSw; (try dsimp only at hSw); go_simp <;> with_reducible rfl
    try simp only [List.getElem_toArray, List.getElem_cons_succ, List.getElem_cons_zero, Act.put, List.setIfInBounds_toArray, List.set_cons_zero, List.set_cons_succ]
    refine wpAnyH_take (i := 7) (v := undef) rfl (by kernel_rfl) (by kernel_rfl) (by kernel_rfl) (fun _ _ _ h => h) (Or.inr ⟨by rfl, rfl⟩) (by assumption) ?_
    try simp only [List.getElem_toArray, List.getElem_cons_succ, List.getElem_cons_zero, Act.put, List.setIfInBounds_toArray, List.set_cons_zero, List.set_cons_succ]
    refine wpAnyH_take (i := 8) (v := undef) rfl (by kernel_rfl) (by kernel_rfl) (by kernel_rfl) (fun _ _ _ h => h) (Or.inr ⟨by rfl, rfl⟩) (by assumption) ?_
    try simp only [List.getElem_toArray, List.getElem_cons_succ, List.getElem_cons_zero, Act.put, List.setIfInBounds_toArray, List.set_cons_zero, List.set_cons_succ]
    refine wpAnyH_take (i := 9) (v := undef) rfl (by kernel_rfl) (by kernel_rfl) (by kernel_rfl) (fun _ _ _ h => h) (Or.inr ⟨by rfl, rfl⟩) (by assumption) ?_
    try simp only [List.getElem_toArray, List.getElem_cons_succ, List.getElem_cons_zero, Act.put, List.setIfInBounds_toArray, List.set_cons_zero, List.set_cons_succ]
    refine wpAnyH_take (i := 10) (v := undef) rfl (by kernel_rfl) (by kernel_rfl) (by kernel_rfl) (fun _ _ _ h => h) (Or.inr ⟨by rfl, rfl⟩) (by assumption) ?_
    try simp only [List.getElem_toArray, List.getElem_cons_succ, List.getElem_cons_zero, Act.put, List.setIfInBounds_toArray, List.set_cons_zero, List.set_cons_succ]
    refine wpAnyH_take (i := 11) (v := undef) rfl (by kernel_rfl) (by kernel_rfl) (by kernel_rfl) (fun _ _ _ h => h) (Or.inr ⟨by rfl, rfl⟩) (by assumption) ?_
    try simp only [List.getElem_toArray, List.getElem_cons_succ, List.getElem_cons_zero, Act.put, List.setIfInBounds_toArray, List.set_cons_zero, List.set_cons_succ]
    refine wpAnyH_take (i := 12) (v := undef) rfl (by kernel_rfl) (by kernel_rfl) (by kernel_rfl) (fun _ _ _ h => h) (Or.inr ⟨by rfl, rfl⟩) (by assumption) ?_
    try simp only [List.getElem_toArray, List.getElem_cons_succ, List.getElem_cons_zero, Act.put, List.setIfInBounds_toArray, List.set_cons_zero, List.set_cons_succ]
    refine wpAnyH_take (i := 13) (v := undef) rfl (by kernel_rfl) (by kernel_rfl) (by kernel_rfl) (fun _ _ _ h => h) (Or.inr ⟨by rfl, rfl⟩) (by assumption) ?_
    try simp only [List.getElem_toArray, List.getElem_cons_succ, List.getElem_cons_zero, Act.put, List.setIfInBounds_toArray, List.set_cons_zero, List.set_cons_succ]
    refine wpAnyH_take (i := 14) (v := undef) rfl (by kernel_rfl) (by kernel_rfl) (by kernel_rfl) (fun _ _ _ h => h) (Or.inr ⟨by rfl, rfl⟩) (by assumption) ?_
    try simp only [List.getElem_toArray, List.getElem_cons_succ, List.getElem_cons_zero, Act.put, List.setIfInBounds_toArray, List.set_cons_zero, List.set_cons_succ]
    refine wpAnyH_take (i := 15) (v := undef) rfl (by kernel_rfl) (by kernel_rfl) (by kernel_rfl) (fun _ _ _ h => h) (Or.inr ⟨by rfl, rfl⟩) (by assumption) ?_
    try simp only [List.getElem_toArray, List.getElem_cons_succ, List.getElem_cons_zero, Act.put, List.setIfInBounds_toArray, List.set_cons_zero, List.set_cons_succ]
    refine wpAnyH_take (i := 16) (v := ?vCb16) rfl (by kernel_rfl) (by kernel_rfl) (by kernel_rfl) (fun _ _ _ h => h) (Or.inl ⟨by rfl, ?yCb16⟩) (by assumption) ?_
    case yCb16 => intro w hSw; (try dsimp only at hSw); go_simp <;> with_reducible rfl
    try simp only [List.getElem_toArray, List.getElem_cons_succ, List.getElem_cons_zero, Act.put, List.setIfInBounds_toArray, List.set_cons_zero, List.set_cons_succ]
    refine wpAnyH_done (by kernel_rfl) ?_ _
    have hq := hHeld.1
    have hz8 : Below w8.heap.size w8 w6 := B6.out
    have hq8 := bt hz8 hq
    obtain ⟨y0, y1, y2, y3, y4⟩ := (FA.out.keeps hq8).2
    have rz := Below.refl w6.heap.size w6
    clear hHeld
    go_wp2_with (at_builtin; refine wpList_append_sees rfl (.tmp 122) (.tmp 127) 30 27 rfl Try.underlying30 op_info rfl (by decide) w8.heap.size _ (m + 1) csz rfl (own_stays SOz.out ?hb) _ 1 [.int .u8 (k : Int), .int .u32 (t : Int), .int .u8 (r : Int), .slice uo nu uc, .int .i64 p] rfl (sees_blk5 (e := 27) ?hG) FOX.out ?k1 ?k2 ?hz ?_)
    case k1 => omega
    case k2 => omega
    case hb => repeat' (first | assumption | (with_reducible refine Below.drew ?_) | (with_reducible refine below_draw ?_ _) | (with_reducible refine alloc_bs ?_ _) | fail)
    case hG => repeat' (first | ((with_reducible refine blk_new ?_); (first | rfl | (simp; done))) | (with_reducible refine blk_drew ?_) | (with_reducible refine blk_old ?_))
    case hz => (refine Below.size (?_ : Below w8.heap.size w8 _); repeat' (first | assumption | (with_reducible refine Below.drew ?_) | (with_reducible refine below_draw ?_ _) | (with_reducible refine alloc_bs ?_ _) | fail))
    rintro v7Cb w7Cb o7Cb g7Cb b7Cb
    have hb7Cb : Below w8.heap.size w8 w7Cb := Below.trans (by repeat' (first | assumption | (with_reducible refine Below.drew ?_) | (with_reducible refine below_draw ?_ _) | (with_reducible refine alloc_bs ?_ _) | fail)) b7Cb
    have S7Cb : Hid (ShrO w8 w7Cb v7Cb (W ++ [o] ++ [x])) := ⟨_, by rw [List.length_append, ← HLz.out, List.length_singleton]; exact o7Cb, Enc.rows_snoc SRz.out INX.out⟩
    obtain ⟨vo7Cb, vc7Cb, rfl⟩ : ∃ ao cap, v7Cb = .slice ao (m + 1 + 1) cap := Sees.shape (Sees.own o7Cb)
    have B7Cb := Lib.hid hb7Cb
    have HM9 : Hid (m + 1 + 1 = (W ++ [o] ++ [x]).length) := by unfold Hid; rw [List.length_append, List.length_singleton, ← HLz.out]
    clear o7Cb g7Cb b7Cb hb7Cb y0 y1 y2 y3 y4
    clear hq hq8 hz8 rz
    go_wp2
    go_roundw
    case rel => exact ⟨j + 1, m + 1 + 1, true, W ++ [o] ++ [x], by omega, by go_num, rfl, ⟨vo7Cb, vc7Cb, rfl⟩, by omega, HM9, S7Cb, NX9, HV9, B7Cb⟩
    case measure => simp [intOf]; omega
end Go.Proofs.Ytpgdnenkjommfaa.Marks
