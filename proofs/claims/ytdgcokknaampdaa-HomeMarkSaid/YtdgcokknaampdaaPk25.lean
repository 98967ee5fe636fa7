/- HomeMark answers true, and changes nothing that was there. Conditions: none. -/
import Derived.Deep.DeepCutAuto
import Derived.Deep.DrawnRows
import Derived.Deep.RegionHeld3
import Derived.Test.YtdgcokknaampdaaPk19
import Derived.Test.YtdgcokknaampdaaPk24
import Derived.Test.YtdgcokknaampdaaPk22
import Derived.Test.YtdgcokknaampdaaPk09
import Derived.Test.YtdgcokknaampdaaPk06

namespace Go.Proofs.Ytdgcokknaampdaa.Homes
open Go.RowKit Go.WideShapes Stamp Go.Proofs.Ytdgcokknaampdaa.Place Ops Codes Bags Marks
attribute [local go_sem ↓] Go.wp_at_zero Go.wp_at_succ
attribute [local go_sem] yielded_undef

theorem found_has {l : List Opn} (a : Id) (h : Bag l) : (findL l a).isSome = hasO l a := by unfold findL; rw [(bagB_iff l).2 h, if_pos rfl]; rfl
theorem homeE_zero {l : List Opn} {p : List Run} (h : homeE l p = 0) : (Bag l ∧ anyB p = true) ∧ homeL l p = homeM (livesM l l) p := by
  unfold homeE at h
  by_cases hc : (bagB l && anyB p) = true
  · have h2 := hc
    rw [Bool.and_eq_true] at h2
    exact ⟨⟨(bagB_iff l).1 h2.1, h2.2⟩, by unfold homeL; rw [if_pos hc]⟩
  · rw [if_neg hc] at h; cases h
theorem homeE_yes {l : List Opn} {p : List Run} (hb : Bag l) (hp : anyB p = true) : homeE l p = 0 := by unfold homeE; rw [(bagB_iff l).2 hb, hp]; rfl
theorem mark_facts {l : List Opn} {o : Opn} {p : List Run} (h1 : homeE l p = 0) (h2 : homeE l o.pl = 0) (h3 : addE l o = 0) :
    mayO o = true ∧ Bag l ∧ homeE (addL l o) p = 0 ∧
    (¬ (hasO l (idO o) = false ∧ o.k = 4 ∧ homeL l p = tgt o) → ¬ ((hasO l (idO o) = false ∧ o.k = 2 ∧ joinedM l (idO o) = false) ∧ homeL l p = homeL l o.pl ∧ cmp o.pl p ≤ 0) → homeL (addL l o) p = homeL l p) ∧
    (hasO l (idO o) = false → o.k = 2 → joinedM l (idO o) = false → homeL l p = homeL l o.pl → cmp o.pl p ≤ 0 → homeL (addL l o) p = idO o) ∧
    (hasO l (idO o) = false → o.k = 4 → homeL l p = tgt o → homeL (addL l o) p = aheadL l (homeL l p) ∧ aheadE l (homeL l p) = 0) := by
  obtain ⟨⟨hb, hp⟩, e1⟩ := homeE_zero h1
  obtain ⟨⟨-, ho⟩, e2⟩ := homeE_zero h2
  obtain ⟨hax, hbx⟩ := addL_bag h3
  have hmo : mayO o = true := by
    rcases addE_cases l o with ⟨h, _⟩ | ⟨h, _⟩ | ⟨_, _, h, _⟩
    · omega
    · omega
    · exact h
  have e3 := homeE_yes hbx hp
  have e4 := (homeE_zero e3).2
  have e5 : joinedM l (idO o) = ended l (idO o) := by unfold joinedM; rw [(bagB_iff l).2 hb, Bool.true_and]
  have hbw : Bag (withO l o) := by rw [← hax]; exact hbx
  obtain ⟨hm, hn⟩ := home_more (p := p) hb hmo hbw hp
  rw [e5, e4, e1, e2, hax, hm]
  refine ⟨hmo, hb, by rw [← hax]; exact e3, fun ha hc => ?_, fun hh hk he hs hc => ?_, fun hh hk ht => ⟨?_, hn ⟨hh, hk, ht⟩⟩⟩
  · unfold wantM; rw [if_neg ha, if_neg hc]
  · unfold wantM; rw [if_neg (by omega), if_pos ⟨⟨hh, hk, he⟩, hs, hc⟩]
  · unfold wantM; rw [if_pos ⟨hh, hk, ht⟩]

set_option maxRecDepth 100000 in
set_option maxHeartbeats 32000000 in
theorem mark_walk {l : List Opn} {ao : Option Addr} {cap : Nat} {o : Opn} {ao1 : Option Addr} {cap1 : Nat} {p : List Run} {ao2 : Option Addr} {cap2 : Nat} {w : World} (hr0 : OpL w (.slice ao l.length cap) l) (hr1 : Runs w (.slice ao1 o.pl.length cap1) o.pl) (hr2 : Runs w (.slice ao2 p.length cap2) p) :
    Calls Try.prog 6 #[.slice ao l.length cap, opv o (.slice ao1 o.pl.length cap1), .slice ao2 p.length cap2] w fun e w' => e = .returned (.bool true) ∧ Below w.heap.size w w' := by
  have HV : Hid (∀ W : World, Below w.heap.size w W → OpL W (.slice ao l.length cap) l) := fun W h => hr0.keeps h
  have HU : Hid (∀ W : World, Below w.heap.size w W → Runs W (.slice ao1 o.pl.length cap1) o.pl) := fun W h => hr1.keeps h
  have HP : Hid (∀ W : World, Below w.heap.size w W → Runs W (.slice ao2 p.length cap2) p) := fun W h => hr2.keeps h
  have AV := Lib.hid alive13_any
  have GR : Hid (∀ W : World, Below w.heap.size w W → Calls Try.prog 13 #[.slice ao l.length cap, .int .i64 60] W fun e w' => GrtO l 60 e ∧ W = w') := fun W h => greatO_any (HV.out W h)
  have hgr : ∀ {e : Ending}, GrtO l 60 e → ∃ g, e = .returned (.bool g) := fun ⟨g, h1, h2⟩ => ⟨g, h1⟩
  have FD : Hid (∀ W : World, Below w.heap.size w W → Calls Try.prog 25 #[.slice ao l.length cap, .agg #[.int .u32 (o.t : Int), .int .u8 (o.r : Int)]] W fun e w' => ∃ (x : Opn) (u : Value) (hd : Bool), e = .returned (.tuple #[opv x u, .bool hd]) ∧ (∃ ao cap, u = .slice ao x.pl.length cap) ∧ (Bag l → hd = hasO l (idO o)) ∧ Below W.heap.size W w') := fun W h => by
    refine (bFind_any (idO o) (HV.out W h)).mono ?_
    rintro e w' ⟨v, rfl, ho, hb⟩
    exact ⟨_, v, _, rfl, Sees.shape (Sees.own ho), fun hbag => found_has _ hbag, hb⟩
  have CO1 : Hid (∀ W : World, Below w.heap.size w W → Calls Try.prog 10 #[.slice ao l.length cap, .slice ao2 p.length cap2] W (OneI (homeL l p) (homeE l p) W)) := fun W h => hOf_any (HV.out W h) (HP.out W h)
  have CO2 : Hid (∀ W : World, Below w.heap.size w W → Calls Try.prog 10 #[.slice ao l.length cap, .slice ao1 o.pl.length cap1] W (OneI (homeL l o.pl) (homeE l o.pl) W)) := fun W h => hOf_any (HV.out W h) (HU.out W h)
  have AD : Hid (∀ W : World, Below w.heap.size w W → Calls Try.prog 24 #[.slice ao l.length cap, opv o (.slice ao1 o.pl.length cap1)] W (DoneN (addL l o) (addE l o) W)) := fun W h => bAdd_any (HV.out W h) (HU.out W h)
  have CO3 : Hid (∀ (W : World) (v : Value), OpL W v (addL l o) → Below w.heap.size w W → Calls Try.prog 10 #[v, .slice ao2 p.length cap2] W (OneI (homeL (addL l o) p) (homeE (addL l o) p) W)) := fun W v h h2 => hOf_any h (HP.out W h2)
  have JO : Hid (∀ W : World, Below w.heap.size w W → Calls Try.prog 26 #[.slice ao l.length cap, .agg #[.int .u32 (o.t : Int), .int .u8 (o.r : Int)]] W fun e w' => e = .returned (.bool (joinedM l (idO o))) ∧ Below W.heap.size W w') := fun W h => mJoined_any (idO o) (HV.out W h)
  have CM : Hid (∀ W : World, Below w.heap.size w W → Calls Try.prog 23 #[.slice ao1 o.pl.length cap1, .slice ao2 p.length cap2] W fun e w' => e = .returned (.int .i64 (cmp o.pl p)) ∧ Below W.heap.size W w') := fun W h => pCompare_any (HU.out W h) (HP.out W h)
  have LA : Hid (mayO o = true → ∀ W : World, Below w.heap.size w W → Calls Try.prog 27 #[.slice ao1 o.pl.length cap1] W fun e w' => e = .returned (.agg #[.int .u32 ((tgt o).t : Int), .int .u8 ((tgt o).r : Int)]) ∧ Below W.heap.size W w') := fun hm W h => by
    have := pLast_any (HU.out W h)
    have hc := tgt_cells hm
    rwa [← hc.1, ← hc.2] at this
  have AH : Hid (∀ W : World, Below w.heap.size w W → Calls Try.prog 7 #[.slice ao l.length cap, .agg #[.int .u32 ((homeL l p).t : Int), .int .u8 ((homeL l p).r : Int)]] W (OneI (aheadL l (homeL l p)) (aheadE l (homeL l p)) W)) := fun W h => hAhead_any (homeL l p) (HV.out W h)
  have MF : Hid (homeE l p = 0 → homeE l o.pl = 0 → addE l o = 0 → mayO o = true ∧ Bag l ∧ homeE (addL l o) p = 0 ∧
    (¬ (hasO l (idO o) = false ∧ o.k = 4 ∧ homeL l p = tgt o) → ¬ ((hasO l (idO o) = false ∧ o.k = 2 ∧ joinedM l (idO o) = false) ∧ homeL l p = homeL l o.pl ∧ cmp o.pl p ≤ 0) → homeL (addL l o) p = homeL l p) ∧
    (hasO l (idO o) = false → o.k = 2 → joinedM l (idO o) = false → homeL l p = homeL l o.pl → cmp o.pl p ≤ 0 → homeL (addL l o) p = idO o) ∧
    (hasO l (idO o) = false → o.k = 4 → homeL l p = tgt o → homeL (addL l o) p = aheadL l (homeL l p) ∧ aheadE l (homeL l p) = 0)) := fun h1 h2 h3 => mark_facts h1 h2 h3
  obtain ⟨n, hn⟩ : ∃ n, n = l.length := ⟨_, rfl⟩
  obtain ⟨nu0, hnu0⟩ : ∃ n, n = o.pl.length := ⟨_, rfl⟩
  obtain ⟨n2, hn2⟩ : ∃ n, n = p.length := ⟨_, rfl⟩
  obtain ⟨uo0, hu0⟩ : ∃ z, z = ao1 := ⟨_, rfl⟩
  obtain ⟨uc0, hc0⟩ : ∃ z, z = cap1 := ⟨_, rfl⟩
  have hn2m : n2 ≤ 9223372036854775807 := by rw [hn2]; exact hr2.max
  rw [← hnu0, ← hu0, ← hc0] at CO2 AD CM LA ⊢
  rw [← hn] at GR FD CO1 CO2 AD JO AH ⊢
  rw [← hn2] at CO1 CO3 CM ⊢
  have HO0 : Hid (∀ v : Value, opv o v = .agg #[.int .u8 (o.k : Int), .int .u32 (o.t : Int), .int .u8 (o.r : Int), v, .int .i64 o.p]) := fun v => rfl
  obtain ⟨hx, hhx⟩ : ∃ z, hasO l (idO o) = z := ⟨_, rfl⟩
  obtain ⟨ej, hej⟩ : ∃ z, joinedM l (idO o) = z := ⟨_, rfl⟩
  obtain ⟨cm, hcm⟩ : ∃ z, cmp o.pl p = z := ⟨_, rfl⟩
  obtain ⟨HA, hHA⟩ : ∃ z, homeL l p = z := ⟨_, rfl⟩
  obtain ⟨HB, hHB⟩ : ∃ z, homeL l o.pl = z := ⟨_, rfl⟩
  obtain ⟨HD, hHD⟩ : ∃ z, homeL (addL l o) p = z := ⟨_, rfl⟩
  obtain ⟨TG, hTG⟩ : ∃ z, tgt o = z := ⟨_, rfl⟩
  obtain ⟨AX, hAX⟩ : ∃ z, aheadL l HA = z := ⟨_, rfl⟩
  obtain ⟨EX, hEX⟩ : ∃ z, aheadE l HA = z := ⟨_, rfl⟩
  obtain ⟨E1, hE1⟩ : ∃ z, homeE l p = z := ⟨_, rfl⟩
  obtain ⟨E2, hE2⟩ : ∃ z, homeE l o.pl = z := ⟨_, rfl⟩
  obtain ⟨E3, hE3⟩ : ∃ z, addE l o = z := ⟨_, rfl⟩
  obtain ⟨E4, hE4⟩ : ∃ z, homeE (addL l o) p = z := ⟨_, rfl⟩
  obtain ⟨XL, hXL⟩ : ∃ z, addL l o = z := ⟨_, rfl⟩
  have HIO : Hid (idO o = ⟨o.t, o.r, o.ht, o.hr⟩) := rfl
  rw [hhx, hej, hcm, hHA, hHB, hHD, hTG, hAX, hEX, hE1, hE2, hE3, hE4, HIO.out] at MF
  rw [hHA, hE1] at CO1
  rw [hHB, hE2] at CO2
  rw [hHD, hE4] at CO3
  rw [hE3] at AD
  rw [hXL] at AD CO3
  rw [hej] at JO
  rw [hcm] at CM
  rw [hTG] at LA
  rw [hHA, hAX, hEX] at AH
  rw [hhx] at FD
  clear hej hcm hHA hHB hHD hTG hAX hEX hE1 hE2 hE3 hE4 hXL hhx HIO
  obtain ⟨T1, r1, hT1, hr1'⟩ := HA
  obtain ⟨T2, r2, hT2, hr2'⟩ := HB
  obtain ⟨T4, r4, hT4, hr4'⟩ := HD
  obtain ⟨T5, r5, hT5, hr5'⟩ := TG
  obtain ⟨T6, r6, hT6, hr6'⟩ := AX
  simp only [Id.mk.injEq] at MF
  obtain ⟨k0, hk0⟩ : ∃ z, o.k = z := ⟨_, rfl⟩
  obtain ⟨t0, ht0⟩ : ∃ z, o.t = z := ⟨_, rfl⟩
  obtain ⟨r0, hr0'⟩ : ∃ z, o.r = z := ⟨_, rfl⟩
  obtain ⟨p0, hp0⟩ : ∃ z, o.p = z := ⟨_, rfl⟩
  rw [hk0, ht0, hr0', hp0] at HO0
  rw [ht0, hr0'] at FD JO MF
  rw [hk0] at MF
  simp only [HO0.out] at AD ⊢
  have B_0 : Hid (Below w.heap.size w (w.alloc (.cells #[.int .u8 (k0 : Int), .int .u32 (t0 : Int), .int .u8 (r0 : Int), .slice uo0 nu0 uc0, .int .i64 p0] 39))) := (Below.refl _ _).alloc (Nat.le_refl _) _
  have BK_0 : Hid (Below (w.alloc (.cells #[.int .u8 (k0 : Int), .int .u32 (t0 : Int), .int .u8 (r0 : Int), .slice uo0 nu0 uc0, .int .i64 p0] 39)).heap.size (w.alloc (.cells #[.int .u8 (k0 : Int), .int .u32 (t0 : Int), .int .u8 (r0 : Int), .slice uo0 nu0 uc0, .int .i64 p0] 39)) (w.alloc (.cells #[.int .u8 (k0 : Int), .int .u32 (t0 : Int), .int .u8 (r0 : Int), .slice uo0 nu0 uc0, .int .i64 p0] 39))) := Below.refl _ _
  have CE : Hid (∀ W : World, Below (w.alloc (.cells #[.int .u8 (k0 : Int), .int .u32 (t0 : Int), .int .u8 (r0 : Int), .slice uo0 nu0 uc0, .int .i64 p0] 39)).heap.size (w.alloc (.cells #[.int .u8 (k0 : Int), .int .u32 (t0 : Int), .int .u8 (r0 : Int), .slice uo0 nu0 uc0, .int .i64 p0] 39)) W → W.cell? ⟨w.heap.size, 0, none⟩ = some (.int .u8 (k0 : Int)) ∧ W.cell? ⟨w.heap.size, 1, none⟩ = some (.int .u32 (t0 : Int)) ∧ W.cell? ⟨w.heap.size, 2, none⟩ = some (.int .u8 (r0 : Int)) ∧ W.cell? ⟨w.heap.size, 3, none⟩ = some (.slice uo0 nu0 uc0) ∧ W.cell? ⟨w.heap.size, 4, none⟩ = some (.int .i64 p0)) := fun W h => five_cells h
  clear hr0 hr1 hr2 hn hnu0 hn2 hu0 hc0 hk0 ht0 hr0' hp0 HO0 HV HU HP
  go_enter Try.func6, Try.ntmps6
  go_wp2_with fail
  refine (AV.out _).mono ?_
  rintro e w1 ⟨rfl, b1⟩
  have B_1 := Lib.hid (bt B_0.out b1)
  clear B_0
  have BK_2 := Lib.hid (bt BK_0.out b1)
  clear BK_0
  clear b1
  obtain ⟨c0, c1, c2, c3, c4⟩ := CE.out _ BK_2.out
  clear AV
  go_wp2_with fail
  refine (GR.out _ B_1.out).mono ?_
  rintro e w2 ⟨hg, rfl⟩
  obtain ⟨g, rfl⟩ := hgr hg
  clear hg hgr GR
  cases g
  rotate_left
  · go_wp2
    go_ret
    exact ⟨rfl, B_1.out⟩
  by_cases hm : 100 < n2
  · have t1 : decide ((100 : Int) < (n2 : Int)) = true := decide_eq_true (by omega)
    have u1 : decide (100 < n2) = true := decide_eq_true hm
    go_wp2
    go_ret
    exact ⟨rfl, B_1.out⟩
  have t1 : decide ((100 : Int) < (n2 : Int)) = false := decide_eq_false (by omega)
  have u1 : decide (100 < n2) = false := decide_eq_false hm
  by_cases hbig : 100 < nu0
  · have q1 : decide (100 < nu0) = true := decide_eq_true hbig
    have q2 : decide ((100 : Int) < (nu0 : Int)) = true := decide_eq_true (by omega)
    go_wp2
    go_ret
    exact ⟨rfl, B_1.out⟩
  have q1 : decide (100 < nu0) = false := decide_eq_false hbig
  have q2 : decide ((100 : Int) < (nu0 : Int)) = false := decide_eq_false (by omega)
  go_wp2_with fail
  refine (CO1.out _ B_1.out).mono ?_
  rintro e w3 ⟨rfl, b3⟩
  have B_3 := Lib.hid (bt B_1.out b3)
  clear B_1
  have BK_4 := Lib.hid (bt BK_2.out b3)
  clear BK_2
  clear b3
  clear c0 c1 c2 c3 c4 CO1 q1 q2 t1 u1 hm hbig
  have bo := (Below.refl w3.heap.size w3).alloc (Nat.le_refl _) (.cells #[.int .u32 (T1 : Int), .int .u8 (r1 : Int)] 24)
  have B_5 := Lib.hid (bt B_3.out bo)
  clear B_3
  have BK_6 := Lib.hid (bt BK_4.out bo)
  clear BK_4
  have P1_7 := Lib.hid (pair_new w3 (.int .u32 (T1 : Int)) (.int .u8 (r1 : Int)) 24)
  clear bo
  obtain ⟨c0, c1, c2, c3, c4⟩ := CE.out _ BK_6.out
  go_wp2_with fail
  refine (CO2.out _ B_5.out).mono ?_
  rintro e w4 ⟨rfl, b4⟩
  have B_8 := Lib.hid (bt B_5.out b4)
  clear B_5
  have BK_9 := Lib.hid (bt BK_6.out b4)
  clear BK_6
  have P1_10 := Lib.hid (P1_7.out.keeps b4)
  clear P1_7
  clear b4
  clear c0 c1 c2 c3 c4 CO2
  have bo := (Below.refl w4.heap.size w4).alloc (Nat.le_refl _) (.cells #[.int .u32 (T2 : Int), .int .u8 (r2 : Int)] 24)
  have B_11 := Lib.hid (bt B_8.out bo)
  clear B_8
  have BK_12 := Lib.hid (bt BK_9.out bo)
  clear BK_9
  have P1_13 := Lib.hid (P1_10.out.keeps bo)
  clear P1_10
  have P2_14 := Lib.hid (pair_new w4 (.int .u32 (T2 : Int)) (.int .u8 (r2 : Int)) 24)
  clear bo
  obtain ⟨c0, c1, c2, c3, c4⟩ := CE.out _ BK_12.out
  go_wp2_with fail
  refine (AD.out _ B_11.out).mono ?_
  rintro e w5 ⟨vx, rfl, o5, b5⟩
  have B_15 := Lib.hid (bt B_11.out b5)
  clear B_11
  have BK_16 := Lib.hid (bt BK_12.out b5)
  clear BK_12
  have P1_17 := Lib.hid (P1_13.out.keeps b5)
  clear P1_13
  have P2_18 := Lib.hid (P2_14.out.keeps b5)
  clear P2_14
  have X_19 := Lib.hid (o5.opl)
  clear b5 o5
  clear c0 c1 c2 c3 c4 AD
  go_wp2_with fail
  refine (CO3.out _ _ X_19.out B_15.out).mono ?_
  rintro e w6 ⟨rfl, b6⟩
  have B_20 := Lib.hid (bt B_15.out b6)
  clear B_15
  have BK_21 := Lib.hid (bt BK_16.out b6)
  clear BK_16
  have P1_22 := Lib.hid (P1_17.out.keeps b6)
  clear P1_17
  have P2_23 := Lib.hid (P2_18.out.keeps b6)
  clear P2_18
  have X_24 := Lib.hid (X_19.out.keeps b6)
  clear X_19
  clear b6
  clear CO3
  clear X_24
  have bo := (Below.refl w6.heap.size w6).alloc (Nat.le_refl _) (.cells #[.int .u32 (T4 : Int), .int .u8 (r4 : Int)] 24)
  have B_25 := Lib.hid (bt B_20.out bo)
  clear B_20
  have BK_26 := Lib.hid (bt BK_21.out bo)
  clear BK_21
  have P1_27 := Lib.hid (P1_22.out.keeps bo)
  clear P1_22
  have P2_28 := Lib.hid (P2_23.out.keeps bo)
  clear P2_23
  have P4_29 := Lib.hid (pair_new w6 (.int .u32 (T4 : Int)) (.int .u8 (r4 : Int)) 24)
  clear bo
  by_cases h1 : E1 = 0
  rotate_left
  · have d1 : (E1 != 0) = true := by simpa using h1
    clear MF
    go_wp2
    go_ret
    exact ⟨rfl, B_25.out⟩
  subst h1
  by_cases h2 : E2 = 0
  rotate_left
  · have d1 : (E2 != 0) = true := by simpa using h2
    clear MF
    go_wp2
    go_ret
    exact ⟨rfl, B_25.out⟩
  subst h2
  by_cases h3 : E3 = 0
  rotate_left
  · have d1 : (E3 != 0) = true := by simpa using h3
    clear MF
    go_wp2
    go_ret
    exact ⟨rfl, B_25.out⟩
  subst h3
  obtain ⟨hmo, hbag, rfl, hWn, hW2, hW4⟩ := MF.out rfl rfl rfl
  have WN := Lib.hid hWn
  have W2 := Lib.hid hW2
  have W4 := Lib.hid hW4
  have LA2 := Lib.hid (LA.out hmo)
  clear MF LA hWn hW2 hW4 hmo
  obtain ⟨c0, c1, c2, c3, c4⟩ := CE.out _ BK_26.out
  go_wp2_with fail
  refine (FD.out _ B_25.out).mono ?_
  rintro e w7 ⟨xf, uf, hd, rfl, ⟨af, cf, rfl⟩, hhd, b7⟩
  obtain rfl := hhd hbag
  have HOF : Hid (∀ v : Value, opv xf v = .agg #[.int .u8 (xf.k : Int), .int .u32 (xf.t : Int), .int .u8 (xf.r : Int), v, .int .i64 xf.p]) := fun v => rfl
  rw [HOF.out]
  obtain ⟨fk, hfk⟩ : ∃ z, (xf.k : Int) = z := ⟨_, rfl⟩
  obtain ⟨ft, hft⟩ : ∃ z, (xf.t : Int) = z := ⟨_, rfl⟩
  obtain ⟨fr, hfr⟩ : ∃ z, (xf.r : Int) = z := ⟨_, rfl⟩
  obtain ⟨fp, hfp⟩ : ∃ z, xf.p = z := ⟨_, rfl⟩
  obtain ⟨fn, hfn⟩ : ∃ z, xf.pl.length = z := ⟨_, rfl⟩
  rw [hfk, hft, hfr, hfp, hfn]
  clear hhd HOF hfk hft hfr hfp hfn hbag
  have B_30 := Lib.hid (bt B_25.out b7)
  clear B_25
  have BK_31 := Lib.hid (bt BK_26.out b7)
  clear BK_26
  have P1_32 := Lib.hid (P1_27.out.keeps b7)
  clear P1_27
  have P2_33 := Lib.hid (P2_28.out.keeps b7)
  clear P2_28
  have P4_34 := Lib.hid (P4_29.out.keeps b7)
  clear P4_29
  clear b7
  clear c0 c1 c2 c3 c4 FD
  have U7 : Hid (∀ W : World, Below w7.heap.size w7 W → W.cell? ⟨w.heap.size, 0, none⟩ = some (.int .u8 (k0 : Int)) ∧ W.cell? ⟨w.heap.size, 1, none⟩ = some (.int .u32 (t0 : Int)) ∧ W.cell? ⟨w.heap.size, 2, none⟩ = some (.int .u8 (r0 : Int)) ∧ W.cell? ⟨w.heap.size, 3, none⟩ = some (.slice uo0 nu0 uc0) ∧ W.cell? ⟨w.heap.size, 4, none⟩ = some (.int .i64 p0) ∧
      W.cell? ⟨w3.heap.size, 0, none⟩ = some (.int .u32 (T1 : Int)) ∧ W.cell? ⟨w3.heap.size, 1, none⟩ = some (.int .u8 (r1 : Int)) ∧ W.cell? ⟨w4.heap.size, 0, none⟩ = some (.int .u32 (T2 : Int)) ∧ W.cell? ⟨w4.heap.size, 1, none⟩ = some (.int .u8 (r2 : Int)) ∧ W.cell? ⟨w6.heap.size, 0, none⟩ = some (.int .u32 (T4 : Int)) ∧ W.cell? ⟨w6.heap.size, 1, none⟩ = some (.int .u8 (r4 : Int))) := fun W h => by
    have u0 := CE.out W (bt BK_31.out h)
    obtain ⟨-, u1, u2⟩ := (P1_32.out).keeps h
    obtain ⟨-, u3, u4⟩ := (P2_33.out).keeps h
    obtain ⟨-, u5, u6⟩ := (P4_34.out).keeps h
    exact ⟨u0.1, u0.2.1, u0.2.2.1, u0.2.2.2.1, u0.2.2.2.2, u1, u2, u3, u4, u5, u6⟩
  have B7 := Lib.hid B_30.out
  have BX1 : Below w7.heap.size w7 (w7.alloc (.cells #[.int .u8 fk, .int .u32 ft, .int .u8 fr, .slice af fn cf, .int .i64 fp] 39)) := (Below.refl _ _).alloc (Nat.le_refl _) _
  obtain ⟨-, -, -, -, -, f1, f2, -, -, -, -⟩ := U7.out _ BX1
  have hsz : (w7.alloc (.cells #[.int .u8 fk, .int .u32 ft, .int .u8 fr, .slice af fn cf, .int .i64 fp] 39)).heap.size = w7.heap.size + 1 := Array.size_push _
  have BX : Hid (Below w7.heap.size w7 ((w7.alloc (.cells #[.int .u8 fk, .int .u32 ft, .int .u8 fr, .slice af fn cf, .int .i64 fp] 39)).alloc (.cells #[.int .u32 (T1 : Int), .int .u8 (r1 : Int)] 24))) := BX1.alloc (by omega) _
  have XW : Hid (((w7.alloc (.cells #[.int .u8 fk, .int .u32 ft, .int .u8 fr, .slice af fn cf, .int .i64 fp] 39)).alloc (.cells #[.int .u32 (T1 : Int), .int .u8 (r1 : Int)] 24)).heap[w7.heap.size + 1]? = some (.cells #[.int .u32 (T1 : Int), .int .u8 (r1 : Int)] 24)) := by rw [← hsz]; exact blk_new rfl
  clear BX1 hsz CE BK_31 P1_32 P2_33 P4_34 B_30
  go_upto_region 12 with fail
  obtain ⟨wx, hwx⟩ : ∃ x : World, x = ((w7.alloc (.cells #[.int .u8 fk, .int .u32 ft, .int .u8 fr, .slice af fn cf, .int .i64 fp] 39)).alloc (.cells #[.int .u32 (T1 : Int), .int .u8 (r1 : Int)] 24)) := ⟨_, rfl⟩
  rw [← hwx] at BX XW ⊢
  clear hwx f1 f2
  have TWX : (T1 = T2 ∧ r1 = r2) ∨ ¬ (T1 = T2 ∧ r1 = r2) := Classical.em _
  have TGX : (T1 = T5 ∧ r1 = r5) ∨ ¬ (T1 = T5 ∧ r1 = r5) := Classical.em _
  cases hd
  rotate_left
  · obtain ⟨ea, eb⟩ := WN.out (by simp) (by simp)
    obtain rfl := ea.symm
    obtain rfl := eb.symm
    clear TWX TGX
    clear WN W2 W4 LA2 JO CM AH
    obtain ⟨c0, c1, c2, c3, c4, f1, f2, g1, g2, i1, i2⟩ := U7.out _ BX.out
    go_upto_region 14 with fail
    clear c0 c1 c2 c3 c4 f1 f2 g1 g2 i1 i2
    have SKx1 : Hid (∀ w' : World, Below wx.heap.size wx w' → (fun w' => Below wx.heap.size wx w' ∧ w'.cell? ⟨w.heap.size, 0, none⟩ = some (.int .u8 (k0 : Int)) ∧ w'.cell? ⟨w.heap.size, 3, none⟩ = some (.slice uo0 nu0 uc0) ∧ w'.cell? ⟨w3.heap.size, 0, none⟩ = some (.int .u32 (T1 : Int)) ∧ w'.cell? ⟨w3.heap.size, 1, none⟩ = some (.int .u8 (r1 : Int))) w') := fun w' h => by
      have U := U7.out w' (bt BX.out h)
      exact ⟨h, U.1, U.2.2.2.1, U.2.2.2.2.2.1, U.2.2.2.2.2.2.1⟩
    refine wp_region_held_drew (S := fun w' => Below wx.heap.size wx w' ∧ w'.cell? ⟨w.heap.size, 0, none⟩ = some (.int .u8 (k0 : Int)) ∧ w'.cell? ⟨w.heap.size, 3, none⟩ = some (.slice uo0 nu0 uc0) ∧ w'.cell? ⟨w3.heap.size, 0, none⟩ = some (.int .u32 (T1 : Int)) ∧ w'.cell? ⟨w3.heap.size, 1, none⟩ = some (.int .u8 (r1 : Int))) (by kernel_rfl) (SKx1.out _ (drew1 _)) (fun hHeld => ?_)
    refine wpAnyH_take (i := 0) (v := ?vx10) rfl (by kernel_rfl) (by kernel_rfl) (by kernel_rfl) (fun _ _ _ h => h) (Or.inl ⟨by rfl, ?yx10⟩) (by assumption) ?_
    case yx10 => intro w hSw; (try dsimp only at hSw); go_simp <;> with_reducible rfl
    try simp only [List.getElem_toArray, List.getElem_cons_zero, Act.put, List.setIfInBounds_toArray, List.set_cons_zero, List.set_cons_succ]
    refine wpAnyH_take (i := 1) (v := ?vx11) rfl (by kernel_rfl) (by kernel_rfl) (by kernel_rfl) (fun _ _ _ h => h) (Or.inl ⟨by rfl, ?yx11⟩) (by assumption) ?_
    case yx11 => intro w hSw; (try dsimp only at hSw); go_simp <;> with_reducible rfl
    try simp only [List.getElem_toArray, List.getElem_cons_succ, List.getElem_cons_zero, Act.put, List.setIfInBounds_toArray, List.set_cons_zero, List.set_cons_succ]
    refine wpAnyH_take (i := 2) (v := ?vx12) rfl (by kernel_rfl) (by kernel_rfl) (by kernel_rfl) (fun _ _ _ h => h) (Or.inl ⟨by rfl, ?yx12⟩) (by assumption) ?_
    case yx12 => intro w hSw; (try dsimp only at hSw); go_simp <;> with_reducible rfl
    try simp only [List.getElem_toArray, List.getElem_cons_succ, List.getElem_cons_zero, Act.put, List.setIfInBounds_toArray, List.set_cons_zero, List.set_cons_succ]
    refine wpAnyH_take (i := 3) (v := undef) rfl (by kernel_rfl) (by kernel_rfl) (by kernel_rfl) (fun _ _ _ h => h) (Or.inr ⟨by rfl, rfl⟩) (by assumption) ?_
    try simp only [List.getElem_toArray, List.getElem_cons_succ, List.getElem_cons_zero, Act.put, List.setIfInBounds_toArray, List.set_cons_zero, List.set_cons_succ]
    refine wpAnyH_take (i := 4) (v := undef) rfl (by kernel_rfl) (by kernel_rfl) (by kernel_rfl) (fun _ _ _ h => h) (Or.inr ⟨by rfl, rfl⟩) (by assumption) ?_
    try simp only [List.getElem_toArray, List.getElem_cons_succ, List.getElem_cons_zero, Act.put, List.setIfInBounds_toArray, List.set_cons_zero, List.set_cons_succ]
    refine wpAnyH_take (i := 5) (v := undef) rfl (by kernel_rfl) (by kernel_rfl) (by kernel_rfl) (fun _ _ _ h => h) (Or.inr ⟨by rfl, rfl⟩) (by assumption) ?_
    try simp only [List.getElem_toArray, List.getElem_cons_succ, List.getElem_cons_zero, Act.put, List.setIfInBounds_toArray, List.set_cons_zero, List.set_cons_succ]
    refine wpAnyH_take (i := 6) (v := ?vx16) rfl (by kernel_rfl) (by kernel_rfl) (by kernel_rfl) (fun _ _ _ h => h) (Or.inl ⟨by rfl, ?yx16⟩) (by assumption) ?_
    case yx16 => intro w hSw; (try dsimp only at hSw); go_simp <;> with_reducible rfl
    try simp only [List.getElem_toArray, List.getElem_cons_succ, List.getElem_cons_zero, Act.put, List.setIfInBounds_toArray, List.set_cons_zero, List.set_cons_succ]
    refine wpAnyH_take (i := 7) (v := ?vx17) rfl (by kernel_rfl) (by kernel_rfl) (by kernel_rfl) (fun _ _ _ h => h) (Or.inl ⟨by rfl, ?yx17⟩) (by assumption) ?_
    case yx17 => intro w hSw; (try dsimp only at hSw); go_simp <;> with_reducible rfl
    try simp only [List.getElem_toArray, List.getElem_cons_succ, List.getElem_cons_zero, Act.put, List.setIfInBounds_toArray, List.set_cons_zero, List.set_cons_succ]
    refine wpAnyH_take (i := 8) (v := undef) rfl (by kernel_rfl) (by kernel_rfl) (by kernel_rfl) (fun _ _ _ h => h) (Or.inr ⟨by rfl, rfl⟩) (by assumption) ?_
    try simp only [List.getElem_toArray, List.getElem_cons_succ, List.getElem_cons_zero, Act.put, List.setIfInBounds_toArray, List.set_cons_zero, List.set_cons_succ]
    refine wpAnyH_take (i := 9) (v := undef) rfl (by kernel_rfl) (by kernel_rfl) (by kernel_rfl) (fun _ _ _ h => h) (Or.inr ⟨by rfl, rfl⟩) (by assumption) ?_
    try simp only [List.getElem_toArray, List.getElem_cons_succ, List.getElem_cons_zero, Act.put, List.setIfInBounds_toArray, List.set_cons_zero, List.set_cons_succ]
    refine wpAnyH_take (i := 10) (v := undef) rfl (by kernel_rfl) (by kernel_rfl) (by kernel_rfl) (fun _ _ _ h => h) (Or.inr ⟨by rfl, rfl⟩) (by assumption) ?_
    try simp only [List.getElem_toArray, List.getElem_cons_succ, List.getElem_cons_zero, Act.put, List.setIfInBounds_toArray, List.set_cons_zero, List.set_cons_succ]
    refine wpAnyH_take (i := 11) (v := undef) rfl (by kernel_rfl) (by kernel_rfl) (by kernel_rfl) (fun _ _ _ h => h) (Or.inr ⟨by rfl, rfl⟩) (by assumption) ?_
    try simp only [List.getElem_toArray, List.getElem_cons_succ, List.getElem_cons_zero, Act.put, List.setIfInBounds_toArray, List.set_cons_zero, List.set_cons_succ]
    refine wpAnyH_take (i := 12) (v := undef) rfl (by kernel_rfl) (by kernel_rfl) (by kernel_rfl) (fun _ _ _ h => h) (Or.inr ⟨by rfl, rfl⟩) (by assumption) ?_
    try simp only [List.getElem_toArray, List.getElem_cons_succ, List.getElem_cons_zero, Act.put, List.setIfInBounds_toArray, List.set_cons_zero, List.set_cons_succ]
    refine wpAnyH_take (i := 13) (v := ?vx113) rfl (by kernel_rfl) (by kernel_rfl) (by kernel_rfl) (fun _ _ _ h => h) (Or.inl ⟨by rfl, ?yx113⟩) (by assumption) ?_
    case yx113 => intro w hSw; (try dsimp only at hSw); go_simp <;> with_reducible rfl
    try simp only [List.getElem_toArray, List.getElem_cons_succ, List.getElem_cons_zero, Act.put, List.setIfInBounds_toArray, List.set_cons_zero, List.set_cons_succ]
    refine wpAnyH_done (by kernel_rfl) ?_ _
    have HB := Lib.hid (bt BX.out hHeld.1)
    have XF := Lib.hid (blk_below hHeld.1 XW.out)
    clear hHeld
    obtain ⟨c0, c1, c2, c3, c4, f1, f2, g1, g2, i1, i2⟩ := U7.out _ HB.out
    have z0 := cell_of_row _ _ 0 _ _ _ XF.out
    have z1 := cell_of_row _ _ 1 _ _ _ XF.out
    have BF := Lib.hid (bt B7.out HB.out)
    clear HB XF BX XW U7
    go_wp2
    go_ret
    exact ⟨rfl, BF.out⟩
  by_cases hk2 : k0 = 2
  rotate_left
  · have d2 : ((k0 : Int) == 2) = false := by simp; omega
    have d2' : decide ((k0 : Int) = 2) = false := decide_eq_false (by omega)
    obtain ⟨c0, c1, c2, c3, c4, f1, f2, g1, g2, i1, i2⟩ := U7.out _ BX.out
    go_upto_region 14 with fail
    clear c0 c1 c2 c3 c4 f1 f2 g1 g2 i1 i2
    clear d2 d2' TWX JO CM
    by_cases hk4 : k0 = 4
    rotate_left
    · have d4 : ((k0 : Int) == 4) = false := by simp; omega
      have d4' : decide ((k0 : Int) = 4) = false := decide_eq_false (by omega)
      obtain ⟨ea, eb⟩ := WN.out (by omega) (by omega)
      obtain rfl := ea.symm
      obtain rfl := eb.symm
      clear TGX hk2 hk4 WN W2 W4 LA2 AH
      have SKx2 : Hid (∀ w' : World, Below wx.heap.size wx w' → (fun w' => Below wx.heap.size wx w' ∧ w'.cell? ⟨w.heap.size, 0, none⟩ = some (.int .u8 (k0 : Int)) ∧ w'.cell? ⟨w.heap.size, 3, none⟩ = some (.slice uo0 nu0 uc0) ∧ w'.cell? ⟨w3.heap.size, 0, none⟩ = some (.int .u32 (T1 : Int)) ∧ w'.cell? ⟨w3.heap.size, 1, none⟩ = some (.int .u8 (r1 : Int))) w') := fun w' h => by
        have U := U7.out w' (bt BX.out h)
        exact ⟨h, U.1, U.2.2.2.1, U.2.2.2.2.2.1, U.2.2.2.2.2.2.1⟩
      refine wp_region_held_drew (S := fun w' => Below wx.heap.size wx w' ∧ w'.cell? ⟨w.heap.size, 0, none⟩ = some (.int .u8 (k0 : Int)) ∧ w'.cell? ⟨w.heap.size, 3, none⟩ = some (.slice uo0 nu0 uc0) ∧ w'.cell? ⟨w3.heap.size, 0, none⟩ = some (.int .u32 (T1 : Int)) ∧ w'.cell? ⟨w3.heap.size, 1, none⟩ = some (.int .u8 (r1 : Int))) (by kernel_rfl) (SKx2.out _ (drew1 _)) (fun hHeld => ?_)
      refine wpAnyH_take (i := 0) (v := ?vx20) rfl (by kernel_rfl) (by kernel_rfl) (by kernel_rfl) (fun _ _ _ h => h) (Or.inl ⟨by rfl, ?yx20⟩) (by assumption) ?_
      case yx20 => intro w hSw; (try dsimp only at hSw); go_simp <;> with_reducible rfl
      try simp only [List.getElem_toArray, List.getElem_cons_zero, Act.put, List.setIfInBounds_toArray, List.set_cons_zero, List.set_cons_succ]
      refine wpAnyH_take (i := 1) (v := ?vx21) rfl (by kernel_rfl) (by kernel_rfl) (by kernel_rfl) (fun _ _ _ h => h) (Or.inl ⟨by rfl, ?yx21⟩) (by assumption) ?_
      case yx21 => intro w hSw; (try dsimp only at hSw); go_simp <;> with_reducible rfl
      try simp only [List.getElem_toArray, List.getElem_cons_succ, List.getElem_cons_zero, Act.put, List.setIfInBounds_toArray, List.set_cons_zero, List.set_cons_succ]
      refine wpAnyH_take (i := 2) (v := ?vx22) rfl (by kernel_rfl) (by kernel_rfl) (by kernel_rfl) (fun _ _ _ h => h) (Or.inl ⟨by rfl, ?yx22⟩) (by assumption) ?_
      case yx22 => intro w hSw; (try dsimp only at hSw); go_simp <;> with_reducible rfl
      try simp only [List.getElem_toArray, List.getElem_cons_succ, List.getElem_cons_zero, Act.put, List.setIfInBounds_toArray, List.set_cons_zero, List.set_cons_succ]
      refine wpAnyH_take (i := 3) (v := ?vx23) rfl (by kernel_rfl) (by kernel_rfl) (by kernel_rfl) (fun _ _ _ h => h) (Or.inl ⟨by rfl, ?yx23⟩) (by assumption) ?_
      case yx23 => intro w hSw; (try dsimp only at hSw); go_simp <;> with_reducible rfl
      try simp only [List.getElem_toArray, List.getElem_cons_succ, List.getElem_cons_zero, Act.put, List.setIfInBounds_toArray, List.set_cons_zero, List.set_cons_succ]
      refine wpAnyH_take (i := 4) (v := ?vx24) rfl (by kernel_rfl) (by kernel_rfl) (by kernel_rfl) (fun _ _ _ h => h) (Or.inl ⟨by rfl, ?yx24⟩) (by assumption) ?_
      case yx24 => intro w hSw; (try dsimp only at hSw); go_simp <;> with_reducible rfl
      try simp only [List.getElem_toArray, List.getElem_cons_succ, List.getElem_cons_zero, Act.put, List.setIfInBounds_toArray, List.set_cons_zero, List.set_cons_succ]
      refine wpAnyH_take (i := 5) (v := ?vx25) rfl (by kernel_rfl) (by kernel_rfl) (by kernel_rfl) (fun _ _ _ h => h) (Or.inl ⟨by rfl, ?yx25⟩) (by assumption) ?_
      case yx25 => intro w hSw; (try dsimp only at hSw); go_simp <;> with_reducible rfl
      try simp only [List.getElem_toArray, List.getElem_cons_succ, List.getElem_cons_zero, Act.put, List.setIfInBounds_toArray, List.set_cons_zero, List.set_cons_succ]
      refine wpAnyH_take (i := 6) (v := ?vx26) rfl (by kernel_rfl) (by kernel_rfl) (by kernel_rfl) (fun _ _ _ h => h) (Or.inl ⟨by rfl, ?yx26⟩) (by assumption) ?_
      case yx26 => intro w hSw; (try dsimp only at hSw); go_simp <;> with_reducible rfl
      try simp only [List.getElem_toArray, List.getElem_cons_succ, List.getElem_cons_zero, Act.put, List.setIfInBounds_toArray, List.set_cons_zero, List.set_cons_succ]
      refine wpAnyH_take (i := 7) (v := ?vx27) rfl (by kernel_rfl) (by kernel_rfl) (by kernel_rfl) (fun _ _ _ h => h) (Or.inl ⟨by rfl, ?yx27⟩) (by assumption) ?_
      case yx27 => intro w hSw; (try dsimp only at hSw); go_simp <;> with_reducible rfl
      try simp only [List.getElem_toArray, List.getElem_cons_succ, List.getElem_cons_zero, Act.put, List.setIfInBounds_toArray, List.set_cons_zero, List.set_cons_succ]
      refine wpAnyH_take (i := 8) (v := undef) rfl (by kernel_rfl) (by kernel_rfl) (by kernel_rfl) (fun _ _ _ h => h) (Or.inr ⟨by rfl, rfl⟩) (by assumption) ?_
      try simp only [List.getElem_toArray, List.getElem_cons_succ, List.getElem_cons_zero, Act.put, List.setIfInBounds_toArray, List.set_cons_zero, List.set_cons_succ]
      refine wpAnyH_take (i := 9) (v := undef) rfl (by kernel_rfl) (by kernel_rfl) (by kernel_rfl) (fun _ _ _ h => h) (Or.inr ⟨by rfl, rfl⟩) (by assumption) ?_
      try simp only [List.getElem_toArray, List.getElem_cons_succ, List.getElem_cons_zero, Act.put, List.setIfInBounds_toArray, List.set_cons_zero, List.set_cons_succ]
      refine wpAnyH_take (i := 10) (v := undef) rfl (by kernel_rfl) (by kernel_rfl) (by kernel_rfl) (fun _ _ _ h => h) (Or.inr ⟨by rfl, rfl⟩) (by assumption) ?_
      try simp only [List.getElem_toArray, List.getElem_cons_succ, List.getElem_cons_zero, Act.put, List.setIfInBounds_toArray, List.set_cons_zero, List.set_cons_succ]
      refine wpAnyH_take (i := 11) (v := undef) rfl (by kernel_rfl) (by kernel_rfl) (by kernel_rfl) (fun _ _ _ h => h) (Or.inr ⟨by rfl, rfl⟩) (by assumption) ?_
      try simp only [List.getElem_toArray, List.getElem_cons_succ, List.getElem_cons_zero, Act.put, List.setIfInBounds_toArray, List.set_cons_zero, List.set_cons_succ]
      refine wpAnyH_take (i := 12) (v := undef) rfl (by kernel_rfl) (by kernel_rfl) (by kernel_rfl) (fun _ _ _ h => h) (Or.inr ⟨by rfl, rfl⟩) (by assumption) ?_
      try simp only [List.getElem_toArray, List.getElem_cons_succ, List.getElem_cons_zero, Act.put, List.setIfInBounds_toArray, List.set_cons_zero, List.set_cons_succ]
      refine wpAnyH_take (i := 13) (v := ?vx213) rfl (by kernel_rfl) (by kernel_rfl) (by kernel_rfl) (fun _ _ _ h => h) (Or.inl ⟨by rfl, ?yx213⟩) (by assumption) ?_
      case yx213 => intro w hSw; (try dsimp only at hSw); go_simp <;> with_reducible rfl
      try simp only [List.getElem_toArray, List.getElem_cons_succ, List.getElem_cons_zero, Act.put, List.setIfInBounds_toArray, List.set_cons_zero, List.set_cons_succ]
      refine wpAnyH_done (by kernel_rfl) ?_ _
      have HB := Lib.hid (bt BX.out hHeld.1)
      have XF := Lib.hid (blk_below hHeld.1 XW.out)
      clear hHeld
      obtain ⟨c0, c1, c2, c3, c4, f1, f2, g1, g2, i1, i2⟩ := U7.out _ HB.out
      have z0 := cell_of_row _ _ 0 _ _ _ XF.out
      have z1 := cell_of_row _ _ 1 _ _ _ XF.out
      have BF := Lib.hid (bt B7.out HB.out)
      clear HB XF BX XW U7
      go_wp2
      go_ret
      exact ⟨rfl, BF.out⟩
    have d4 : ((k0 : Int) == 4) = true := by simp; omega
    have d4' : decide ((k0 : Int) = 4) = true := decide_eq_true (by omega)
    have LX : Hid (∀ W : World, Below wx.heap.size wx W → Calls Try.prog 27 #[.slice uo0 nu0 uc0] W fun e w' => e = .returned (.agg #[.int .u32 (T5 : Int), .int .u8 (r5 : Int)]) ∧ Below W.heap.size W w') := fun W h => LA2.out W (bt B7.out (bt BX.out h))
    clear LA2
    rcases TGX with hq | hq
    rotate_left
    · obtain ⟨ea, eb⟩ := WN.out (fun h => hq ⟨h.2.2.1, h.2.2.2⟩) (by omega)
      obtain rfl := ea.symm
      obtain rfl := eb.symm
      have hne : ¬ T1 = T5 ∨ (T1 = T5 ∧ ¬ r1 = r5) := by
        by_cases h : T1 = T5
        · exact .inr ⟨h, fun h2 => hq ⟨h, h2⟩⟩
        · exact .inl h
      clear hq hk2 hk4 WN W2 W4 AH
      rcases hne with hne | ⟨rfl, hne⟩
      · have hi : ¬ ((T1 : Int) = (T5 : Int)) := by omega
        have SKx3 : Hid (∀ w' : World, Below wx.heap.size wx w' → (fun w' => Below wx.heap.size wx w' ∧ w'.cell? ⟨w.heap.size, 0, none⟩ = some (.int .u8 (k0 : Int)) ∧ w'.cell? ⟨w.heap.size, 3, none⟩ = some (.slice uo0 nu0 uc0) ∧ w'.cell? ⟨w3.heap.size, 0, none⟩ = some (.int .u32 (T1 : Int)) ∧ w'.cell? ⟨w3.heap.size, 1, none⟩ = some (.int .u8 (r1 : Int))) w') := fun w' h => by
          have U := U7.out w' (bt BX.out h)
          exact ⟨h, U.1, U.2.2.2.1, U.2.2.2.2.2.1, U.2.2.2.2.2.2.1⟩
        refine wp_region_held_drew (S := fun w' => Below wx.heap.size wx w' ∧ w'.cell? ⟨w.heap.size, 0, none⟩ = some (.int .u8 (k0 : Int)) ∧ w'.cell? ⟨w.heap.size, 3, none⟩ = some (.slice uo0 nu0 uc0) ∧ w'.cell? ⟨w3.heap.size, 0, none⟩ = some (.int .u32 (T1 : Int)) ∧ w'.cell? ⟨w3.heap.size, 1, none⟩ = some (.int .u8 (r1 : Int))) (by kernel_rfl) (SKx3.out _ (drew1 _)) (fun hHeld => ?_)
        refine wpAnyH_take (i := 0) (v := ?vx30) rfl (by kernel_rfl) (by kernel_rfl) (by kernel_rfl) (fun _ _ _ h => h) (Or.inl ⟨by rfl, ?yx30⟩) (by assumption) ?_
        case yx30 => intro w hSw; (try dsimp only at hSw); go_simp <;> with_reducible rfl
        try simp only [List.getElem_toArray, List.getElem_cons_zero, Act.put, List.setIfInBounds_toArray, List.set_cons_zero, List.set_cons_succ]
        refine wpAnyH_take (i := 1) (v := ?vx31) rfl (by kernel_rfl) (by kernel_rfl) (by kernel_rfl) (fun _ _ _ h => h) (Or.inl ⟨by rfl, ?yx31⟩) (by assumption) ?_
        case yx31 => intro w hSw; (try dsimp only at hSw); go_simp <;> with_reducible rfl
        try simp only [List.getElem_toArray, List.getElem_cons_succ, List.getElem_cons_zero, Act.put, List.setIfInBounds_toArray, List.set_cons_zero, List.set_cons_succ]
        refine wpAnyH_take (i := 2) (v := ?vx32) rfl (by kernel_rfl) (by kernel_rfl) (by kernel_rfl) (fun _ _ _ h => h) (Or.inl ⟨by rfl, ?yx32⟩) (by assumption) ?_
        case yx32 => intro w hSw; (try dsimp only at hSw); go_simp <;> with_reducible rfl
        try simp only [List.getElem_toArray, List.getElem_cons_succ, List.getElem_cons_zero, Act.put, List.setIfInBounds_toArray, List.set_cons_zero, List.set_cons_succ]
        refine wpAnyH_take (i := 3) (v := ?vx33) rfl (by kernel_rfl) (by kernel_rfl) (by kernel_rfl) (fun _ _ _ h => h) (Or.inl ⟨by rfl, ?yx33⟩) (by assumption) ?_
        case yx33 => intro w hSw; (try dsimp only at hSw); go_simp <;> with_reducible rfl
        try simp only [List.getElem_toArray, List.getElem_cons_succ, List.getElem_cons_zero, Act.put, List.setIfInBounds_toArray, List.set_cons_zero, List.set_cons_succ]
        refine wpAnyH_take (i := 4) (v := ?vx34) rfl (by kernel_rfl) (by kernel_rfl) (by kernel_rfl) (fun _ _ _ h => h) (Or.inl ⟨by rfl, ?yx34⟩) (by assumption) ?_
        case yx34 => intro w hSw; (try dsimp only at hSw); go_simp <;> with_reducible rfl
        try simp only [List.getElem_toArray, List.getElem_cons_succ, List.getElem_cons_zero, Act.put, List.setIfInBounds_toArray, List.set_cons_zero, List.set_cons_succ]
        refine wpAnyH_take (i := 5) (v := ?vx35) rfl (by kernel_rfl) (by kernel_rfl) (by kernel_rfl) (fun _ _ _ h => h) (Or.inl ⟨by rfl, ?yx35⟩) (by assumption) ?_
        case yx35 => intro w hSw; (try dsimp only at hSw); go_simp <;> with_reducible rfl
        try simp only [List.getElem_toArray, List.getElem_cons_succ, List.getElem_cons_zero, Act.put, List.setIfInBounds_toArray, List.set_cons_zero, List.set_cons_succ]
        refine wpAnyH_take (i := 6) (v := ?vx36) rfl (by kernel_rfl) (by kernel_rfl) (by kernel_rfl) (fun _ _ _ h => h) (Or.inl ⟨by rfl, ?yx36⟩) (by assumption) ?_
        case yx36 => intro w hSw; (try dsimp only at hSw); go_simp <;> with_reducible rfl
        try simp only [List.getElem_toArray, List.getElem_cons_succ, List.getElem_cons_zero, Act.put, List.setIfInBounds_toArray, List.set_cons_zero, List.set_cons_succ]
        refine wpAnyH_take (i := 7) (v := ?vx37) rfl (by kernel_rfl) (by kernel_rfl) (by kernel_rfl) (fun _ _ _ h => h) (Or.inl ⟨by rfl, ?yx37⟩) (by assumption) ?_
        case yx37 => intro w hSw; (try dsimp only at hSw); go_simp <;> with_reducible rfl
        try simp only [List.getElem_toArray, List.getElem_cons_succ, List.getElem_cons_zero, Act.put, List.setIfInBounds_toArray, List.set_cons_zero, List.set_cons_succ]
        refine wpAnyH_take (i := 8) (v := ?vx38) rfl (by kernel_rfl) (by kernel_rfl) (by kernel_rfl) (fun _ _ _ h => h) (Or.inl ⟨by rfl, ?yx38⟩) (by assumption) ?_
        case yx38 => intro w hSw; (try dsimp only at hSw); go_simp <;> with_reducible rfl
        try simp only [List.getElem_toArray, List.getElem_cons_succ, List.getElem_cons_zero, Act.put, List.setIfInBounds_toArray, List.set_cons_zero, List.set_cons_succ]
        refine wpAnyH_take (i := 9) (v := ?vx39) rfl (by kernel_rfl) (by kernel_rfl) (by kernel_rfl) (fun _ _ _ h => h) (Or.inl ⟨by rfl, ?yx39⟩) (by assumption) ?_
        case yx39 => intro w hSw; (try dsimp only at hSw); go_simp <;> with_reducible rfl
        try simp only [List.getElem_toArray, List.getElem_cons_succ, List.getElem_cons_zero, Act.put, List.setIfInBounds_toArray, List.set_cons_zero, List.set_cons_succ]
        refine wpAnyH_take (i := 10) (v := ?vx310) rfl (by kernel_rfl) (by kernel_rfl) (by kernel_rfl) (fun _ _ _ h => h) (Or.inl ⟨by rfl, ?yx310⟩) (by assumption) ?_
        case yx310 => intro w hSw; (try dsimp only at hSw); go_simp <;> with_reducible rfl
        try simp only [List.getElem_toArray, List.getElem_cons_succ, List.getElem_cons_zero, Act.put, List.setIfInBounds_toArray, List.set_cons_zero, List.set_cons_succ]
        refine wpAnyH_ready (rs := [11]) (by kernel_rfl) (by simp) ?_
        refine AllReadyH.cons rfl (fun K hK => ?_) ?zx311
        case zx311 => exact AllReadyH.nil
        go_simp
        refine (LX.out _ hHeld.1).mono ?_
        rintro e w9x311 ⟨rfl, b9⟩
        refine hK.out _ _ (SKx3.out _ (bt hHeld.1 b9)) (fun hNew => ?_)
        clear hHeld
        have hHeld := hNew
        clear hNew hK K
        try simp only [List.getElem_toArray, List.getElem_cons_succ, List.getElem_cons_zero, Act.put, List.setIfInBounds_toArray, List.set_cons_zero, List.set_cons_succ]
        refine wpAnyH_take (i := 12) (v := ?vx312) rfl (by kernel_rfl) (by kernel_rfl) (by kernel_rfl) (fun _ _ _ h => h) (Or.inl ⟨by rfl, ?yx312⟩) (by assumption) ?_
        case yx312 => intro w hSw; (try dsimp only at hSw); go_simp <;> with_reducible rfl
        try simp only [List.getElem_toArray, List.getElem_cons_succ, List.getElem_cons_zero, Act.put, List.setIfInBounds_toArray, List.set_cons_zero, List.set_cons_succ]
        refine wpAnyH_take (i := 13) (v := ?vx313) rfl (by kernel_rfl) (by kernel_rfl) (by kernel_rfl) (fun _ _ _ h => h) (Or.inl ⟨by rfl, ?yx313⟩) (by assumption) ?_
        case yx313 => intro w hSw; (try dsimp only at hSw); go_simp <;> with_reducible rfl
        try simp only [List.getElem_toArray, List.getElem_cons_succ, List.getElem_cons_zero, Act.put, List.setIfInBounds_toArray, List.set_cons_zero, List.set_cons_succ]
        refine wpAnyH_done (by kernel_rfl) ?_ _
        have HB := Lib.hid (bt BX.out hHeld.1)
        have XF := Lib.hid (blk_below hHeld.1 XW.out)
        clear hHeld
        obtain ⟨c0, c1, c2, c3, c4, f1, f2, g1, g2, i1, i2⟩ := U7.out _ HB.out
        have z0 := cell_of_row _ _ 0 _ _ _ XF.out
        have z1 := cell_of_row _ _ 1 _ _ _ XF.out
        have BF := Lib.hid (bt B7.out HB.out)
        clear HB XF BX XW U7
        go_wp2
        go_ret
        exact ⟨rfl, BF.out⟩
      · have hi : ¬ ((r1 : Int) = (r5 : Int)) := by omega
        have SKx4 : Hid (∀ w' : World, Below wx.heap.size wx w' → (fun w' => Below wx.heap.size wx w' ∧ w'.cell? ⟨w.heap.size, 0, none⟩ = some (.int .u8 (k0 : Int)) ∧ w'.cell? ⟨w.heap.size, 3, none⟩ = some (.slice uo0 nu0 uc0) ∧ w'.cell? ⟨w3.heap.size, 0, none⟩ = some (.int .u32 (T1 : Int)) ∧ w'.cell? ⟨w3.heap.size, 1, none⟩ = some (.int .u8 (r1 : Int))) w') := fun w' h => by
          have U := U7.out w' (bt BX.out h)
          exact ⟨h, U.1, U.2.2.2.1, U.2.2.2.2.2.1, U.2.2.2.2.2.2.1⟩
        refine wp_region_held_drew (S := fun w' => Below wx.heap.size wx w' ∧ w'.cell? ⟨w.heap.size, 0, none⟩ = some (.int .u8 (k0 : Int)) ∧ w'.cell? ⟨w.heap.size, 3, none⟩ = some (.slice uo0 nu0 uc0) ∧ w'.cell? ⟨w3.heap.size, 0, none⟩ = some (.int .u32 (T1 : Int)) ∧ w'.cell? ⟨w3.heap.size, 1, none⟩ = some (.int .u8 (r1 : Int))) (by kernel_rfl) (SKx4.out _ (drew1 _)) (fun hHeld => ?_)
        refine wpAnyH_take (i := 0) (v := ?vx40) rfl (by kernel_rfl) (by kernel_rfl) (by kernel_rfl) (fun _ _ _ h => h) (Or.inl ⟨by rfl, ?yx40⟩) (by assumption) ?_
        case yx40 => intro w hSw; (try dsimp only at hSw); go_simp <;> with_reducible rfl
        try simp only [List.getElem_toArray, List.getElem_cons_zero, Act.put, List.setIfInBounds_toArray, List.set_cons_zero, List.set_cons_succ]
        refine wpAnyH_take (i := 1) (v := ?vx41) rfl (by kernel_rfl) (by kernel_rfl) (by kernel_rfl) (fun _ _ _ h => h) (Or.inl ⟨by rfl, ?yx41⟩) (by assumption) ?_
        case yx41 => intro w hSw; (try dsimp only at hSw); go_simp <;> with_reducible rfl
        try simp only [List.getElem_toArray, List.getElem_cons_succ, List.getElem_cons_zero, Act.put, List.setIfInBounds_toArray, List.set_cons_zero, List.set_cons_succ]
        refine wpAnyH_take (i := 2) (v := ?vx42) rfl (by kernel_rfl) (by kernel_rfl) (by kernel_rfl) (fun _ _ _ h => h) (Or.inl ⟨by rfl, ?yx42⟩) (by assumption) ?_
        case yx42 => intro w hSw; (try dsimp only at hSw); go_simp <;> with_reducible rfl
        try simp only [List.getElem_toArray, List.getElem_cons_succ, List.getElem_cons_zero, Act.put, List.setIfInBounds_toArray, List.set_cons_zero, List.set_cons_succ]
        refine wpAnyH_take (i := 3) (v := ?vx43) rfl (by kernel_rfl) (by kernel_rfl) (by kernel_rfl) (fun _ _ _ h => h) (Or.inl ⟨by rfl, ?yx43⟩) (by assumption) ?_
        case yx43 => intro w hSw; (try dsimp only at hSw); go_simp <;> with_reducible rfl
        try simp only [List.getElem_toArray, List.getElem_cons_succ, List.getElem_cons_zero, Act.put, List.setIfInBounds_toArray, List.set_cons_zero, List.set_cons_succ]
        refine wpAnyH_take (i := 4) (v := ?vx44) rfl (by kernel_rfl) (by kernel_rfl) (by kernel_rfl) (fun _ _ _ h => h) (Or.inl ⟨by rfl, ?yx44⟩) (by assumption) ?_
        case yx44 => intro w hSw; (try dsimp only at hSw); go_simp <;> with_reducible rfl
        try simp only [List.getElem_toArray, List.getElem_cons_succ, List.getElem_cons_zero, Act.put, List.setIfInBounds_toArray, List.set_cons_zero, List.set_cons_succ]
        refine wpAnyH_take (i := 5) (v := ?vx45) rfl (by kernel_rfl) (by kernel_rfl) (by kernel_rfl) (fun _ _ _ h => h) (Or.inl ⟨by rfl, ?yx45⟩) (by assumption) ?_
        case yx45 => intro w hSw; (try dsimp only at hSw); go_simp <;> with_reducible rfl
        try simp only [List.getElem_toArray, List.getElem_cons_succ, List.getElem_cons_zero, Act.put, List.setIfInBounds_toArray, List.set_cons_zero, List.set_cons_succ]
        refine wpAnyH_take (i := 6) (v := ?vx46) rfl (by kernel_rfl) (by kernel_rfl) (by kernel_rfl) (fun _ _ _ h => h) (Or.inl ⟨by rfl, ?yx46⟩) (by assumption) ?_
        case yx46 => intro w hSw; (try dsimp only at hSw); go_simp <;> with_reducible rfl
        try simp only [List.getElem_toArray, List.getElem_cons_succ, List.getElem_cons_zero, Act.put, List.setIfInBounds_toArray, List.set_cons_zero, List.set_cons_succ]
        refine wpAnyH_take (i := 7) (v := ?vx47) rfl (by kernel_rfl) (by kernel_rfl) (by kernel_rfl) (fun _ _ _ h => h) (Or.inl ⟨by rfl, ?yx47⟩) (by assumption) ?_
        case yx47 => intro w hSw; (try dsimp only at hSw); go_simp <;> with_reducible rfl
        try simp only [List.getElem_toArray, List.getElem_cons_succ, List.getElem_cons_zero, Act.put, List.setIfInBounds_toArray, List.set_cons_zero, List.set_cons_succ]
        refine wpAnyH_take (i := 8) (v := ?vx48) rfl (by kernel_rfl) (by kernel_rfl) (by kernel_rfl) (fun _ _ _ h => h) (Or.inl ⟨by rfl, ?yx48⟩) (by assumption) ?_
        case yx48 => intro w hSw; (try dsimp only at hSw); go_simp <;> with_reducible rfl
        try simp only [List.getElem_toArray, List.getElem_cons_succ, List.getElem_cons_zero, Act.put, List.setIfInBounds_toArray, List.set_cons_zero, List.set_cons_succ]
        refine wpAnyH_take (i := 9) (v := ?vx49) rfl (by kernel_rfl) (by kernel_rfl) (by kernel_rfl) (fun _ _ _ h => h) (Or.inl ⟨by rfl, ?yx49⟩) (by assumption) ?_
        case yx49 => intro w hSw; (try dsimp only at hSw); go_simp <;> with_reducible rfl
        try simp only [List.getElem_toArray, List.getElem_cons_succ, List.getElem_cons_zero, Act.put, List.setIfInBounds_toArray, List.set_cons_zero, List.set_cons_succ]
        refine wpAnyH_take (i := 10) (v := ?vx410) rfl (by kernel_rfl) (by kernel_rfl) (by kernel_rfl) (fun _ _ _ h => h) (Or.inl ⟨by rfl, ?yx410⟩) (by assumption) ?_
        case yx410 => intro w hSw; (try dsimp only at hSw); go_simp <;> with_reducible rfl
        try simp only [List.getElem_toArray, List.getElem_cons_succ, List.getElem_cons_zero, Act.put, List.setIfInBounds_toArray, List.set_cons_zero, List.set_cons_succ]
        refine wpAnyH_ready (rs := [11]) (by kernel_rfl) (by simp) ?_
        refine AllReadyH.cons rfl (fun K hK => ?_) ?zx411
        case zx411 => exact AllReadyH.nil
        go_simp
        refine (LX.out _ hHeld.1).mono ?_
        rintro e w9x411 ⟨rfl, b9⟩
        refine hK.out _ _ (SKx4.out _ (bt hHeld.1 b9)) (fun hNew => ?_)
        clear hHeld
        have hHeld := hNew
        clear hNew hK K
        try simp only [List.getElem_toArray, List.getElem_cons_succ, List.getElem_cons_zero, Act.put, List.setIfInBounds_toArray, List.set_cons_zero, List.set_cons_succ]
        refine wpAnyH_take (i := 12) (v := ?vx412) rfl (by kernel_rfl) (by kernel_rfl) (by kernel_rfl) (fun _ _ _ h => h) (Or.inl ⟨by rfl, ?yx412⟩) (by assumption) ?_
        case yx412 => intro w hSw; (try dsimp only at hSw); go_simp <;> with_reducible rfl
        try simp only [List.getElem_toArray, List.getElem_cons_succ, List.getElem_cons_zero, Act.put, List.setIfInBounds_toArray, List.set_cons_zero, List.set_cons_succ]
        refine wpAnyH_take (i := 13) (v := ?vx413) rfl (by kernel_rfl) (by kernel_rfl) (by kernel_rfl) (fun _ _ _ h => h) (Or.inl ⟨by rfl, ?yx413⟩) (by assumption) ?_
        case yx413 => intro w hSw; (try dsimp only at hSw); go_simp <;> with_reducible rfl
        try simp only [List.getElem_toArray, List.getElem_cons_succ, List.getElem_cons_zero, Act.put, List.setIfInBounds_toArray, List.set_cons_zero, List.set_cons_succ]
        refine wpAnyH_done (by kernel_rfl) ?_ _
        have HB := Lib.hid (bt BX.out hHeld.1)
        have XF := Lib.hid (blk_below hHeld.1 XW.out)
        clear hHeld
        obtain ⟨c0, c1, c2, c3, c4, f1, f2, g1, g2, i1, i2⟩ := U7.out _ HB.out
        have z0 := cell_of_row _ _ 0 _ _ _ XF.out
        have z1 := cell_of_row _ _ 1 _ _ _ XF.out
        have BF := Lib.hid (bt B7.out HB.out)
        clear HB XF BX XW U7
        go_wp2
        go_ret
        exact ⟨rfl, BF.out⟩
    obtain ⟨⟨rfl, rfl⟩, rfl⟩ := W4.out rfl hk4 hq
    obtain ⟨rfl, rfl⟩ := hq
    clear hk2 hk4 WN W2 W4
    have SKx5 : Hid (∀ w' : World, Below wx.heap.size wx w' → (fun w' => Below wx.heap.size wx w' ∧ w'.cell? ⟨w.heap.size, 0, none⟩ = some (.int .u8 (k0 : Int)) ∧ w'.cell? ⟨w.heap.size, 3, none⟩ = some (.slice uo0 nu0 uc0) ∧ w'.cell? ⟨w3.heap.size, 0, none⟩ = some (.int .u32 (T1 : Int)) ∧ w'.cell? ⟨w3.heap.size, 1, none⟩ = some (.int .u8 (r1 : Int))) w') := fun w' h => by
      have U := U7.out w' (bt BX.out h)
      exact ⟨h, U.1, U.2.2.2.1, U.2.2.2.2.2.1, U.2.2.2.2.2.2.1⟩
    refine wp_region_held_drew (S := fun w' => Below wx.heap.size wx w' ∧ w'.cell? ⟨w.heap.size, 0, none⟩ = some (.int .u8 (k0 : Int)) ∧ w'.cell? ⟨w.heap.size, 3, none⟩ = some (.slice uo0 nu0 uc0) ∧ w'.cell? ⟨w3.heap.size, 0, none⟩ = some (.int .u32 (T1 : Int)) ∧ w'.cell? ⟨w3.heap.size, 1, none⟩ = some (.int .u8 (r1 : Int))) (by kernel_rfl) (SKx5.out _ (drew1 _)) (fun hHeld => ?_)
    refine wpAnyH_take (i := 0) (v := ?vx50) rfl (by kernel_rfl) (by kernel_rfl) (by kernel_rfl) (fun _ _ _ h => h) (Or.inl ⟨by rfl, ?yx50⟩) (by assumption) ?_
    case yx50 => intro w hSw; (try dsimp only at hSw); go_simp <;> with_reducible rfl
    try simp only [List.getElem_toArray, List.getElem_cons_zero, Act.put, List.setIfInBounds_toArray, List.set_cons_zero, List.set_cons_succ]
    refine wpAnyH_take (i := 1) (v := ?vx51) rfl (by kernel_rfl) (by kernel_rfl) (by kernel_rfl) (fun _ _ _ h => h) (Or.inl ⟨by rfl, ?yx51⟩) (by assumption) ?_
    case yx51 => intro w hSw; (try dsimp only at hSw); go_simp <;> with_reducible rfl
    try simp only [List.getElem_toArray, List.getElem_cons_succ, List.getElem_cons_zero, Act.put, List.setIfInBounds_toArray, List.set_cons_zero, List.set_cons_succ]
    refine wpAnyH_take (i := 2) (v := ?vx52) rfl (by kernel_rfl) (by kernel_rfl) (by kernel_rfl) (fun _ _ _ h => h) (Or.inl ⟨by rfl, ?yx52⟩) (by assumption) ?_
    case yx52 => intro w hSw; (try dsimp only at hSw); go_simp <;> with_reducible rfl
    try simp only [List.getElem_toArray, List.getElem_cons_succ, List.getElem_cons_zero, Act.put, List.setIfInBounds_toArray, List.set_cons_zero, List.set_cons_succ]
    refine wpAnyH_take (i := 3) (v := ?vx53) rfl (by kernel_rfl) (by kernel_rfl) (by kernel_rfl) (fun _ _ _ h => h) (Or.inl ⟨by rfl, ?yx53⟩) (by assumption) ?_
    case yx53 => intro w hSw; (try dsimp only at hSw); go_simp <;> with_reducible rfl
    try simp only [List.getElem_toArray, List.getElem_cons_succ, List.getElem_cons_zero, Act.put, List.setIfInBounds_toArray, List.set_cons_zero, List.set_cons_succ]
    refine wpAnyH_take (i := 4) (v := ?vx54) rfl (by kernel_rfl) (by kernel_rfl) (by kernel_rfl) (fun _ _ _ h => h) (Or.inl ⟨by rfl, ?yx54⟩) (by assumption) ?_
    case yx54 => intro w hSw; (try dsimp only at hSw); go_simp <;> with_reducible rfl
    try simp only [List.getElem_toArray, List.getElem_cons_succ, List.getElem_cons_zero, Act.put, List.setIfInBounds_toArray, List.set_cons_zero, List.set_cons_succ]
    refine wpAnyH_take (i := 5) (v := ?vx55) rfl (by kernel_rfl) (by kernel_rfl) (by kernel_rfl) (fun _ _ _ h => h) (Or.inl ⟨by rfl, ?yx55⟩) (by assumption) ?_
    case yx55 => intro w hSw; (try dsimp only at hSw); go_simp <;> with_reducible rfl
    try simp only [List.getElem_toArray, List.getElem_cons_succ, List.getElem_cons_zero, Act.put, List.setIfInBounds_toArray, List.set_cons_zero, List.set_cons_succ]
    refine wpAnyH_take (i := 6) (v := ?vx56) rfl (by kernel_rfl) (by kernel_rfl) (by kernel_rfl) (fun _ _ _ h => h) (Or.inl ⟨by rfl, ?yx56⟩) (by assumption) ?_
    case yx56 => intro w hSw; (try dsimp only at hSw); go_simp <;> with_reducible rfl
    try simp only [List.getElem_toArray, List.getElem_cons_succ, List.getElem_cons_zero, Act.put, List.setIfInBounds_toArray, List.set_cons_zero, List.set_cons_succ]
    refine wpAnyH_take (i := 7) (v := ?vx57) rfl (by kernel_rfl) (by kernel_rfl) (by kernel_rfl) (fun _ _ _ h => h) (Or.inl ⟨by rfl, ?yx57⟩) (by assumption) ?_
    case yx57 => intro w hSw; (try dsimp only at hSw); go_simp <;> with_reducible rfl
    try simp only [List.getElem_toArray, List.getElem_cons_succ, List.getElem_cons_zero, Act.put, List.setIfInBounds_toArray, List.set_cons_zero, List.set_cons_succ]
    refine wpAnyH_take (i := 8) (v := ?vx58) rfl (by kernel_rfl) (by kernel_rfl) (by kernel_rfl) (fun _ _ _ h => h) (Or.inl ⟨by rfl, ?yx58⟩) (by assumption) ?_
    case yx58 => intro w hSw; (try dsimp only at hSw); go_simp <;> with_reducible rfl
    try simp only [List.getElem_toArray, List.getElem_cons_succ, List.getElem_cons_zero, Act.put, List.setIfInBounds_toArray, List.set_cons_zero, List.set_cons_succ]
    refine wpAnyH_take (i := 9) (v := ?vx59) rfl (by kernel_rfl) (by kernel_rfl) (by kernel_rfl) (fun _ _ _ h => h) (Or.inl ⟨by rfl, ?yx59⟩) (by assumption) ?_
    case yx59 => intro w hSw; (try dsimp only at hSw); go_simp <;> with_reducible rfl
    try simp only [List.getElem_toArray, List.getElem_cons_succ, List.getElem_cons_zero, Act.put, List.setIfInBounds_toArray, List.set_cons_zero, List.set_cons_succ]
    refine wpAnyH_take (i := 10) (v := ?vx510) rfl (by kernel_rfl) (by kernel_rfl) (by kernel_rfl) (fun _ _ _ h => h) (Or.inl ⟨by rfl, ?yx510⟩) (by assumption) ?_
    case yx510 => intro w hSw; (try dsimp only at hSw); go_simp <;> with_reducible rfl
    try simp only [List.getElem_toArray, List.getElem_cons_succ, List.getElem_cons_zero, Act.put, List.setIfInBounds_toArray, List.set_cons_zero, List.set_cons_succ]
    refine wpAnyH_ready (rs := [11]) (by kernel_rfl) (by simp) ?_
    refine AllReadyH.cons rfl (fun K hK => ?_) ?zx511
    case zx511 => exact AllReadyH.nil
    go_simp
    refine (LX.out _ hHeld.1).mono ?_
    rintro e w9x511 ⟨rfl, b9⟩
    refine hK.out _ _ (SKx5.out _ (bt hHeld.1 b9)) (fun hNew => ?_)
    clear hHeld
    have hHeld := hNew
    clear hNew hK K
    try simp only [List.getElem_toArray, List.getElem_cons_succ, List.getElem_cons_zero, Act.put, List.setIfInBounds_toArray, List.set_cons_zero, List.set_cons_succ]
    refine wpAnyH_take (i := 12) (v := ?vx512) rfl (by kernel_rfl) (by kernel_rfl) (by kernel_rfl) (fun _ _ _ h => h) (Or.inl ⟨by rfl, ?yx512⟩) (by assumption) ?_
    case yx512 => intro w hSw; (try dsimp only at hSw); go_simp <;> with_reducible rfl
    try simp only [List.getElem_toArray, List.getElem_cons_succ, List.getElem_cons_zero, Act.put, List.setIfInBounds_toArray, List.set_cons_zero, List.set_cons_succ]
    refine wpAnyH_take (i := 13) (v := ?vx513) rfl (by kernel_rfl) (by kernel_rfl) (by kernel_rfl) (fun _ _ _ h => h) (Or.inl ⟨by rfl, ?yx513⟩) (by assumption) ?_
    case yx513 => intro w hSw; (try dsimp only at hSw); go_simp <;> with_reducible rfl
    try simp only [List.getElem_toArray, List.getElem_cons_succ, List.getElem_cons_zero, Act.put, List.setIfInBounds_toArray, List.set_cons_zero, List.set_cons_succ]
    refine wpAnyH_done (by kernel_rfl) ?_ _
    replace BX := Lib.hid (bt BX.out hHeld.1)
    replace XW := Lib.hid (blk_below hHeld.1 XW.out)
    clear hHeld SKx5 LX
    obtain ⟨c0, c1, c2, c3, c4, f1, f2, g1, g2, i1, i2⟩ := U7.out _ BX.out
    go_wp2_with fail
    refine (AH.out _ (bt B7.out BX.out)).mono ?_
    rintro e w11 ⟨rfl, b11⟩
    have BA := (bt BX.out b11).alloc (Nat.le_trans BX.out.size b11.size) (.cells #[.int .u32 (T4 : Int), .int .u8 (r4 : Int)] 24)
    have XA := blk_below ((Below.refl w11.heap.size w11).alloc (Nat.le_refl _) (.cells #[.int .u32 (T4 : Int), .int .u8 (r4 : Int)] 24)) (blk_below b11 XW.out)
    replace BX := Lib.hid BA
    replace XW := Lib.hid XA
    obtain ⟨j0, j1, j2⟩ := pair_new w11 (.int .u32 (T4 : Int)) (.int .u8 (r4 : Int)) 24
    clear c0 c1 c2 c3 c4 f1 f2 g1 g2 i1 i2
    clear b11 BA XA
    have x0 := cell_of_row _ _ 0 _ _ _ XW.out
    have x1 := cell_of_row _ _ 1 _ _ _ XW.out
    have fz : ∀ o, (w11.alloc (.cells #[.int .u32 (T4 : Int), .int .u8 (r4 : Int)] 24)).frozen? ⟨w7.heap.size + 1, o, none⟩ = false := fun o => frz2 XW.out o
    have XP := put2_same (.int .u32 (T4 : Int)) (.int .u8 (r4 : Int)) XW.out
    have BP := put2_below (.int .u32 (T4 : Int)) (.int .u8 (r4 : Int)) (Nat.le_add_right w7.heap.size 1) BX.out
    obtain ⟨c0, c1, c2, c3, c4, f1, f2, g1, g2, i1, i2⟩ := U7.out _ BX.out
    obtain ⟨-, -, -, -, -, -, -, -, -, y1, y2⟩ := U7.out _ BP
    have z0 := cell_of_row _ _ 0 _ _ _ XP
    have z1 := cell_of_row _ _ 1 _ _ _ XP
    have BF := Lib.hid (bt B7.out BP)
    unfold put2 at y1 y2 z0 z1 BF
    clear XP BP BX XW U7
    go_wp2
    go_ret
    exact ⟨rfl, BF.out⟩
  have d2 : ((k0 : Int) == 2) = true := by simp; omega
  have d2' : decide ((k0 : Int) = 2) = true := decide_eq_true (by omega)
  clear TGX AH LA2
  obtain ⟨c0, c1, c2, c3, c4, f1, f2, g1, g2, i1, i2⟩ := U7.out _ BX.out
  go_wp2_with fail
  refine (JO.out _ (bt B7.out BX.out)).mono ?_
  rintro e w8 ⟨rfl, b8⟩
  replace BX := Lib.hid (bt BX.out b8)
  replace XW := Lib.hid (blk_below b8 XW.out)
  clear c0 c1 c2 c3 c4 f1 f2 g1 g2 i1 i2
  clear b8
  obtain ⟨c0, c1, c2, c3, c4, f1, f2, g1, g2, i1, i2⟩ := U7.out _ BX.out
  clear JO
  cases ej
  rotate_left
  · obtain ⟨ea, eb⟩ := WN.out (by omega) (by simp)
    obtain rfl := ea.symm
    obtain rfl := eb.symm
    clear WN W2 W4 CM TWX
    go_upto_region 14 with fail
    clear c0 c1 c2 c3 c4 f1 f2 g1 g2 i1 i2
    have d4 : ((k0 : Int) == 4) = false := by simp; omega
    have d4' : decide ((k0 : Int) = 4) = false := decide_eq_false (by omega)
    clear d2 d2' hk2
    have SKx6 : Hid (∀ w' : World, Below w8.heap.size w8 w' → (fun w' => Below w8.heap.size w8 w' ∧ w'.cell? ⟨w.heap.size, 0, none⟩ = some (.int .u8 (k0 : Int)) ∧ w'.cell? ⟨w.heap.size, 3, none⟩ = some (.slice uo0 nu0 uc0) ∧ w'.cell? ⟨w3.heap.size, 0, none⟩ = some (.int .u32 (T1 : Int)) ∧ w'.cell? ⟨w3.heap.size, 1, none⟩ = some (.int .u8 (r1 : Int))) w') := fun w' h => by
      have U := U7.out w' (bt BX.out h)
      exact ⟨h, U.1, U.2.2.2.1, U.2.2.2.2.2.1, U.2.2.2.2.2.2.1⟩
    refine wp_region_held_drew (S := fun w' => Below w8.heap.size w8 w' ∧ w'.cell? ⟨w.heap.size, 0, none⟩ = some (.int .u8 (k0 : Int)) ∧ w'.cell? ⟨w.heap.size, 3, none⟩ = some (.slice uo0 nu0 uc0) ∧ w'.cell? ⟨w3.heap.size, 0, none⟩ = some (.int .u32 (T1 : Int)) ∧ w'.cell? ⟨w3.heap.size, 1, none⟩ = some (.int .u8 (r1 : Int))) (by kernel_rfl) (SKx6.out _ (drew1 _)) (fun hHeld => ?_)
    refine wpAnyH_take (i := 0) (v := ?vx60) rfl (by kernel_rfl) (by kernel_rfl) (by kernel_rfl) (fun _ _ _ h => h) (Or.inl ⟨by rfl, ?yx60⟩) (by assumption) ?_
    case yx60 => intro w hSw; (try dsimp only at hSw); go_simp <;> with_reducible rfl
    try simp only [List.getElem_toArray, List.getElem_cons_zero, Act.put, List.setIfInBounds_toArray, List.set_cons_zero, List.set_cons_succ]
    refine wpAnyH_take (i := 1) (v := ?vx61) rfl (by kernel_rfl) (by kernel_rfl) (by kernel_rfl) (fun _ _ _ h => h) (Or.inl ⟨by rfl, ?yx61⟩) (by assumption) ?_
    case yx61 => intro w hSw; (try dsimp only at hSw); go_simp <;> with_reducible rfl
    try simp only [List.getElem_toArray, List.getElem_cons_succ, List.getElem_cons_zero, Act.put, List.setIfInBounds_toArray, List.set_cons_zero, List.set_cons_succ]
    refine wpAnyH_take (i := 2) (v := ?vx62) rfl (by kernel_rfl) (by kernel_rfl) (by kernel_rfl) (fun _ _ _ h => h) (Or.inl ⟨by rfl, ?yx62⟩) (by assumption) ?_
    case yx62 => intro w hSw; (try dsimp only at hSw); go_simp <;> with_reducible rfl
    try simp only [List.getElem_toArray, List.getElem_cons_succ, List.getElem_cons_zero, Act.put, List.setIfInBounds_toArray, List.set_cons_zero, List.set_cons_succ]
    refine wpAnyH_take (i := 3) (v := ?vx63) rfl (by kernel_rfl) (by kernel_rfl) (by kernel_rfl) (fun _ _ _ h => h) (Or.inl ⟨by rfl, ?yx63⟩) (by assumption) ?_
    case yx63 => intro w hSw; (try dsimp only at hSw); go_simp <;> with_reducible rfl
    try simp only [List.getElem_toArray, List.getElem_cons_succ, List.getElem_cons_zero, Act.put, List.setIfInBounds_toArray, List.set_cons_zero, List.set_cons_succ]
    refine wpAnyH_take (i := 4) (v := ?vx64) rfl (by kernel_rfl) (by kernel_rfl) (by kernel_rfl) (fun _ _ _ h => h) (Or.inl ⟨by rfl, ?yx64⟩) (by assumption) ?_
    case yx64 => intro w hSw; (try dsimp only at hSw); go_simp <;> with_reducible rfl
    try simp only [List.getElem_toArray, List.getElem_cons_succ, List.getElem_cons_zero, Act.put, List.setIfInBounds_toArray, List.set_cons_zero, List.set_cons_succ]
    refine wpAnyH_take (i := 5) (v := ?vx65) rfl (by kernel_rfl) (by kernel_rfl) (by kernel_rfl) (fun _ _ _ h => h) (Or.inl ⟨by rfl, ?yx65⟩) (by assumption) ?_
    case yx65 => intro w hSw; (try dsimp only at hSw); go_simp <;> with_reducible rfl
    try simp only [List.getElem_toArray, List.getElem_cons_succ, List.getElem_cons_zero, Act.put, List.setIfInBounds_toArray, List.set_cons_zero, List.set_cons_succ]
    refine wpAnyH_take (i := 6) (v := ?vx66) rfl (by kernel_rfl) (by kernel_rfl) (by kernel_rfl) (fun _ _ _ h => h) (Or.inl ⟨by rfl, ?yx66⟩) (by assumption) ?_
    case yx66 => intro w hSw; (try dsimp only at hSw); go_simp <;> with_reducible rfl
    try simp only [List.getElem_toArray, List.getElem_cons_succ, List.getElem_cons_zero, Act.put, List.setIfInBounds_toArray, List.set_cons_zero, List.set_cons_succ]
    refine wpAnyH_take (i := 7) (v := ?vx67) rfl (by kernel_rfl) (by kernel_rfl) (by kernel_rfl) (fun _ _ _ h => h) (Or.inl ⟨by rfl, ?yx67⟩) (by assumption) ?_
    case yx67 => intro w hSw; (try dsimp only at hSw); go_simp <;> with_reducible rfl
    try simp only [List.getElem_toArray, List.getElem_cons_succ, List.getElem_cons_zero, Act.put, List.setIfInBounds_toArray, List.set_cons_zero, List.set_cons_succ]
    refine wpAnyH_take (i := 8) (v := undef) rfl (by kernel_rfl) (by kernel_rfl) (by kernel_rfl) (fun _ _ _ h => h) (Or.inr ⟨by rfl, rfl⟩) (by assumption) ?_
    try simp only [List.getElem_toArray, List.getElem_cons_succ, List.getElem_cons_zero, Act.put, List.setIfInBounds_toArray, List.set_cons_zero, List.set_cons_succ]
    refine wpAnyH_take (i := 9) (v := undef) rfl (by kernel_rfl) (by kernel_rfl) (by kernel_rfl) (fun _ _ _ h => h) (Or.inr ⟨by rfl, rfl⟩) (by assumption) ?_
    try simp only [List.getElem_toArray, List.getElem_cons_succ, List.getElem_cons_zero, Act.put, List.setIfInBounds_toArray, List.set_cons_zero, List.set_cons_succ]
    refine wpAnyH_take (i := 10) (v := undef) rfl (by kernel_rfl) (by kernel_rfl) (by kernel_rfl) (fun _ _ _ h => h) (Or.inr ⟨by rfl, rfl⟩) (by assumption) ?_
    try simp only [List.getElem_toArray, List.getElem_cons_succ, List.getElem_cons_zero, Act.put, List.setIfInBounds_toArray, List.set_cons_zero, List.set_cons_succ]
    refine wpAnyH_take (i := 11) (v := undef) rfl (by kernel_rfl) (by kernel_rfl) (by kernel_rfl) (fun _ _ _ h => h) (Or.inr ⟨by rfl, rfl⟩) (by assumption) ?_
    try simp only [List.getElem_toArray, List.getElem_cons_succ, List.getElem_cons_zero, Act.put, List.setIfInBounds_toArray, List.set_cons_zero, List.set_cons_succ]
    refine wpAnyH_take (i := 12) (v := undef) rfl (by kernel_rfl) (by kernel_rfl) (by kernel_rfl) (fun _ _ _ h => h) (Or.inr ⟨by rfl, rfl⟩) (by assumption) ?_
    try simp only [List.getElem_toArray, List.getElem_cons_succ, List.getElem_cons_zero, Act.put, List.setIfInBounds_toArray, List.set_cons_zero, List.set_cons_succ]
    refine wpAnyH_take (i := 13) (v := ?vx613) rfl (by kernel_rfl) (by kernel_rfl) (by kernel_rfl) (fun _ _ _ h => h) (Or.inl ⟨by rfl, ?yx613⟩) (by assumption) ?_
    case yx613 => intro w hSw; (try dsimp only at hSw); go_simp <;> with_reducible rfl
    try simp only [List.getElem_toArray, List.getElem_cons_succ, List.getElem_cons_zero, Act.put, List.setIfInBounds_toArray, List.set_cons_zero, List.set_cons_succ]
    refine wpAnyH_done (by kernel_rfl) ?_ _
    have HB := Lib.hid (bt BX.out hHeld.1)
    have XF := Lib.hid (blk_below hHeld.1 XW.out)
    clear hHeld
    obtain ⟨c0, c1, c2, c3, c4, f1, f2, g1, g2, i1, i2⟩ := U7.out _ HB.out
    have z0 := cell_of_row _ _ 0 _ _ _ XF.out
    have z1 := cell_of_row _ _ 1 _ _ _ XF.out
    have BF := Lib.hid (bt B7.out HB.out)
    clear HB XF BX XW U7
    go_wp2
    go_ret
    exact ⟨rfl, BF.out⟩
  rcases TWX with hq | hq
  rotate_left
  · obtain ⟨ea, eb⟩ := WN.out (by omega) (fun h => hq h.2.1)
    obtain rfl := ea.symm
    obtain rfl := eb.symm
    have hne : ¬ T1 = T2 ∨ (T1 = T2 ∧ ¬ r1 = r2) := by
      by_cases h : T1 = T2
      · exact .inr ⟨h, fun h2 => hq ⟨h, h2⟩⟩
      · exact .inl h
    have d4 : ((k0 : Int) == 4) = false := by simp; omega
    have d4' : decide ((k0 : Int) = 4) = false := decide_eq_false (by omega)
    clear hq hk2 WN W2 W4 CM
    rcases hne with hne | ⟨rfl, hne⟩
    · have hi : ¬ ((T1 : Int) = (T2 : Int)) := by omega
      go_upto_region 14 with fail
      clear c0 c1 c2 c3 c4 f1 f2 g1 g2 i1 i2
      clear hi
      have SKx7 : Hid (∀ w' : World, Below w8.heap.size w8 w' → (fun w' => Below w8.heap.size w8 w' ∧ w'.cell? ⟨w.heap.size, 0, none⟩ = some (.int .u8 (k0 : Int)) ∧ w'.cell? ⟨w.heap.size, 3, none⟩ = some (.slice uo0 nu0 uc0) ∧ w'.cell? ⟨w3.heap.size, 0, none⟩ = some (.int .u32 (T1 : Int)) ∧ w'.cell? ⟨w3.heap.size, 1, none⟩ = some (.int .u8 (r1 : Int))) w') := fun w' h => by
        have U := U7.out w' (bt BX.out h)
        exact ⟨h, U.1, U.2.2.2.1, U.2.2.2.2.2.1, U.2.2.2.2.2.2.1⟩
      refine wp_region_held_drew (S := fun w' => Below w8.heap.size w8 w' ∧ w'.cell? ⟨w.heap.size, 0, none⟩ = some (.int .u8 (k0 : Int)) ∧ w'.cell? ⟨w.heap.size, 3, none⟩ = some (.slice uo0 nu0 uc0) ∧ w'.cell? ⟨w3.heap.size, 0, none⟩ = some (.int .u32 (T1 : Int)) ∧ w'.cell? ⟨w3.heap.size, 1, none⟩ = some (.int .u8 (r1 : Int))) (by kernel_rfl) (SKx7.out _ (drew1 _)) (fun hHeld => ?_)
      refine wpAnyH_take (i := 0) (v := ?vx70) rfl (by kernel_rfl) (by kernel_rfl) (by kernel_rfl) (fun _ _ _ h => h) (Or.inl ⟨by rfl, ?yx70⟩) (by assumption) ?_
      case yx70 => intro w hSw; (try dsimp only at hSw); go_simp <;> with_reducible rfl
      try simp only [List.getElem_toArray, List.getElem_cons_zero, Act.put, List.setIfInBounds_toArray, List.set_cons_zero, List.set_cons_succ]
      refine wpAnyH_take (i := 1) (v := ?vx71) rfl (by kernel_rfl) (by kernel_rfl) (by kernel_rfl) (fun _ _ _ h => h) (Or.inl ⟨by rfl, ?yx71⟩) (by assumption) ?_
      case yx71 => intro w hSw; (try dsimp only at hSw); go_simp <;> with_reducible rfl
      try simp only [List.getElem_toArray, List.getElem_cons_succ, List.getElem_cons_zero, Act.put, List.setIfInBounds_toArray, List.set_cons_zero, List.set_cons_succ]
      refine wpAnyH_take (i := 2) (v := ?vx72) rfl (by kernel_rfl) (by kernel_rfl) (by kernel_rfl) (fun _ _ _ h => h) (Or.inl ⟨by rfl, ?yx72⟩) (by assumption) ?_
      case yx72 => intro w hSw; (try dsimp only at hSw); go_simp <;> with_reducible rfl
      try simp only [List.getElem_toArray, List.getElem_cons_succ, List.getElem_cons_zero, Act.put, List.setIfInBounds_toArray, List.set_cons_zero, List.set_cons_succ]
      refine wpAnyH_take (i := 3) (v := ?vx73) rfl (by kernel_rfl) (by kernel_rfl) (by kernel_rfl) (fun _ _ _ h => h) (Or.inl ⟨by rfl, ?yx73⟩) (by assumption) ?_
      case yx73 => intro w hSw; (try dsimp only at hSw); go_simp <;> with_reducible rfl
      try simp only [List.getElem_toArray, List.getElem_cons_succ, List.getElem_cons_zero, Act.put, List.setIfInBounds_toArray, List.set_cons_zero, List.set_cons_succ]
      refine wpAnyH_take (i := 4) (v := ?vx74) rfl (by kernel_rfl) (by kernel_rfl) (by kernel_rfl) (fun _ _ _ h => h) (Or.inl ⟨by rfl, ?yx74⟩) (by assumption) ?_
      case yx74 => intro w hSw; (try dsimp only at hSw); go_simp <;> with_reducible rfl
      try simp only [List.getElem_toArray, List.getElem_cons_succ, List.getElem_cons_zero, Act.put, List.setIfInBounds_toArray, List.set_cons_zero, List.set_cons_succ]
      refine wpAnyH_take (i := 5) (v := ?vx75) rfl (by kernel_rfl) (by kernel_rfl) (by kernel_rfl) (fun _ _ _ h => h) (Or.inl ⟨by rfl, ?yx75⟩) (by assumption) ?_
      case yx75 => intro w hSw; (try dsimp only at hSw); go_simp <;> with_reducible rfl
      try simp only [List.getElem_toArray, List.getElem_cons_succ, List.getElem_cons_zero, Act.put, List.setIfInBounds_toArray, List.set_cons_zero, List.set_cons_succ]
      refine wpAnyH_take (i := 6) (v := ?vx76) rfl (by kernel_rfl) (by kernel_rfl) (by kernel_rfl) (fun _ _ _ h => h) (Or.inl ⟨by rfl, ?yx76⟩) (by assumption) ?_
      case yx76 => intro w hSw; (try dsimp only at hSw); go_simp <;> with_reducible rfl
      try simp only [List.getElem_toArray, List.getElem_cons_succ, List.getElem_cons_zero, Act.put, List.setIfInBounds_toArray, List.set_cons_zero, List.set_cons_succ]
      refine wpAnyH_take (i := 7) (v := ?vx77) rfl (by kernel_rfl) (by kernel_rfl) (by kernel_rfl) (fun _ _ _ h => h) (Or.inl ⟨by rfl, ?yx77⟩) (by assumption) ?_
      case yx77 => intro w hSw; (try dsimp only at hSw); go_simp <;> with_reducible rfl
      try simp only [List.getElem_toArray, List.getElem_cons_succ, List.getElem_cons_zero, Act.put, List.setIfInBounds_toArray, List.set_cons_zero, List.set_cons_succ]
      refine wpAnyH_take (i := 8) (v := undef) rfl (by kernel_rfl) (by kernel_rfl) (by kernel_rfl) (fun _ _ _ h => h) (Or.inr ⟨by rfl, rfl⟩) (by assumption) ?_
      try simp only [List.getElem_toArray, List.getElem_cons_succ, List.getElem_cons_zero, Act.put, List.setIfInBounds_toArray, List.set_cons_zero, List.set_cons_succ]
      refine wpAnyH_take (i := 9) (v := undef) rfl (by kernel_rfl) (by kernel_rfl) (by kernel_rfl) (fun _ _ _ h => h) (Or.inr ⟨by rfl, rfl⟩) (by assumption) ?_
      try simp only [List.getElem_toArray, List.getElem_cons_succ, List.getElem_cons_zero, Act.put, List.setIfInBounds_toArray, List.set_cons_zero, List.set_cons_succ]
      refine wpAnyH_take (i := 10) (v := undef) rfl (by kernel_rfl) (by kernel_rfl) (by kernel_rfl) (fun _ _ _ h => h) (Or.inr ⟨by rfl, rfl⟩) (by assumption) ?_
      try simp only [List.getElem_toArray, List.getElem_cons_succ, List.getElem_cons_zero, Act.put, List.setIfInBounds_toArray, List.set_cons_zero, List.set_cons_succ]
      refine wpAnyH_take (i := 11) (v := undef) rfl (by kernel_rfl) (by kernel_rfl) (by kernel_rfl) (fun _ _ _ h => h) (Or.inr ⟨by rfl, rfl⟩) (by assumption) ?_
      try simp only [List.getElem_toArray, List.getElem_cons_succ, List.getElem_cons_zero, Act.put, List.setIfInBounds_toArray, List.set_cons_zero, List.set_cons_succ]
      refine wpAnyH_take (i := 12) (v := undef) rfl (by kernel_rfl) (by kernel_rfl) (by kernel_rfl) (fun _ _ _ h => h) (Or.inr ⟨by rfl, rfl⟩) (by assumption) ?_
      try simp only [List.getElem_toArray, List.getElem_cons_succ, List.getElem_cons_zero, Act.put, List.setIfInBounds_toArray, List.set_cons_zero, List.set_cons_succ]
      refine wpAnyH_take (i := 13) (v := ?vx713) rfl (by kernel_rfl) (by kernel_rfl) (by kernel_rfl) (fun _ _ _ h => h) (Or.inl ⟨by rfl, ?yx713⟩) (by assumption) ?_
      case yx713 => intro w hSw; (try dsimp only at hSw); go_simp <;> with_reducible rfl
      try simp only [List.getElem_toArray, List.getElem_cons_succ, List.getElem_cons_zero, Act.put, List.setIfInBounds_toArray, List.set_cons_zero, List.set_cons_succ]
      refine wpAnyH_done (by kernel_rfl) ?_ _
      have HB := Lib.hid (bt BX.out hHeld.1)
      have XF := Lib.hid (blk_below hHeld.1 XW.out)
      clear hHeld
      obtain ⟨c0, c1, c2, c3, c4, f1, f2, g1, g2, i1, i2⟩ := U7.out _ HB.out
      have z0 := cell_of_row _ _ 0 _ _ _ XF.out
      have z1 := cell_of_row _ _ 1 _ _ _ XF.out
      have BF := Lib.hid (bt B7.out HB.out)
      clear HB XF BX XW U7
      go_wp2
      go_ret
      exact ⟨rfl, BF.out⟩
    · have hi : ¬ ((r1 : Int) = (r2 : Int)) := by omega
      go_upto_region 14 with fail
      clear c0 c1 c2 c3 c4 f1 f2 g1 g2 i1 i2
      clear hi
      have SKx8 : Hid (∀ w' : World, Below w8.heap.size w8 w' → (fun w' => Below w8.heap.size w8 w' ∧ w'.cell? ⟨w.heap.size, 0, none⟩ = some (.int .u8 (k0 : Int)) ∧ w'.cell? ⟨w.heap.size, 3, none⟩ = some (.slice uo0 nu0 uc0) ∧ w'.cell? ⟨w3.heap.size, 0, none⟩ = some (.int .u32 (T1 : Int)) ∧ w'.cell? ⟨w3.heap.size, 1, none⟩ = some (.int .u8 (r1 : Int))) w') := fun w' h => by
        have U := U7.out w' (bt BX.out h)
        exact ⟨h, U.1, U.2.2.2.1, U.2.2.2.2.2.1, U.2.2.2.2.2.2.1⟩
      refine wp_region_held_drew (S := fun w' => Below w8.heap.size w8 w' ∧ w'.cell? ⟨w.heap.size, 0, none⟩ = some (.int .u8 (k0 : Int)) ∧ w'.cell? ⟨w.heap.size, 3, none⟩ = some (.slice uo0 nu0 uc0) ∧ w'.cell? ⟨w3.heap.size, 0, none⟩ = some (.int .u32 (T1 : Int)) ∧ w'.cell? ⟨w3.heap.size, 1, none⟩ = some (.int .u8 (r1 : Int))) (by kernel_rfl) (SKx8.out _ (drew1 _)) (fun hHeld => ?_)
      refine wpAnyH_take (i := 0) (v := ?vx80) rfl (by kernel_rfl) (by kernel_rfl) (by kernel_rfl) (fun _ _ _ h => h) (Or.inl ⟨by rfl, ?yx80⟩) (by assumption) ?_
      case yx80 => intro w hSw; (try dsimp only at hSw); go_simp <;> with_reducible rfl
      try simp only [List.getElem_toArray, List.getElem_cons_zero, Act.put, List.setIfInBounds_toArray, List.set_cons_zero, List.set_cons_succ]
      refine wpAnyH_take (i := 1) (v := ?vx81) rfl (by kernel_rfl) (by kernel_rfl) (by kernel_rfl) (fun _ _ _ h => h) (Or.inl ⟨by rfl, ?yx81⟩) (by assumption) ?_
      case yx81 => intro w hSw; (try dsimp only at hSw); go_simp <;> with_reducible rfl
      try simp only [List.getElem_toArray, List.getElem_cons_succ, List.getElem_cons_zero, Act.put, List.setIfInBounds_toArray, List.set_cons_zero, List.set_cons_succ]
      refine wpAnyH_take (i := 2) (v := ?vx82) rfl (by kernel_rfl) (by kernel_rfl) (by kernel_rfl) (fun _ _ _ h => h) (Or.inl ⟨by rfl, ?yx82⟩) (by assumption) ?_
      case yx82 => intro w hSw; (try dsimp only at hSw); go_simp <;> with_reducible rfl
      try simp only [List.getElem_toArray, List.getElem_cons_succ, List.getElem_cons_zero, Act.put, List.setIfInBounds_toArray, List.set_cons_zero, List.set_cons_succ]
      refine wpAnyH_take (i := 3) (v := ?vx83) rfl (by kernel_rfl) (by kernel_rfl) (by kernel_rfl) (fun _ _ _ h => h) (Or.inl ⟨by rfl, ?yx83⟩) (by assumption) ?_
      case yx83 => intro w hSw; (try dsimp only at hSw); go_simp <;> with_reducible rfl
      try simp only [List.getElem_toArray, List.getElem_cons_succ, List.getElem_cons_zero, Act.put, List.setIfInBounds_toArray, List.set_cons_zero, List.set_cons_succ]
      refine wpAnyH_take (i := 4) (v := ?vx84) rfl (by kernel_rfl) (by kernel_rfl) (by kernel_rfl) (fun _ _ _ h => h) (Or.inl ⟨by rfl, ?yx84⟩) (by assumption) ?_
      case yx84 => intro w hSw; (try dsimp only at hSw); go_simp <;> with_reducible rfl
      try simp only [List.getElem_toArray, List.getElem_cons_succ, List.getElem_cons_zero, Act.put, List.setIfInBounds_toArray, List.set_cons_zero, List.set_cons_succ]
      refine wpAnyH_take (i := 5) (v := ?vx85) rfl (by kernel_rfl) (by kernel_rfl) (by kernel_rfl) (fun _ _ _ h => h) (Or.inl ⟨by rfl, ?yx85⟩) (by assumption) ?_
      case yx85 => intro w hSw; (try dsimp only at hSw); go_simp <;> with_reducible rfl
      try simp only [List.getElem_toArray, List.getElem_cons_succ, List.getElem_cons_zero, Act.put, List.setIfInBounds_toArray, List.set_cons_zero, List.set_cons_succ]
      refine wpAnyH_take (i := 6) (v := ?vx86) rfl (by kernel_rfl) (by kernel_rfl) (by kernel_rfl) (fun _ _ _ h => h) (Or.inl ⟨by rfl, ?yx86⟩) (by assumption) ?_
      case yx86 => intro w hSw; (try dsimp only at hSw); go_simp <;> with_reducible rfl
      try simp only [List.getElem_toArray, List.getElem_cons_succ, List.getElem_cons_zero, Act.put, List.setIfInBounds_toArray, List.set_cons_zero, List.set_cons_succ]
      refine wpAnyH_take (i := 7) (v := ?vx87) rfl (by kernel_rfl) (by kernel_rfl) (by kernel_rfl) (fun _ _ _ h => h) (Or.inl ⟨by rfl, ?yx87⟩) (by assumption) ?_
      case yx87 => intro w hSw; (try dsimp only at hSw); go_simp <;> with_reducible rfl
      try simp only [List.getElem_toArray, List.getElem_cons_succ, List.getElem_cons_zero, Act.put, List.setIfInBounds_toArray, List.set_cons_zero, List.set_cons_succ]
      refine wpAnyH_take (i := 8) (v := undef) rfl (by kernel_rfl) (by kernel_rfl) (by kernel_rfl) (fun _ _ _ h => h) (Or.inr ⟨by rfl, rfl⟩) (by assumption) ?_
      try simp only [List.getElem_toArray, List.getElem_cons_succ, List.getElem_cons_zero, Act.put, List.setIfInBounds_toArray, List.set_cons_zero, List.set_cons_succ]
      refine wpAnyH_take (i := 9) (v := undef) rfl (by kernel_rfl) (by kernel_rfl) (by kernel_rfl) (fun _ _ _ h => h) (Or.inr ⟨by rfl, rfl⟩) (by assumption) ?_
      try simp only [List.getElem_toArray, List.getElem_cons_succ, List.getElem_cons_zero, Act.put, List.setIfInBounds_toArray, List.set_cons_zero, List.set_cons_succ]
      refine wpAnyH_take (i := 10) (v := undef) rfl (by kernel_rfl) (by kernel_rfl) (by kernel_rfl) (fun _ _ _ h => h) (Or.inr ⟨by rfl, rfl⟩) (by assumption) ?_
      try simp only [List.getElem_toArray, List.getElem_cons_succ, List.getElem_cons_zero, Act.put, List.setIfInBounds_toArray, List.set_cons_zero, List.set_cons_succ]
      refine wpAnyH_take (i := 11) (v := undef) rfl (by kernel_rfl) (by kernel_rfl) (by kernel_rfl) (fun _ _ _ h => h) (Or.inr ⟨by rfl, rfl⟩) (by assumption) ?_
      try simp only [List.getElem_toArray, List.getElem_cons_succ, List.getElem_cons_zero, Act.put, List.setIfInBounds_toArray, List.set_cons_zero, List.set_cons_succ]
      refine wpAnyH_take (i := 12) (v := undef) rfl (by kernel_rfl) (by kernel_rfl) (by kernel_rfl) (fun _ _ _ h => h) (Or.inr ⟨by rfl, rfl⟩) (by assumption) ?_
      try simp only [List.getElem_toArray, List.getElem_cons_succ, List.getElem_cons_zero, Act.put, List.setIfInBounds_toArray, List.set_cons_zero, List.set_cons_succ]
      refine wpAnyH_take (i := 13) (v := ?vx813) rfl (by kernel_rfl) (by kernel_rfl) (by kernel_rfl) (fun _ _ _ h => h) (Or.inl ⟨by rfl, ?yx813⟩) (by assumption) ?_
      case yx813 => intro w hSw; (try dsimp only at hSw); go_simp <;> with_reducible rfl
      try simp only [List.getElem_toArray, List.getElem_cons_succ, List.getElem_cons_zero, Act.put, List.setIfInBounds_toArray, List.set_cons_zero, List.set_cons_succ]
      refine wpAnyH_done (by kernel_rfl) ?_ _
      have HB := Lib.hid (bt BX.out hHeld.1)
      have XF := Lib.hid (blk_below hHeld.1 XW.out)
      clear hHeld
      obtain ⟨c0, c1, c2, c3, c4, f1, f2, g1, g2, i1, i2⟩ := U7.out _ HB.out
      have z0 := cell_of_row _ _ 0 _ _ _ XF.out
      have z1 := cell_of_row _ _ 1 _ _ _ XF.out
      have BF := Lib.hid (bt B7.out HB.out)
      clear HB XF BX XW U7
      go_wp2
      go_ret
      exact ⟨rfl, BF.out⟩
  have hq1 := hq
  obtain ⟨rfl, rfl⟩ := hq
  go_wp2_with fail
  refine (CM.out _ (bt B7.out BX.out)).mono ?_
  rintro e w9 ⟨rfl, b9⟩
  replace BX := Lib.hid (bt BX.out b9)
  replace XW := Lib.hid (blk_below b9 XW.out)
  clear c0 c1 c2 c3 c4 f1 f2 g1 g2 i1 i2
  clear b9
  obtain ⟨c0, c1, c2, c3, c4, f1, f2, g1, g2, i1, i2⟩ := U7.out _ BX.out
  clear CM
  by_cases hc : cm ≤ 0
  rotate_left
  · have d9 : decide (cm ≤ 0) = false := decide_eq_false hc
    obtain ⟨ea, eb⟩ := WN.out (by omega) (fun h => hc h.2.2)
    obtain rfl := ea.symm
    obtain rfl := eb.symm
    have d4 : ((k0 : Int) == 4) = false := by simp; omega
    have d4' : decide ((k0 : Int) = 4) = false := decide_eq_false (by omega)
    clear WN W2 W4 hq1
    go_upto_region 14 with fail
    clear c0 c1 c2 c3 c4 f1 f2 g1 g2 i1 i2
    clear hc d9 d2 d2' hk2
    have SKx9 : Hid (∀ w' : World, Below w9.heap.size w9 w' → (fun w' => Below w9.heap.size w9 w' ∧ w'.cell? ⟨w.heap.size, 0, none⟩ = some (.int .u8 (k0 : Int)) ∧ w'.cell? ⟨w.heap.size, 3, none⟩ = some (.slice uo0 nu0 uc0) ∧ w'.cell? ⟨w3.heap.size, 0, none⟩ = some (.int .u32 (T1 : Int)) ∧ w'.cell? ⟨w3.heap.size, 1, none⟩ = some (.int .u8 (r1 : Int))) w') := fun w' h => by
      have U := U7.out w' (bt BX.out h)
      exact ⟨h, U.1, U.2.2.2.1, U.2.2.2.2.2.1, U.2.2.2.2.2.2.1⟩
    refine wp_region_held_drew (S := fun w' => Below w9.heap.size w9 w' ∧ w'.cell? ⟨w.heap.size, 0, none⟩ = some (.int .u8 (k0 : Int)) ∧ w'.cell? ⟨w.heap.size, 3, none⟩ = some (.slice uo0 nu0 uc0) ∧ w'.cell? ⟨w3.heap.size, 0, none⟩ = some (.int .u32 (T1 : Int)) ∧ w'.cell? ⟨w3.heap.size, 1, none⟩ = some (.int .u8 (r1 : Int))) (by kernel_rfl) (SKx9.out _ (drew1 _)) (fun hHeld => ?_)
    refine wpAnyH_take (i := 0) (v := ?vx90) rfl (by kernel_rfl) (by kernel_rfl) (by kernel_rfl) (fun _ _ _ h => h) (Or.inl ⟨by rfl, ?yx90⟩) (by assumption) ?_
    case yx90 => intro w hSw; (try dsimp only at hSw); go_simp <;> with_reducible rfl
    try simp only [List.getElem_toArray, List.getElem_cons_zero, Act.put, List.setIfInBounds_toArray, List.set_cons_zero, List.set_cons_succ]
    refine wpAnyH_take (i := 1) (v := ?vx91) rfl (by kernel_rfl) (by kernel_rfl) (by kernel_rfl) (fun _ _ _ h => h) (Or.inl ⟨by rfl, ?yx91⟩) (by assumption) ?_
    case yx91 => intro w hSw; (try dsimp only at hSw); go_simp <;> with_reducible rfl
    try simp only [List.getElem_toArray, List.getElem_cons_succ, List.getElem_cons_zero, Act.put, List.setIfInBounds_toArray, List.set_cons_zero, List.set_cons_succ]
    refine wpAnyH_take (i := 2) (v := ?vx92) rfl (by kernel_rfl) (by kernel_rfl) (by kernel_rfl) (fun _ _ _ h => h) (Or.inl ⟨by rfl, ?yx92⟩) (by assumption) ?_
    case yx92 => intro w hSw; (try dsimp only at hSw); go_simp <;> with_reducible rfl
    try simp only [List.getElem_toArray, List.getElem_cons_succ, List.getElem_cons_zero, Act.put, List.setIfInBounds_toArray, List.set_cons_zero, List.set_cons_succ]
    refine wpAnyH_take (i := 3) (v := ?vx93) rfl (by kernel_rfl) (by kernel_rfl) (by kernel_rfl) (fun _ _ _ h => h) (Or.inl ⟨by rfl, ?yx93⟩) (by assumption) ?_
    case yx93 => intro w hSw; (try dsimp only at hSw); go_simp <;> with_reducible rfl
    try simp only [List.getElem_toArray, List.getElem_cons_succ, List.getElem_cons_zero, Act.put, List.setIfInBounds_toArray, List.set_cons_zero, List.set_cons_succ]
    refine wpAnyH_take (i := 4) (v := ?vx94) rfl (by kernel_rfl) (by kernel_rfl) (by kernel_rfl) (fun _ _ _ h => h) (Or.inl ⟨by rfl, ?yx94⟩) (by assumption) ?_
    case yx94 => intro w hSw; (try dsimp only at hSw); go_simp <;> with_reducible rfl
    try simp only [List.getElem_toArray, List.getElem_cons_succ, List.getElem_cons_zero, Act.put, List.setIfInBounds_toArray, List.set_cons_zero, List.set_cons_succ]
    refine wpAnyH_take (i := 5) (v := ?vx95) rfl (by kernel_rfl) (by kernel_rfl) (by kernel_rfl) (fun _ _ _ h => h) (Or.inl ⟨by rfl, ?yx95⟩) (by assumption) ?_
    case yx95 => intro w hSw; (try dsimp only at hSw); go_simp <;> with_reducible rfl
    try simp only [List.getElem_toArray, List.getElem_cons_succ, List.getElem_cons_zero, Act.put, List.setIfInBounds_toArray, List.set_cons_zero, List.set_cons_succ]
    refine wpAnyH_take (i := 6) (v := ?vx96) rfl (by kernel_rfl) (by kernel_rfl) (by kernel_rfl) (fun _ _ _ h => h) (Or.inl ⟨by rfl, ?yx96⟩) (by assumption) ?_
    case yx96 => intro w hSw; (try dsimp only at hSw); go_simp <;> with_reducible rfl
    try simp only [List.getElem_toArray, List.getElem_cons_succ, List.getElem_cons_zero, Act.put, List.setIfInBounds_toArray, List.set_cons_zero, List.set_cons_succ]
    refine wpAnyH_take (i := 7) (v := ?vx97) rfl (by kernel_rfl) (by kernel_rfl) (by kernel_rfl) (fun _ _ _ h => h) (Or.inl ⟨by rfl, ?yx97⟩) (by assumption) ?_
    case yx97 => intro w hSw; (try dsimp only at hSw); go_simp <;> with_reducible rfl
    try simp only [List.getElem_toArray, List.getElem_cons_succ, List.getElem_cons_zero, Act.put, List.setIfInBounds_toArray, List.set_cons_zero, List.set_cons_succ]
    refine wpAnyH_take (i := 8) (v := undef) rfl (by kernel_rfl) (by kernel_rfl) (by kernel_rfl) (fun _ _ _ h => h) (Or.inr ⟨by rfl, rfl⟩) (by assumption) ?_
    try simp only [List.getElem_toArray, List.getElem_cons_succ, List.getElem_cons_zero, Act.put, List.setIfInBounds_toArray, List.set_cons_zero, List.set_cons_succ]
    refine wpAnyH_take (i := 9) (v := undef) rfl (by kernel_rfl) (by kernel_rfl) (by kernel_rfl) (fun _ _ _ h => h) (Or.inr ⟨by rfl, rfl⟩) (by assumption) ?_
    try simp only [List.getElem_toArray, List.getElem_cons_succ, List.getElem_cons_zero, Act.put, List.setIfInBounds_toArray, List.set_cons_zero, List.set_cons_succ]
    refine wpAnyH_take (i := 10) (v := undef) rfl (by kernel_rfl) (by kernel_rfl) (by kernel_rfl) (fun _ _ _ h => h) (Or.inr ⟨by rfl, rfl⟩) (by assumption) ?_
    try simp only [List.getElem_toArray, List.getElem_cons_succ, List.getElem_cons_zero, Act.put, List.setIfInBounds_toArray, List.set_cons_zero, List.set_cons_succ]
    refine wpAnyH_take (i := 11) (v := undef) rfl (by kernel_rfl) (by kernel_rfl) (by kernel_rfl) (fun _ _ _ h => h) (Or.inr ⟨by rfl, rfl⟩) (by assumption) ?_
    try simp only [List.getElem_toArray, List.getElem_cons_succ, List.getElem_cons_zero, Act.put, List.setIfInBounds_toArray, List.set_cons_zero, List.set_cons_succ]
    refine wpAnyH_take (i := 12) (v := undef) rfl (by kernel_rfl) (by kernel_rfl) (by kernel_rfl) (fun _ _ _ h => h) (Or.inr ⟨by rfl, rfl⟩) (by assumption) ?_
    try simp only [List.getElem_toArray, List.getElem_cons_succ, List.getElem_cons_zero, Act.put, List.setIfInBounds_toArray, List.set_cons_zero, List.set_cons_succ]
    refine wpAnyH_take (i := 13) (v := ?vx913) rfl (by kernel_rfl) (by kernel_rfl) (by kernel_rfl) (fun _ _ _ h => h) (Or.inl ⟨by rfl, ?yx913⟩) (by assumption) ?_
    case yx913 => intro w hSw; (try dsimp only at hSw); go_simp <;> with_reducible rfl
    try simp only [List.getElem_toArray, List.getElem_cons_succ, List.getElem_cons_zero, Act.put, List.setIfInBounds_toArray, List.set_cons_zero, List.set_cons_succ]
    refine wpAnyH_done (by kernel_rfl) ?_ _
    have HB := Lib.hid (bt BX.out hHeld.1)
    have XF := Lib.hid (blk_below hHeld.1 XW.out)
    clear hHeld
    obtain ⟨c0, c1, c2, c3, c4, f1, f2, g1, g2, i1, i2⟩ := U7.out _ HB.out
    have z0 := cell_of_row _ _ 0 _ _ _ XF.out
    have z1 := cell_of_row _ _ 1 _ _ _ XF.out
    have BF := Lib.hid (bt B7.out HB.out)
    clear HB XF BX XW U7
    go_wp2
    go_ret
    exact ⟨rfl, BF.out⟩
  have d9 : decide (cm ≤ 0) = true := decide_eq_true hc
  obtain ⟨rfl, rfl⟩ := W2.out (by simp) hk2 (by simp) (by simp) hc
  have d4 : ((k0 : Int) == 4) = false := by simp; omega
  have d4' : decide ((k0 : Int) = 4) = false := decide_eq_false (by omega)
  clear WN W2 W4 hq1 hk2 hc
  have x0 := cell_of_row _ _ 0 _ _ _ XW.out
  have x1 := cell_of_row _ _ 1 _ _ _ XW.out
  have fz : ∀ o, w9.frozen? ⟨w7.heap.size + 1, o, none⟩ = false := fun o => frz2 XW.out o
  have XP := put2_same (.int .u32 (T4 : Int)) (.int .u8 (r4 : Int)) XW.out
  have BP := put2_below (.int .u32 (T4 : Int)) (.int .u8 (r4 : Int)) (Nat.le_add_right w7.heap.size 1) BX.out
  go_upto_region 14 with fail
  clear c0 c1 c2 c3 c4 f1 f2 g1 g2 i1 i2
  clear x0 x1 fz d2 d2' d9
  obtain ⟨wp, hwp⟩ : ∃ x : World, x = put2 w9 (w7.heap.size + 1) (.int .u32 (T4 : Int)) (.int .u8 (r4 : Int)) := ⟨_, rfl⟩
  rw [← hwp] at XP BP
  unfold put2 at hwp
  rw [← hwp]
  replace XW := Lib.hid XP
  replace BX := Lib.hid BP
  clear hwp XP BP
  have SKx10 : Hid (∀ w' : World, Below wp.heap.size wp w' → (fun w' => Below wp.heap.size wp w' ∧ w'.cell? ⟨w.heap.size, 0, none⟩ = some (.int .u8 (k0 : Int)) ∧ w'.cell? ⟨w.heap.size, 3, none⟩ = some (.slice uo0 nu0 uc0) ∧ w'.cell? ⟨w3.heap.size, 0, none⟩ = some (.int .u32 (T1 : Int)) ∧ w'.cell? ⟨w3.heap.size, 1, none⟩ = some (.int .u8 (r1 : Int))) w') := fun w' h => by
    have U := U7.out w' (bt BX.out h)
    exact ⟨h, U.1, U.2.2.2.1, U.2.2.2.2.2.1, U.2.2.2.2.2.2.1⟩
  refine wp_region_held_drew (S := fun w' => Below wp.heap.size wp w' ∧ w'.cell? ⟨w.heap.size, 0, none⟩ = some (.int .u8 (k0 : Int)) ∧ w'.cell? ⟨w.heap.size, 3, none⟩ = some (.slice uo0 nu0 uc0) ∧ w'.cell? ⟨w3.heap.size, 0, none⟩ = some (.int .u32 (T1 : Int)) ∧ w'.cell? ⟨w3.heap.size, 1, none⟩ = some (.int .u8 (r1 : Int))) (by kernel_rfl) (SKx10.out _ (drew1 _)) (fun hHeld => ?_)
  refine wpAnyH_take (i := 0) (v := ?vx100) rfl (by kernel_rfl) (by kernel_rfl) (by kernel_rfl) (fun _ _ _ h => h) (Or.inl ⟨by rfl, ?yx100⟩) (by assumption) ?_
  case yx100 => intro w hSw; (try dsimp only at hSw); go_simp <;> with_reducible rfl
  try simp only [List.getElem_toArray, List.getElem_cons_zero, Act.put, List.setIfInBounds_toArray, List.set_cons_zero, List.set_cons_succ]
  refine wpAnyH_take (i := 1) (v := ?vx101) rfl (by kernel_rfl) (by kernel_rfl) (by kernel_rfl) (fun _ _ _ h => h) (Or.inl ⟨by rfl, ?yx101⟩) (by assumption) ?_
  case yx101 => intro w hSw; (try dsimp only at hSw); go_simp <;> with_reducible rfl
  try simp only [List.getElem_toArray, List.getElem_cons_succ, List.getElem_cons_zero, Act.put, List.setIfInBounds_toArray, List.set_cons_zero, List.set_cons_succ]
  refine wpAnyH_take (i := 2) (v := ?vx102) rfl (by kernel_rfl) (by kernel_rfl) (by kernel_rfl) (fun _ _ _ h => h) (Or.inl ⟨by rfl, ?yx102⟩) (by assumption) ?_
  case yx102 => intro w hSw; (try dsimp only at hSw); go_simp <;> with_reducible rfl
  try simp only [List.getElem_toArray, List.getElem_cons_succ, List.getElem_cons_zero, Act.put, List.setIfInBounds_toArray, List.set_cons_zero, List.set_cons_succ]
  refine wpAnyH_take (i := 3) (v := ?vx103) rfl (by kernel_rfl) (by kernel_rfl) (by kernel_rfl) (fun _ _ _ h => h) (Or.inl ⟨by rfl, ?yx103⟩) (by assumption) ?_
  case yx103 => intro w hSw; (try dsimp only at hSw); go_simp <;> with_reducible rfl
  try simp only [List.getElem_toArray, List.getElem_cons_succ, List.getElem_cons_zero, Act.put, List.setIfInBounds_toArray, List.set_cons_zero, List.set_cons_succ]
  refine wpAnyH_take (i := 4) (v := ?vx104) rfl (by kernel_rfl) (by kernel_rfl) (by kernel_rfl) (fun _ _ _ h => h) (Or.inl ⟨by rfl, ?yx104⟩) (by assumption) ?_
  case yx104 => intro w hSw; (try dsimp only at hSw); go_simp <;> with_reducible rfl
  try simp only [List.getElem_toArray, List.getElem_cons_succ, List.getElem_cons_zero, Act.put, List.setIfInBounds_toArray, List.set_cons_zero, List.set_cons_succ]
  refine wpAnyH_take (i := 5) (v := ?vx105) rfl (by kernel_rfl) (by kernel_rfl) (by kernel_rfl) (fun _ _ _ h => h) (Or.inl ⟨by rfl, ?yx105⟩) (by assumption) ?_
  case yx105 => intro w hSw; (try dsimp only at hSw); go_simp <;> with_reducible rfl
  try simp only [List.getElem_toArray, List.getElem_cons_succ, List.getElem_cons_zero, Act.put, List.setIfInBounds_toArray, List.set_cons_zero, List.set_cons_succ]
  refine wpAnyH_take (i := 6) (v := ?vx106) rfl (by kernel_rfl) (by kernel_rfl) (by kernel_rfl) (fun _ _ _ h => h) (Or.inl ⟨by rfl, ?yx106⟩) (by assumption) ?_
  case yx106 => intro w hSw; (try dsimp only at hSw); go_simp <;> with_reducible rfl
  try simp only [List.getElem_toArray, List.getElem_cons_succ, List.getElem_cons_zero, Act.put, List.setIfInBounds_toArray, List.set_cons_zero, List.set_cons_succ]
  refine wpAnyH_take (i := 7) (v := ?vx107) rfl (by kernel_rfl) (by kernel_rfl) (by kernel_rfl) (fun _ _ _ h => h) (Or.inl ⟨by rfl, ?yx107⟩) (by assumption) ?_
  case yx107 => intro w hSw; (try dsimp only at hSw); go_simp <;> with_reducible rfl
  try simp only [List.getElem_toArray, List.getElem_cons_succ, List.getElem_cons_zero, Act.put, List.setIfInBounds_toArray, List.set_cons_zero, List.set_cons_succ]
  refine wpAnyH_take (i := 8) (v := undef) rfl (by kernel_rfl) (by kernel_rfl) (by kernel_rfl) (fun _ _ _ h => h) (Or.inr ⟨by rfl, rfl⟩) (by assumption) ?_
  try simp only [List.getElem_toArray, List.getElem_cons_succ, List.getElem_cons_zero, Act.put, List.setIfInBounds_toArray, List.set_cons_zero, List.set_cons_succ]
  refine wpAnyH_take (i := 9) (v := undef) rfl (by kernel_rfl) (by kernel_rfl) (by kernel_rfl) (fun _ _ _ h => h) (Or.inr ⟨by rfl, rfl⟩) (by assumption) ?_
  try simp only [List.getElem_toArray, List.getElem_cons_succ, List.getElem_cons_zero, Act.put, List.setIfInBounds_toArray, List.set_cons_zero, List.set_cons_succ]
  refine wpAnyH_take (i := 10) (v := undef) rfl (by kernel_rfl) (by kernel_rfl) (by kernel_rfl) (fun _ _ _ h => h) (Or.inr ⟨by rfl, rfl⟩) (by assumption) ?_
  try simp only [List.getElem_toArray, List.getElem_cons_succ, List.getElem_cons_zero, Act.put, List.setIfInBounds_toArray, List.set_cons_zero, List.set_cons_succ]
  refine wpAnyH_take (i := 11) (v := undef) rfl (by kernel_rfl) (by kernel_rfl) (by kernel_rfl) (fun _ _ _ h => h) (Or.inr ⟨by rfl, rfl⟩) (by assumption) ?_
  try simp only [List.getElem_toArray, List.getElem_cons_succ, List.getElem_cons_zero, Act.put, List.setIfInBounds_toArray, List.set_cons_zero, List.set_cons_succ]
  refine wpAnyH_take (i := 12) (v := undef) rfl (by kernel_rfl) (by kernel_rfl) (by kernel_rfl) (fun _ _ _ h => h) (Or.inr ⟨by rfl, rfl⟩) (by assumption) ?_
  try simp only [List.getElem_toArray, List.getElem_cons_succ, List.getElem_cons_zero, Act.put, List.setIfInBounds_toArray, List.set_cons_zero, List.set_cons_succ]
  refine wpAnyH_take (i := 13) (v := ?vx1013) rfl (by kernel_rfl) (by kernel_rfl) (by kernel_rfl) (fun _ _ _ h => h) (Or.inl ⟨by rfl, ?yx1013⟩) (by assumption) ?_
  case yx1013 => intro w hSw; (try dsimp only at hSw); go_simp <;> with_reducible rfl
  try simp only [List.getElem_toArray, List.getElem_cons_succ, List.getElem_cons_zero, Act.put, List.setIfInBounds_toArray, List.set_cons_zero, List.set_cons_succ]
  refine wpAnyH_done (by kernel_rfl) ?_ _
  have HB := Lib.hid (bt BX.out hHeld.1)
  have XF := Lib.hid (blk_below hHeld.1 XW.out)
  clear hHeld
  obtain ⟨c0, c1, c2, c3, c4, f1, f2, g1, g2, i1, i2⟩ := U7.out _ HB.out
  have z0 := cell_of_row _ _ 0 _ _ _ XF.out
  have z1 := cell_of_row _ _ 1 _ _ _ XF.out
  have BF := Lib.hid (bt B7.out HB.out)
  clear HB XF BX XW U7
  go_wp2
  go_ret
  exact ⟨rfl, BF.out⟩
end Go.Proofs.Ytdgcokknaampdaa.Homes
