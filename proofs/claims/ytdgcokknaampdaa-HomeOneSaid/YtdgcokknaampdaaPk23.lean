/- HomeOne answers true, and changes nothing that was there. Conditions: none. -/
import Derived.Test.YtdgcokknaampdaaPk19
import Derived.Test.YtdgcokknaampdaaPk10
import Derived.Test.YtdgcokknaampdaaPk22

namespace Go.Proofs.Ytdgcokknaampdaa.Homes
open Go.RowKit Go.WideShapes Stamp Go.Proofs.Ytdgcokknaampdaa.Place Ops Codes Bags Marks
attribute [local go_sem ↓] Go.wp_at_zero Go.wp_at_succ
attribute [local go_sem] yielded_undef

set_option maxRecDepth 100000 in
set_option maxHeartbeats 40000000 in
theorem one_walk {l : List Opn} {p : List Run} {ao0 ao1 : Option Addr} {cap0 cap1 : Nat} {w : World} (hr0 : OpL w (.slice ao0 l.length cap0) l) (hr1 : Runs w (.slice ao1 p.length cap1) p) :
    Calls Try.prog 5 #[.slice ao0 l.length cap0, .slice ao1 p.length cap1] w fun e w' => e = .returned (.bool true) ∧ Below w.heap.size w w' := by
  have HV : Hid (∀ W : World, Below w.heap.size w W → OpL W (.slice ao0 l.length cap0) l) := fun W h => hr0.keeps h
  have HP : Hid (∀ W : World, Below w.heap.size w W → Runs W (.slice ao1 p.length cap1) p) := fun W h => hr1.keeps h
  have AV := Lib.hid alive13_any
  have GR : Hid (∀ W : World, Below w.heap.size w W → Calls Try.prog 13 #[.slice ao0 l.length cap0, .int .i64 60] W fun e w' => GrtO l 60 e ∧ W = w') := fun W h => greatO_any (HV.out W h)
  have hgr : ∀ {e : Ending}, GrtO l 60 e → ∃ g, e = .returned (.bool g) := fun ⟨g, h1, h2⟩ => ⟨g, h1⟩
  have CA : Hid (∀ W : World, Below w.heap.size w W → Calls Try.prog 15 #[.slice ao0 l.length cap0] W (AllI (allL l) (chkL l) W)) := fun W h => hAll_any (HV.out W h)
  have CO : Hid (∀ W : World, Below w.heap.size w W → Calls Try.prog 10 #[.slice ao0 l.length cap0, .slice ao1 p.length cap1] W (OneI (homeL l p) (homeE l p) W)) := fun W h => hOf_any (HV.out W h) (HP.out W h)
  have SP : Hid (∀ (W : World) (x : Id), Below w.heap.size w W → Calls Try.prog 9 #[.slice ao0 l.length cap0, .agg #[.int .u32 (x.t : Int), .int .u8 (x.r : Int)]] W (TwoR (fromL l x) (toL l x) (spanE l x) W)) := fun W x h => hSpan_any x (HV.out W h)
  have SM : Hid (∀ (W : World) (u v : Value) (m : List Run), Runs W u m → Runs W v m → Calls Try.prog 12 #[u, v] W fun e w' => e = .returned (.bool true) ∧ Below W.heap.size W w') := fun W u v m h h2 => by
    have := Go.Proofs.Ytdgcokknaampdaa.Place.psame_any h h2
    rwa [decide_eq_true rfl] at this
  have CL : Hid (∀ (W : World) (v : Value) (m : List Run), Below w.heap.size w W → Runs W v m → Calls Try.prog 23 #[v, .slice ao1 p.length cap1] W fun e w' => e = .returned (.int .i64 (cmp m p)) ∧ Below W.heap.size W w') := fun W v m h h2 => pCompare_any h2 (HP.out W h)
  have CR : Hid (∀ (W : World) (v : Value) (m : List Run), Below w.heap.size w W → Runs W v m → Calls Try.prog 23 #[.slice ao1 p.length cap1, v] W fun e w' => e = .returned (.int .i64 (cmp p m)) ∧ Below W.heap.size W w') := fun W v m h h2 => pCompare_any (HP.out W h) h2
  obtain ⟨n0, hn0⟩ : ∃ n, n = l.length := ⟨_, rfl⟩
  rw [← hn0] at GR CA CO SP ⊢
  obtain ⟨n1, hn1⟩ : ∃ n, n = p.length := ⟨_, rfl⟩
  rw [← hn1] at CO CL CR ⊢
  have hcase : Hid ((homeE l p = 8 ∧ homeL l p = zid) ∨ (Bag l ∧ anyB p = true ∧ homeE l p = 0 ∧ chkL l = 0 ∧ allL l = sectsM (livesM l l) ∧ homeL l p = homeM (livesM l l) p)) := by
    by_cases hb : Bag l
    · by_cases hp : anyB p = true
      · refine .inr ⟨hb, hp, ?_, ?_, ?_, ?_⟩
        · unfold homeE; rw [(bagB_iff l).2 hb, hp]; rfl
        · unfold chkL; rw [(bagB_iff l).2 hb]; rfl
        · unfold allL; rw [(bagB_iff l).2 hb]; rfl
        · unfold homeL; rw [(bagB_iff l).2 hb, hp]; rfl
      · have hp' : anyB p = false := by simpa using hp
        refine .inl ⟨?_, ?_⟩
        · unfold homeE; rw [hp', Bool.and_false]; rfl
        · unfold homeL; rw [hp', Bool.and_false]; rfl
    · refine .inl ⟨?_, ?_⟩
      · unfold homeE; rw [bagB_no hb]; rfl
      · unfold homeL; rw [bagB_no hb]; rfl
  have SAT : Hid (Bag l → ∀ i, i < (livesM l l).length + 1 → fromL l ((sectsM (livesM l l)).getD i zid) = beginM (livesM l l) i ∧ toL l ((sectsM (livesM l l)).getD i zid) = beginM (livesM l l) ((i : Int) + 1) ∧ spanE l ((sectsM (livesM l l)).getD i zid) = 0) := fun hb i hi => span_at hb hi
  have LIV : Hid (Bag l → Liv (livesM l l) ∧ (livesM l l).length ≤ 1024) := fun hb => ⟨liv_bag hb, (lives_fits hb).1⟩
  obtain ⟨AL, hAL⟩ : ∃ z, allL l = z := ⟨_, rfl⟩
  obtain ⟨E1, hE1⟩ : ∃ z, chkL l = z := ⟨_, rfl⟩
  obtain ⟨HO, hHO⟩ : ∃ z, homeL l p = z := ⟨_, rfl⟩
  obtain ⟨E2, hE2⟩ : ∃ z, homeE l p = z := ⟨_, rfl⟩
  obtain ⟨V, hV⟩ : ∃ z, livesM l l = z := ⟨_, rfl⟩
  rw [hAL, hE1] at CA
  rw [hHO, hE2] at CO
  rw [hAL, hE1, hHO, hE2, hV] at hcase
  rw [hV] at SAT LIV
  obtain ⟨T1, r1, hT1, hr1'⟩ := HO
  have B0 : Hid (Below w.heap.size w w) := Below.refl _ _
  have HRM : n1 ≤ 9223372036854775807 := by rw [hn1]; exact hr1.max
  clear hr0 hr1 hn0 hn1 hAL hE1 hHO hE2 hV HV HP
  go_enter Try.func5, Try.ntmps5
  go_wp2_with fail
  refine (AV.out _).mono ?_
  rintro e w1 ⟨rfl, b1⟩
  have B1 := Lib.hid b1
  clear b1 B0 AV
  go_wp2_with fail
  refine (GR.out _ B1.out).mono ?_
  rintro e w2 ⟨hg, rfl⟩
  obtain ⟨g, rfl⟩ := hgr hg
  clear hg hgr GR
  cases g
  rotate_left
  · go_wp2
    go_ret
    exact ⟨rfl, B1.out⟩
  by_cases hm : 100 < n1
  · have t1 : decide ((100 : Int) < (n1 : Int)) = true := decide_eq_true (by omega)
    have u1 : decide (100 < n1) = true := decide_eq_true hm
    go_wp2
    go_ret
    exact ⟨rfl, B1.out⟩
  have t1 : decide ((100 : Int) < (n1 : Int)) = false := decide_eq_false (by omega)
  have u1 : decide (100 < n1) = false := decide_eq_false hm
  go_wp2_with fail
  refine (CO.out _ B1.out).mono ?_
  rintro e w3 ⟨rfl, b3⟩
  have B3 := Lib.hid (bt B1.out b3)
  clear b3 B1 CO t1 u1
  have bo := (Below.refl w3.heap.size w3).alloc (Nat.le_refl _) (.cells #[.int .u32 (T1 : Int), .int .u8 (r1 : Int)] 24)
  have P3 := Lib.hid (pair_new w3 (.int .u32 (T1 : Int)) (.int .u8 (r1 : Int)) 24)
  have B3' := Lib.hid (bt B3.out bo)
  clear bo B3
  go_wp2_with fail
  refine (CA.out _ B3'.out).mono ?_
  rintro e w4 ⟨lo, lc, rfl, o4, b4⟩
  have B4 := Lib.hid (bt B3'.out b4)
  have P4 := Lib.hid (P3.out.keeps b4)
  have I4 := Lib.hid (Go.Proofs.Ytdgcokknaampdaa.Ids.own o4)
  clear o4 b4 B3' P3 CA
  have P4' := P4.out
  obtain ⟨lt1, f1, f2⟩ := P4'
  rcases hcase.out with ⟨rfl, hz⟩ | ⟨hb, hp, rfl, rfl, rfl, hh⟩
  · obtain rfl : T1 = 0 := congrArg Id.t hz
    obtain rfl : r1 = 0 := congrArg Id.r hz
    clear hcase hz I4 SAT LIV SP SM CL CR P4
    go_wp2
    go_ret
    exact ⟨rfl, B4.out⟩
  have SAT2 := Lib.hid (SAT.out hb)
  have LV := Lib.hid (LIV.out hb).1
  have hVl := (LIV.out hb).2
  have HPP := Lib.hid hp
  have HH := Lib.hid hh
  have HN := sectsM_len V
  have I5 : Hid (∀ W : World, Below w4.heap.size w4 W → Ids W (.slice lo (sectsM V).length lc) (sectsM V)) := fun W h => I4.out.keeps h
  obtain ⟨L, hL⟩ : ∃ z, z = sectsM V := ⟨_, rfl⟩
  rw [← hL] at I5 SAT2 HN ⊢
  obtain ⟨n, hn⟩ : ∃ z, z = L.length := ⟨_, rfl⟩
  rw [← hn] at I5 HN ⊢
  have hnm : n ≤ 1025 := by omega
  obtain ⟨c, hc⟩ : ∃ z, z = cntM V p := ⟨_, rfl⟩
  have hcn : c < n := by have := cntM_le V p; omega
  have Z4 : Hid (Below w4.heap.size w4 w4) := Below.refl _ _
  have HNV := Lib.hid HN
  have HLN := Lib.hid hn
  clear HN
  have HL := Lib.hid hL
  have HC := Lib.hid hc
  have R0 : Hid (Runs w4 (.slice none (beginM V ((0 : Nat) : Int)).length 0) (beginM V ((0 : Nat) : Int))) := Sees.nil _ _
  clear hcase hb hp hh SAT LIV I4 hL hn hc lt1 f1 f2 HRM hm
  go_wp2
  go_loopw [10, 11, 12, 13, 14, 15, 16] (fun nn last i s13 s14 s15 s16 wr => ∃ j : Nat, j ≤ n ∧ i = .int .i64 (j : Int) ∧ nn = .int .i64 ((hits c j : Nat) : Int) ∧ (∃ ko kc, last = .slice ko (beginM V (j : Int)).length kc) ∧ Hid (Runs wr last (beginM V (j : Int))) ∧ Hid (Below w4.heap.size w4 wr)) (fun nn last i s13 s14 s15 s16 _ => n - (intOf i).toNat)
  case atStart => exact ⟨0, by omega, rfl, rfl, ⟨_, _, rfl⟩, R0, Z4⟩
  case round =>
    clear R0 Z4
    obtain ⟨j, hj, rfl, rfl, ⟨ko, kc, rfl⟩, hlast, hbel⟩ := hrel
    have BW := Lib.hid (bt B4.out hbel.out)
    by_cases hjn : j < n
    rotate_left
    · have q3 : decide (j < n) = false := by simpa using hjn
      obtain rfl : j = n := by omega
      have hh1 : hits c j = 1 := by unfold hits; rw [if_pos hcn]
      rw [hh1]
      clear hlast hbel SAT2 LV HPP HH I5 HL HC SP SM CL CR P4 B4
      go_wp2
      go_ret
      exact ⟨rfl, BW.out⟩
    have q3 : decide (j < n) = true := by simpa using hjn
    have q4 : (0 : Int) ≤ (j : Int) := by omega
    have q5 : (j : Int) < (n : Int) := by omega
    have hjV : j < V.length + 1 := by have := HNV.out; omega
    have hjl : j < L.length := by have := HLN.out; omega
    obtain ⟨bb, oo, e, hbb, h0, h1⟩ := Ids.at (I5.out wr hbel.out) j hjl
    subst e
    have SAJ := SAT2.out j hjV
    have HM : Hid (L.getD j zid = ⟨T1, r1, hT1, hr1'⟩ ↔ j = c) := by
      rw [HH.out, HC.out, HL.out]
      exact home_at LV.out hjV
    have NT : Hid ((beginM V ((j : Int) + 1)).length = 0 ↔ j = V.length) := begin_len LV.out hjV
    have NF : Hid (0 < j → (beginM V (j : Int)).length ≠ 0) := fun h => begin_pos LV.out h hjV
    have INN : Hid ((decide (cmp (beginM V (j : Int)) p ≤ 0) && (decide ((beginM V ((j : Int) + 1)).length = 0) || decide (cmp p (beginM V ((j : Int) + 1)) < 0))) = decide (j = c)) := by
      rw [HC.out]
      exact span_home LV.out HPP.out hjV
    have e1 : ((j + 1 : Nat) : Int) = (j : Int) + 1 := by omega
    have RN : Hid (∀ (W : World) (eo : Option Addr) (ec : Nat), Runs W (.slice eo (beginM V ((j : Int) + 1)).length ec) (beginM V ((j : Int) + 1)) → (∃ ko kc, (Value.slice eo (beginM V ((j : Int) + 1)).length ec) = .slice ko (beginM V ((j + 1 : Nat) : Int)).length kc) ∧ Hid (Runs W (.slice eo (beginM V ((j : Int) + 1)).length ec) (beginM V ((j + 1 : Nat) : Int)))) := fun W eo ec h => by
      rw [e1]; exact ⟨⟨eo, ec, rfl⟩, h⟩
    obtain ⟨FJ, hFJ⟩ : ∃ z, z = beginM V (j : Int) := ⟨_, rfl⟩
    obtain ⟨TJ, hTJ⟩ : ∃ z, z = beginM V ((j : Int) + 1) := ⟨_, rfl⟩
    rw [← hFJ] at SAJ NF INN hlast ⊢
    rw [← hTJ] at SAJ NT INN RN
    obtain ⟨⟨t, r, ht, hr⟩, hx⟩ : ∃ x, L.getD j zid = x := ⟨_, rfl⟩
    rw [hx] at h0 h1 SAJ HM
    simp only at h0 h1
    have ELT : Hid (∀ W : World, Below wr.heap.size wr W → W.cell? ⟨bb, oo + j * 2, none⟩ = some (.int .u32 (t : Int)) ∧ W.cell? ⟨bb, oo + j * 2 + 1, none⟩ = some (.int .u8 (r : Int))) := fun W h => ⟨(h.cell (p := ⟨bb, oo + j * 2, none⟩) hbb).trans h0, (h.cell (p := ⟨bb, oo + j * 2 + 1, none⟩) hbb).trans h1⟩
    have SPJ := Lib.hid (SP.out wr ⟨t, r, ht, hr⟩ BW.out)
    rw [SAJ.1, SAJ.2.1, SAJ.2.2] at SPJ
    obtain ⟨cf, hcf⟩ : ∃ z, cmp FJ p = z := ⟨_, rfl⟩
    obtain ⟨ct, hct⟩ : ∃ z, cmp p TJ = z := ⟨_, rfl⟩
    rw [hcf, hct] at INN
    have CF : Hid (∀ (W : World) (v : Value), Below w.heap.size w W → Runs W v FJ → Calls Try.prog 23 #[v, .slice ao1 n1 cap1] W fun e w' => e = .returned (.int .i64 cf) ∧ Below W.heap.size W w') := fun W v h h2 => by rw [← hcf]; exact CL.out W v FJ h h2
    have CT : Hid (∀ (W : World) (v : Value), Below w.heap.size w W → Runs W v TJ → Calls Try.prog 23 #[.slice ao1 n1 cap1, v] W fun e w' => e = .returned (.int .i64 ct) ∧ Below W.heap.size W w') := fun W v h h2 => by rw [← hct]; exact CR.out W v TJ h h2
    obtain ⟨nf, hnf⟩ : ∃ z, z = FJ.length := ⟨_, rfl⟩
    obtain ⟨nt, hnt⟩ : ∃ z, z = TJ.length := ⟨_, rfl⟩
    rw [← hnf] at NF ⊢ hlast
    rw [← hnt] at NT INN RN
    have NFH := Lib.hid hnf
    have NTH := Lib.hid hnt
    have Pr := P4.out.keeps hbel.out
    have HHN : Hid (hits c (j + 1) = if j = c then hits c j + 1 else hits c j) := hits_next c j
    have hhb : hits c j ≤ 1 := by unfold hits; split <;> omega
    obtain ⟨hc0, hhc0⟩ : ∃ z, z = hits c j := ⟨_, rfl⟩
    rw [← hhc0] at HHN hhb ⊢
    obtain ⟨hc1, hhc1⟩ : ∃ z, z = hits c (j + 1) := ⟨_, rfl⟩
    have HC1 := Lib.hid hhc1
    rw [← hhc1] at HHN
    clear SAJ hFJ hTJ hx hcf hct SP CL CR SAT2 LV HPP HH HL HC hnf hnt hjl hhc0 hhc1
    go_wp2_with fail
    refine SPJ.out.mono ?_
    rintro e w5 ⟨va, vb, rfl, oa, os, b5⟩
    obtain ⟨aoA, capA, rfl⟩ := row_shape oa
    obtain ⟨aoB, capB, rfl⟩ := row_shape os
    have B5 := Lib.hid (bt BW.out b5)
    have Z5 := Lib.hid (bt hbel.out b5)
    have R5 := Lib.hid b5
    have FA : Hid (Runs w5 (.slice aoA FJ.length capA) FJ) := Runs.own oa
    have TB : Hid (Runs w5 (.slice aoB TJ.length capB) TJ) := Runs.own os
    have LA : Hid (Runs w5 (.slice ko nf kc) FJ) := hlast.out.keeps b5
    have P5 := Pr.keeps b5
    rw [← NFH.out] at FA ⊢
    rw [← NTH.out] at TB ⊢
    clear oa os b5 SPJ hlast hbel BW Pr h0 h1 hbb
    go_wp2_with fail
    refine (SM.out _ _ _ _ FA.out LA.out).mono ?_
    rintro e w6 ⟨rfl, b6⟩
    have B6 := Lib.hid (bt B5.out b6)
    have Z6 := Lib.hid (bt Z5.out b6)
    have R6 := Lib.hid (bt R5.out b6)
    have FA6 : Hid (Runs w6 (.slice aoA nf capA) FJ) := FA.out.keeps b6
    have TB6 : Hid (Runs w6 (.slice aoB nt capB) TJ) := TB.out.keeps b6
    have P6 := P5.keeps b6
    have z0 : IntKind.i64.wrap ((n : Int) - 1) = (n : Int) - 1 := IntWalk.i64_in _ (by omega)
    clear b6 B5 Z5 R5 FA TB LA P5 SM
    have hzt : (nt = 0) = ((j : Int) = (n : Int) - 1) := by
      have h2 := HNV.out
      exact propext ⟨fun h => by have := NT.out.1 h; omega, fun h => NT.out.2 (by omega)⟩
    obtain ⟨zt, hzt0⟩ : ∃ z, z = decide (nt = 0) := ⟨_, rfl⟩
    have y0 : decide ((nt : Int) = 0) = zt := by rw [hzt0]; exact decide_eq_decide.2 (by omega)
    have y1 : ((nt : Int) == 0) = zt := by rw [← y0]; rfl
    have y2 : decide ((j : Int) = (n : Int) - 1) = zt := by rw [hzt0]; exact decide_eq_decide.2 (by rw [hzt])
    have y3 : ((j : Int) == (n : Int) - 1) = zt := by rw [← y2]; rfl
    have y4 : (nt == 0) = zt := by rw [hzt0]; rfl
    have y5 : (zt == zt) = true := by cases zt <;> rfl
    obtain ⟨pj, hpj⟩ : ∃ z, z = decide (0 < j) := ⟨_, rfl⟩
    have x0 : decide ((0 : Int) < (j : Int)) = pj := by rw [hpj]; exact decide_eq_decide.2 (by omega)
    have x1 : decide (0 < j) = pj := hpj.symm
    have NFF : pj = true → ((nf : Int) == 0) = false ∧ (nf == 0) = false ∧ decide ((nf : Int) = 0) = false := fun h => by
      have h2 := NF.out (of_decide_eq_true (by rw [x1]; exact h))
      exact ⟨by simpa using h2, by simpa using h2, by simpa using h2⟩
    rw [hzt0.symm] at INN
    have YT := Lib.hid hzt0
    clear hzt hpj hzt0
    cases pj
    · clear NFF
      cases zt
      · go_wp2_with fail
        refine (CF.out _ _ B6.out FA6.out).mono ?_
        rintro e w7 ⟨rfl, b7⟩
        have B7 := Lib.hid (bt B6.out b7)
        have Z7 := Lib.hid (bt Z6.out b7)
        have R7 := Lib.hid (bt R6.out b7)
        have TB7 : Hid (Runs w7 (.slice aoB nt capB) TJ) := TB6.out.keeps b7
        have P7 := P6.keeps b7
        clear b7 B6 Z6 R6 TB6 P6
        obtain ⟨qf, hqf⟩ : ∃ z, decide (cf ≤ 0) = z := ⟨_, rfl⟩
        rw [hqf] at INN
        cases qf
        · obtain ⟨g0, g1⟩ := ELT.out w7 R7.out
          obtain ⟨lt1, f1, f2⟩ := P7
          have ZF : Hid (Below w4.heap.size w4 w7.drew) := Z7.out.drew
          have TBD : Runs w7.drew (.slice aoB nt capB) TJ := TB7.out.keeps ((Below.refl _ _).drew)
          have RNX : Hid ((∃ ko kc, (Value.slice aoB nt capB) = .slice ko (beginM V ((j + 1 : Nat) : Int)).length kc) ∧ Hid (Runs w7.drew (.slice aoB nt capB) (beginM V ((j + 1 : Nat) : Int)))) := RN.out w7.drew aoB capB TBD
          clear TBD
          have hjc : ¬ j = c := by simpa using INN.out
          have hh : ((hits c (j + 1) : Nat) : Int) = (hc0 : Int) := by rw [← HC1.out, HHN, if_neg hjc]
          have hne : ¬ t = T1 ∨ (t = T1 ∧ ¬ r = r1) := by
            by_cases h : t = T1
            · exact .inr ⟨h, fun h2 => hjc (HM.out.1 (by subst h h2; rfl))⟩
            · exact .inl h
          clear hjc INN HM HHN NT NF ELT RN CF CT I5 NFH NTH YT
          rcases hne with hne | ⟨rfl, hne⟩
          · have hi : ¬ ((t : Int) = (T1 : Int)) := by omega
            go_wp2
            go_region
            go_wp2
            go_roundw
            case rel => exact ⟨j + 1, by omega, by go_num, by rw [hh], RNX.out.1, RNX.out.2, ZF⟩
            case measure => simp [intOf]; omega
          · have hi : ¬ ((r : Int) = (r1 : Int)) := by omega
            go_wp2
            go_region
            go_wp2
            go_roundw
            case rel => exact ⟨j + 1, by omega, by go_num, by rw [hh], RNX.out.1, RNX.out.2, ZF⟩
            case measure => simp [intOf]; omega
        · go_wp2_with fail
          refine (CT.out _ _ B7.out TB7.out).mono ?_
          rintro e w8 ⟨rfl, b8⟩
          have B8 := Lib.hid (bt B7.out b8)
          have Z8 := Lib.hid (bt Z7.out b8)
          have R8 := Lib.hid (bt R7.out b8)
          have TB8 : Hid (Runs w8 (.slice aoB nt capB) TJ) := TB7.out.keeps b8
          have P8 := P7.keeps b8
          clear b8 B7 Z7 R7 TB7 P7
          obtain ⟨qt, hqt⟩ : ∃ z, decide (ct < 0) = z := ⟨_, rfl⟩
          rw [hqt] at INN
          cases qt
          · obtain ⟨g0, g1⟩ := ELT.out w8 R8.out
            obtain ⟨lt1, f1, f2⟩ := P8
            have ZF : Hid (Below w4.heap.size w4 w8.drew) := Z8.out.drew
            have TBD : Runs w8.drew (.slice aoB nt capB) TJ := TB8.out.keeps ((Below.refl _ _).drew)
            have RNX : Hid ((∃ ko kc, (Value.slice aoB nt capB) = .slice ko (beginM V ((j + 1 : Nat) : Int)).length kc) ∧ Hid (Runs w8.drew (.slice aoB nt capB) (beginM V ((j + 1 : Nat) : Int)))) := RN.out w8.drew aoB capB TBD
            clear TBD
            have hjc : ¬ j = c := by simpa using INN.out
            have hh : ((hits c (j + 1) : Nat) : Int) = (hc0 : Int) := by rw [← HC1.out, HHN, if_neg hjc]
            have hne : ¬ t = T1 ∨ (t = T1 ∧ ¬ r = r1) := by
              by_cases h : t = T1
              · exact .inr ⟨h, fun h2 => hjc (HM.out.1 (by subst h h2; rfl))⟩
              · exact .inl h
            clear hjc INN HM HHN NT NF ELT RN CF CT I5 NFH NTH YT
            rcases hne with hne | ⟨rfl, hne⟩
            · have hi : ¬ ((t : Int) = (T1 : Int)) := by omega
              go_wp2
              go_region
              go_wp2
              go_roundw
              case rel => exact ⟨j + 1, by omega, by go_num, by rw [hh], RNX.out.1, RNX.out.2, ZF⟩
              case measure => simp [intOf]; omega
            · have hi : ¬ ((r : Int) = (r1 : Int)) := by omega
              go_wp2
              go_region
              go_wp2
              go_roundw
              case rel => exact ⟨j + 1, by omega, by go_num, by rw [hh], RNX.out.1, RNX.out.2, ZF⟩
              case measure => simp [intOf]; omega
          · obtain ⟨g0, g1⟩ := ELT.out w8 R8.out
            obtain ⟨lt1, f1, f2⟩ := P8
            have ZF : Hid (Below w4.heap.size w4 w8.drew) := Z8.out.drew
            have TBD : Runs w8.drew (.slice aoB nt capB) TJ := TB8.out.keeps ((Below.refl _ _).drew)
            have RNX : Hid ((∃ ko kc, (Value.slice aoB nt capB) = .slice ko (beginM V ((j + 1 : Nat) : Int)).length kc) ∧ Hid (Runs w8.drew (.slice aoB nt capB) (beginM V ((j + 1 : Nat) : Int)))) := RN.out w8.drew aoB capB TBD
            clear TBD
            have hjc : j = c := by simpa using INN.out
            have hh : ((hits c (j + 1) : Nat) : Int) = (hc0 : Int) + 1 := by rw [← HC1.out, HHN, if_pos hjc]; rfl
            have hw : IntKind.i64.wrap ((hc0 : Int) + 1) = (hc0 : Int) + 1 := IntWalk.i64_in _ (by omega)
            have h := HM.out.2 hjc
            obtain ⟨rfl, rfl⟩ : t = T1 ∧ r = r1 := ⟨congrArg Id.t h, congrArg Id.r h⟩
            clear h hjc INN HM HHN NT NF ELT RN CF CT I5 NFH NTH YT
            go_wp2
            go_region
            go_wp2
            go_roundw
            case rel => exact ⟨j + 1, by omega, by go_num, by rw [hh], RNX.out.1, RNX.out.2, ZF⟩
            case measure => simp [intOf]; omega
      · go_wp2_with fail
        refine (CF.out _ _ B6.out FA6.out).mono ?_
        rintro e w7 ⟨rfl, b7⟩
        have B7 := Lib.hid (bt B6.out b7)
        have Z7 := Lib.hid (bt Z6.out b7)
        have R7 := Lib.hid (bt R6.out b7)
        have TB7 : Hid (Runs w7 (.slice aoB nt capB) TJ) := TB6.out.keeps b7
        have P7 := P6.keeps b7
        clear b7 B6 Z6 R6 TB6 P6
        obtain ⟨qf, hqf⟩ : ∃ z, decide (cf ≤ 0) = z := ⟨_, rfl⟩
        rw [hqf] at INN
        cases qf
        · obtain ⟨g0, g1⟩ := ELT.out w7 R7.out
          obtain ⟨lt1, f1, f2⟩ := P7
          have ZF : Hid (Below w4.heap.size w4 w7.drew) := Z7.out.drew
          have TBD : Runs w7.drew (.slice aoB nt capB) TJ := TB7.out.keeps ((Below.refl _ _).drew)
          have RNX : Hid ((∃ ko kc, (Value.slice aoB nt capB) = .slice ko (beginM V ((j + 1 : Nat) : Int)).length kc) ∧ Hid (Runs w7.drew (.slice aoB nt capB) (beginM V ((j + 1 : Nat) : Int)))) := RN.out w7.drew aoB capB TBD
          clear TBD
          have hjc : ¬ j = c := by simpa using INN.out
          have hh : ((hits c (j + 1) : Nat) : Int) = (hc0 : Int) := by rw [← HC1.out, HHN, if_neg hjc]
          have hne : ¬ t = T1 ∨ (t = T1 ∧ ¬ r = r1) := by
            by_cases h : t = T1
            · exact .inr ⟨h, fun h2 => hjc (HM.out.1 (by subst h h2; rfl))⟩
            · exact .inl h
          clear hjc INN HM HHN NT NF ELT RN CF CT I5 NFH NTH YT
          rcases hne with hne | ⟨rfl, hne⟩
          · have hi : ¬ ((t : Int) = (T1 : Int)) := by omega
            go_wp2
            go_region
            go_wp2
            go_roundw
            case rel => exact ⟨j + 1, by omega, by go_num, by rw [hh], RNX.out.1, RNX.out.2, ZF⟩
            case measure => simp [intOf]; omega
          · have hi : ¬ ((r : Int) = (r1 : Int)) := by omega
            go_wp2
            go_region
            go_wp2
            go_roundw
            case rel => exact ⟨j + 1, by omega, by go_num, by rw [hh], RNX.out.1, RNX.out.2, ZF⟩
            case measure => simp [intOf]; omega
        · obtain ⟨g0, g1⟩ := ELT.out w7 R7.out
          obtain ⟨lt1, f1, f2⟩ := P7
          have ZF : Hid (Below w4.heap.size w4 w7.drew) := Z7.out.drew
          have TBD : Runs w7.drew (.slice aoB nt capB) TJ := TB7.out.keeps ((Below.refl _ _).drew)
          have RNX : Hid ((∃ ko kc, (Value.slice aoB nt capB) = .slice ko (beginM V ((j + 1 : Nat) : Int)).length kc) ∧ Hid (Runs w7.drew (.slice aoB nt capB) (beginM V ((j + 1 : Nat) : Int)))) := RN.out w7.drew aoB capB TBD
          clear TBD
          have hjc : j = c := by simpa using INN.out
          have hh : ((hits c (j + 1) : Nat) : Int) = (hc0 : Int) + 1 := by rw [← HC1.out, HHN, if_pos hjc]; rfl
          have hw : IntKind.i64.wrap ((hc0 : Int) + 1) = (hc0 : Int) + 1 := IntWalk.i64_in _ (by omega)
          have h := HM.out.2 hjc
          obtain ⟨rfl, rfl⟩ : t = T1 ∧ r = r1 := ⟨congrArg Id.t h, congrArg Id.r h⟩
          clear h hjc INN HM HHN NT NF ELT RN CF CT I5 NFH NTH YT
          go_wp2
          go_region
          go_wp2
          go_roundw
          case rel => exact ⟨j + 1, by omega, by go_num, by rw [hh], RNX.out.1, RNX.out.2, ZF⟩
          case measure => simp [intOf]; omega
    · obtain ⟨x2, x3, x4⟩ := NFF rfl
      clear NFF
      cases zt
      · go_wp2_with fail
        refine (CF.out _ _ B6.out FA6.out).mono ?_
        rintro e w7 ⟨rfl, b7⟩
        have B7 := Lib.hid (bt B6.out b7)
        have Z7 := Lib.hid (bt Z6.out b7)
        have R7 := Lib.hid (bt R6.out b7)
        have TB7 : Hid (Runs w7 (.slice aoB nt capB) TJ) := TB6.out.keeps b7
        have P7 := P6.keeps b7
        clear b7 B6 Z6 R6 TB6 P6
        obtain ⟨qf, hqf⟩ : ∃ z, decide (cf ≤ 0) = z := ⟨_, rfl⟩
        rw [hqf] at INN
        cases qf
        · obtain ⟨g0, g1⟩ := ELT.out w7 R7.out
          obtain ⟨lt1, f1, f2⟩ := P7
          have ZF : Hid (Below w4.heap.size w4 w7.drew) := Z7.out.drew
          have TBD : Runs w7.drew (.slice aoB nt capB) TJ := TB7.out.keeps ((Below.refl _ _).drew)
          have RNX : Hid ((∃ ko kc, (Value.slice aoB nt capB) = .slice ko (beginM V ((j + 1 : Nat) : Int)).length kc) ∧ Hid (Runs w7.drew (.slice aoB nt capB) (beginM V ((j + 1 : Nat) : Int)))) := RN.out w7.drew aoB capB TBD
          clear TBD
          have hjc : ¬ j = c := by simpa using INN.out
          have hh : ((hits c (j + 1) : Nat) : Int) = (hc0 : Int) := by rw [← HC1.out, HHN, if_neg hjc]
          have hne : ¬ t = T1 ∨ (t = T1 ∧ ¬ r = r1) := by
            by_cases h : t = T1
            · exact .inr ⟨h, fun h2 => hjc (HM.out.1 (by subst h h2; rfl))⟩
            · exact .inl h
          clear hjc INN HM HHN NT NF ELT RN CF CT I5 NFH NTH YT
          rcases hne with hne | ⟨rfl, hne⟩
          · have hi : ¬ ((t : Int) = (T1 : Int)) := by omega
            go_wp2
            go_region
            go_wp2
            go_roundw
            case rel => exact ⟨j + 1, by omega, by go_num, by rw [hh], RNX.out.1, RNX.out.2, ZF⟩
            case measure => simp [intOf]; omega
          · have hi : ¬ ((r : Int) = (r1 : Int)) := by omega
            go_wp2
            go_region
            go_wp2
            go_roundw
            case rel => exact ⟨j + 1, by omega, by go_num, by rw [hh], RNX.out.1, RNX.out.2, ZF⟩
            case measure => simp [intOf]; omega
        · go_wp2_with fail
          refine (CT.out _ _ B7.out TB7.out).mono ?_
          rintro e w8 ⟨rfl, b8⟩
          have B8 := Lib.hid (bt B7.out b8)
          have Z8 := Lib.hid (bt Z7.out b8)
          have R8 := Lib.hid (bt R7.out b8)
          have TB8 : Hid (Runs w8 (.slice aoB nt capB) TJ) := TB7.out.keeps b8
          have P8 := P7.keeps b8
          clear b8 B7 Z7 R7 TB7 P7
          obtain ⟨qt, hqt⟩ : ∃ z, decide (ct < 0) = z := ⟨_, rfl⟩
          rw [hqt] at INN
          cases qt
          · obtain ⟨g0, g1⟩ := ELT.out w8 R8.out
            obtain ⟨lt1, f1, f2⟩ := P8
            have ZF : Hid (Below w4.heap.size w4 w8.drew) := Z8.out.drew
            have TBD : Runs w8.drew (.slice aoB nt capB) TJ := TB8.out.keeps ((Below.refl _ _).drew)
            have RNX : Hid ((∃ ko kc, (Value.slice aoB nt capB) = .slice ko (beginM V ((j + 1 : Nat) : Int)).length kc) ∧ Hid (Runs w8.drew (.slice aoB nt capB) (beginM V ((j + 1 : Nat) : Int)))) := RN.out w8.drew aoB capB TBD
            clear TBD
            have hjc : ¬ j = c := by simpa using INN.out
            have hh : ((hits c (j + 1) : Nat) : Int) = (hc0 : Int) := by rw [← HC1.out, HHN, if_neg hjc]
            have hne : ¬ t = T1 ∨ (t = T1 ∧ ¬ r = r1) := by
              by_cases h : t = T1
              · exact .inr ⟨h, fun h2 => hjc (HM.out.1 (by subst h h2; rfl))⟩
              · exact .inl h
            clear hjc INN HM HHN NT NF ELT RN CF CT I5 NFH NTH YT
            rcases hne with hne | ⟨rfl, hne⟩
            · have hi : ¬ ((t : Int) = (T1 : Int)) := by omega
              go_wp2
              go_region
              go_wp2
              go_roundw
              case rel => exact ⟨j + 1, by omega, by go_num, by rw [hh], RNX.out.1, RNX.out.2, ZF⟩
              case measure => simp [intOf]; omega
            · have hi : ¬ ((r : Int) = (r1 : Int)) := by omega
              go_wp2
              go_region
              go_wp2
              go_roundw
              case rel => exact ⟨j + 1, by omega, by go_num, by rw [hh], RNX.out.1, RNX.out.2, ZF⟩
              case measure => simp [intOf]; omega
          · obtain ⟨g0, g1⟩ := ELT.out w8 R8.out
            obtain ⟨lt1, f1, f2⟩ := P8
            have ZF : Hid (Below w4.heap.size w4 w8.drew) := Z8.out.drew
            have TBD : Runs w8.drew (.slice aoB nt capB) TJ := TB8.out.keeps ((Below.refl _ _).drew)
            have RNX : Hid ((∃ ko kc, (Value.slice aoB nt capB) = .slice ko (beginM V ((j + 1 : Nat) : Int)).length kc) ∧ Hid (Runs w8.drew (.slice aoB nt capB) (beginM V ((j + 1 : Nat) : Int)))) := RN.out w8.drew aoB capB TBD
            clear TBD
            have hjc : j = c := by simpa using INN.out
            have hh : ((hits c (j + 1) : Nat) : Int) = (hc0 : Int) + 1 := by rw [← HC1.out, HHN, if_pos hjc]; rfl
            have hw : IntKind.i64.wrap ((hc0 : Int) + 1) = (hc0 : Int) + 1 := IntWalk.i64_in _ (by omega)
            have h := HM.out.2 hjc
            obtain ⟨rfl, rfl⟩ : t = T1 ∧ r = r1 := ⟨congrArg Id.t h, congrArg Id.r h⟩
            clear h hjc INN HM HHN NT NF ELT RN CF CT I5 NFH NTH YT
            go_wp2
            go_region
            go_wp2
            go_roundw
            case rel => exact ⟨j + 1, by omega, by go_num, by rw [hh], RNX.out.1, RNX.out.2, ZF⟩
            case measure => simp [intOf]; omega
      · go_wp2_with fail
        refine (CF.out _ _ B6.out FA6.out).mono ?_
        rintro e w7 ⟨rfl, b7⟩
        have B7 := Lib.hid (bt B6.out b7)
        have Z7 := Lib.hid (bt Z6.out b7)
        have R7 := Lib.hid (bt R6.out b7)
        have TB7 : Hid (Runs w7 (.slice aoB nt capB) TJ) := TB6.out.keeps b7
        have P7 := P6.keeps b7
        clear b7 B6 Z6 R6 TB6 P6
        obtain ⟨qf, hqf⟩ : ∃ z, decide (cf ≤ 0) = z := ⟨_, rfl⟩
        rw [hqf] at INN
        cases qf
        · obtain ⟨g0, g1⟩ := ELT.out w7 R7.out
          obtain ⟨lt1, f1, f2⟩ := P7
          have ZF : Hid (Below w4.heap.size w4 w7.drew) := Z7.out.drew
          have TBD : Runs w7.drew (.slice aoB nt capB) TJ := TB7.out.keeps ((Below.refl _ _).drew)
          have RNX : Hid ((∃ ko kc, (Value.slice aoB nt capB) = .slice ko (beginM V ((j + 1 : Nat) : Int)).length kc) ∧ Hid (Runs w7.drew (.slice aoB nt capB) (beginM V ((j + 1 : Nat) : Int)))) := RN.out w7.drew aoB capB TBD
          clear TBD
          have hjc : ¬ j = c := by simpa using INN.out
          have hh : ((hits c (j + 1) : Nat) : Int) = (hc0 : Int) := by rw [← HC1.out, HHN, if_neg hjc]
          have hne : ¬ t = T1 ∨ (t = T1 ∧ ¬ r = r1) := by
            by_cases h : t = T1
            · exact .inr ⟨h, fun h2 => hjc (HM.out.1 (by subst h h2; rfl))⟩
            · exact .inl h
          clear hjc INN HM HHN NT NF ELT RN CF CT I5 NFH NTH YT
          rcases hne with hne | ⟨rfl, hne⟩
          · have hi : ¬ ((t : Int) = (T1 : Int)) := by omega
            go_wp2
            go_region
            go_wp2
            go_roundw
            case rel => exact ⟨j + 1, by omega, by go_num, by rw [hh], RNX.out.1, RNX.out.2, ZF⟩
            case measure => simp [intOf]; omega
          · have hi : ¬ ((r : Int) = (r1 : Int)) := by omega
            go_wp2
            go_region
            go_wp2
            go_roundw
            case rel => exact ⟨j + 1, by omega, by go_num, by rw [hh], RNX.out.1, RNX.out.2, ZF⟩
            case measure => simp [intOf]; omega
        · obtain ⟨g0, g1⟩ := ELT.out w7 R7.out
          obtain ⟨lt1, f1, f2⟩ := P7
          have ZF : Hid (Below w4.heap.size w4 w7.drew) := Z7.out.drew
          have TBD : Runs w7.drew (.slice aoB nt capB) TJ := TB7.out.keeps ((Below.refl _ _).drew)
          have RNX : Hid ((∃ ko kc, (Value.slice aoB nt capB) = .slice ko (beginM V ((j + 1 : Nat) : Int)).length kc) ∧ Hid (Runs w7.drew (.slice aoB nt capB) (beginM V ((j + 1 : Nat) : Int)))) := RN.out w7.drew aoB capB TBD
          clear TBD
          have hjc : j = c := by simpa using INN.out
          have hh : ((hits c (j + 1) : Nat) : Int) = (hc0 : Int) + 1 := by rw [← HC1.out, HHN, if_pos hjc]; rfl
          have hw : IntKind.i64.wrap ((hc0 : Int) + 1) = (hc0 : Int) + 1 := IntWalk.i64_in _ (by omega)
          have h := HM.out.2 hjc
          obtain ⟨rfl, rfl⟩ : t = T1 ∧ r = r1 := ⟨congrArg Id.t h, congrArg Id.r h⟩
          clear h hjc INN HM HHN NT NF ELT RN CF CT I5 NFH NTH YT
          go_wp2
          go_region
          go_wp2
          go_roundw
          case rel => exact ⟨j + 1, by omega, by go_num, by rw [hh], RNX.out.1, RNX.out.2, ZF⟩
          case measure => simp [intOf]; omega
end Go.Proofs.Ytdgcokknaampdaa.Homes
