/- The law ClockIds: its walk. Conditions: the slices' cells are stamps, and replicas' spans; no slice of spans takes more than 2^47 bytes. -/
import Derived.Test.YtmgdbgloacbacaaPk16
import Derived.Test.YtmgdbgloacbacaaPk17

namespace Go.Proofs.Ytmgdbgloacbacaa.Clocks
open Go.RowKit Go.Proofs.Ytmgdbgloacbacaa.Spans Go.Proofs.Ytmgdbgloacbacaa.Srt
attribute [local go_sem ↓] Go.wp_at_zero Go.wp_at_succ

theorem back_parts {c : List Tm} (hc : mayC c = true) (hm : manyC c ≤ 1024) : idsCC c = (allI c, 0) ∧ ofC (allI c) = (c, 0) ∧ (allI c).length = manyC c := by
  have h := (mayC_iff c).1 hc
  have hl := allI_len (cok_all h)
  refine ⟨?_, ?_, hl⟩
  · unfold idsCC; rw [if_pos hc, if_neg (by omega)]
  · unfold ofC; rw [if_neg (by omega), if_pos ((allMay_iff _).2 (allI_may h)), among_all h hm]
theorem there_parts {l : List Id} (h : allMay l = true) (hl : l.length ≤ 1000) : ofC l = (among l, 0) ∧ mayC (among l) = true ∧ manyC (among l) ≤ l.length ∧ ∀ i, i < l.length → hasC (among l) (l.getD i zid) = true := by
  have hm := (allMay_iff l).1 h
  obtain ⟨h1, -, h3⟩ := among_ok l hm (by omega)
  have h4 := among_many l hm (by omega)
  refine ⟨?_, (mayC_iff _).2 h1, h4, fun i hi => ?_⟩
  · unfold ofC; rw [if_neg (by omega), if_pos h]
  · unfold hasC
    rw [(mayC_iff _).2 h1, Bool.true_and, inB_iff, h3]
    refine ⟨l.getD i zid, ?_, rfl, rfl⟩
    rw [List.getD, List.getElem?_eq_getElem hi]
    exact List.getElem_mem _
theorem idsCC_not {c : List Tm} (h : ¬ (mayC c = true ∧ manyC c ≤ 1024)) : ∃ x : Int, idsCC c = ([], x) ∧ (x != 0) = true ∧ (x == 0) = false := by
  unfold idsCC
  by_cases h1 : mayC c = true
  · rw [if_pos h1, if_pos (Nat.lt_of_not_le fun h2 => h ⟨h1, h2⟩)]
    exact ⟨4, rfl, rfl, rfl⟩
  · rw [if_neg h1]
    exact ⟨8, rfl, rfl, rfl⟩

set_option maxRecDepth 100000 in
set_option maxHeartbeats 16000000 in
theorem ids_walk (ao0 : Option Addr) (cap0 : Nat) (l0 : List Id) (ao1 : Option Addr) (cap1 : Nat) (c : List Tm) (w : World)
    (hr0 : Ids w (.slice ao0 l0.length cap0) l0) (hr1 : Tms w (.slice ao1 c.length cap1) c) (hz1 : ∀ x ∈ c, x.2.length ≤ 17592186044416) :
    Calls Try.prog 4 #[.slice ao0 l0.length cap0, .slice ao1 c.length cap1] w fun e w' => e = .returned (.bool true) ∧ Below w.heap.size w w' := by
  have G1 : Hid (∀ W : World, Below w.heap.size w W → Calls Try.prog 5 #[.slice ao1 c.length cap1] W fun e w' => (∃ g, e = .returned (.bool g) ∧ (g = false → c.length ≤ 300 ∧ tot c ≤ 300)) ∧ W = w') := fun W hW => great_sz (hr1.keeps hW) hz1
  have H0 := Lib.hid hr0
  have H1 := Lib.hid hr1
  obtain ⟨n0, hn0⟩ : ∃ n, n = l0.length := ⟨_, rfl⟩
  obtain ⟨n1, hn1⟩ : ∃ n, n = c.length := ⟨_, rfl⟩
  rw [← hn0] at H0 ⊢
  rw [← hn1] at H1 G1 ⊢
  have HN0 := Lib.hid hn0
  clear hr0 hr1 hz1 hn0 hn1
  have AL := Lib.hid (alive08_any w)
  by_cases h1000 : 1000 < n0
  · have t1 : decide ((1000 : Int) < (n0 : Int)) = true := decide_eq_true (by omega)
    have t2 : decide (1000 < n0) = true := decide_eq_true h1000
    go_enter Try.func4, Try.ntmps4
    go_wp2_with fail
    refine AL.out.mono ?_
    rintro e w1 ⟨rfl, b1⟩
    have B1 := Lib.hid b1
    clear b1
    go_wp2
    go_ret
    exact ⟨rfl, B1.out⟩
  have t1 : decide ((1000 : Int) < (n0 : Int)) = false := decide_eq_false (by omega)
  have t2 : decide (1000 < n0) = false := decide_eq_false h1000
  -- what the calls answer
  have OO : Hid (∀ (W : World) (v : Value) (l : List Id) (L : List Tm) (x : Int), ofC l = (L, x) → l.length ≤ 1000000 → Ids W v l → Calls Try.prog 10 #[v] W (DoneC L x W)) := fun W v l L x h hl hv => by have := ofAll_any hv hl; rwa [h] at this
  have OI : Hid (∀ (W : World) (v : Value) (d : List Tm) (I : List Id) (x : Int), idsCC d = (I, x) → Tms W v d → Calls Try.prog 8 #[v] W (DoneI I x W)) := fun W v d I x h hv => by have := cIds_any hv; rwa [h] at this
  have OS : Hid (∀ (W : World) (v u : Value) (d : List Tm), Tms W v d → Tms W u d → Calls Try.prog 22 #[v, u] W fun e w' => e = .returned (.bool true) ∧ Below W.heap.size W w') := fun W v u d h h2 => by have := cSame_any h h2; rwa [decide_eq_true rfl] at this
  have SI : Hid (∀ (W : World) (v u : Value) (I : List Id), Ids W v I → Ids W u I → Calls Try.prog 12 #[v, u] W fun e w' => e = .returned (.bool true) ∧ Below W.heap.size W w') := fun W v u I h h2 => Place.sameIds_yes h h2
  go_enter Try.func4, Try.ntmps4
  go_wp2_with fail
  refine (AL.out).mono ?_
  rintro e w1 ⟨rfl, b⟩
  have F1 := Lib.hid (H0.out.keeps b)
  clear H0
  have F2 := Lib.hid (H1.out.keeps b)
  clear H1
  have B1 := Lib.hid b
  clear b
  go_wp2_with fail
  refine (G1.out _ B1.out).mono ?_
  rintro e w1' ⟨⟨g1, rfl, hg1⟩, rfl⟩
  clear hg1
  cases g1
  case true =>
    go_wp2
    go_ret
    exact ⟨rfl, B1.out⟩
  cases hA : allMay l0
  · skip
    have hO : ofC l0 = ([], 8) := by unfold ofC; rw [if_neg (by rw [← HN0.out]; omega), hA]; rfl
    have HO := Lib.hid hO
    have HL : Hid (l0.length ≤ 1000000) := by show _ ≤ _; rw [← HN0.out]; omega
    clear hO hA
    go_wp2_with fail
    refine (OO.out _ _ _ _ _ HO.out HL.out F1.out).mono ?_
    rintro e w2 ⟨vx, rfl, o, b⟩
    have F3 := Lib.hid (F1.out.keeps b)
    clear F1
    have F4 := Lib.hid (F2.out.keeps b)
    clear F2
    have B2 := Lib.hid (bt B1.out b)
    have F5 := Lib.hid o.tms
    obtain ⟨aox, capx, rfl⟩ := o.tms.shape
    clear o
    clear b
    go_wp2_with fail
    by_cases hB : mayC c = true ∧ manyC c ≤ 1024
    · skip
      obtain ⟨e1, e2, e3⟩ := back_parts hB.1 hB.2
      obtain ⟨I, hI⟩ : ∃ I, I = allI c := ⟨_, rfl⟩
      rw [← hI] at e1 e2 e3
      have hI2 : I.length ≤ 1000000 := by have := hB.2; omega
      have E1 := Lib.hid e1
      have E2 := Lib.hid e2
      have E3 := Lib.hid hI2
      clear e1 e2 e3 hI hI2
      go_wp2_with fail
      refine (OI.out _ _ _ _ _ E1.out F4.out).mono ?_
      rintro e w3 ⟨vp, rfl, o, b⟩
      have F6 := Lib.hid (F3.out.keeps b)
      clear F3
      have F7 := Lib.hid (F4.out.keeps b)
      clear F4
      have F8 := Lib.hid (F5.out.keeps b)
      clear F5
      have B3 := Lib.hid (bt B2.out b)
      have F9 := Lib.hid (Ids.own o)
      obtain ⟨aop, capp, rfl⟩ := (Ids.own o).shape
      clear o
      clear b
      go_wp2_with fail
      refine (OO.out _ _ _ _ _ E2.out E3.out F9.out).mono ?_
      rintro e w4 ⟨vq, rfl, o, b⟩
      have F10 := Lib.hid (F6.out.keeps b)
      clear F6
      have F11 := Lib.hid (F7.out.keeps b)
      clear F7
      have F12 := Lib.hid (F8.out.keeps b)
      clear F8
      have F13 := Lib.hid (F9.out.keeps b)
      clear F9
      have B4 := Lib.hid (bt B3.out b)
      have F14 := Lib.hid o.tms
      obtain ⟨aoq, capq, rfl⟩ := o.tms.shape
      clear o
      clear b
      go_wp2_with fail
      refine (OI.out _ _ _ _ _ E1.out F14.out).mono ?_
      rintro e w5 ⟨vz, rfl, o, b⟩
      have F15 := Lib.hid (F10.out.keeps b)
      clear F10
      have F16 := Lib.hid (F11.out.keeps b)
      clear F11
      have F17 := Lib.hid (F12.out.keeps b)
      clear F12
      have F18 := Lib.hid (F13.out.keeps b)
      clear F13
      have F19 := Lib.hid (F14.out.keeps b)
      clear F14
      have B5 := Lib.hid (bt B4.out b)
      have F20 := Lib.hid (Ids.own o)
      obtain ⟨aoz, capz, rfl⟩ := (Ids.own o).shape
      clear o
      clear b
      go_wp2_with fail
      refine (OS.out _ _ _ _ F19.out F16.out).mono ?_
      rintro e w6 ⟨rfl, b⟩
      have F21 := Lib.hid (F15.out.keeps b)
      clear F15
      have F22 := Lib.hid (F16.out.keeps b)
      clear F16
      have F23 := Lib.hid (F17.out.keeps b)
      clear F17
      have F24 := Lib.hid (F18.out.keeps b)
      clear F18
      have F25 := Lib.hid (F19.out.keeps b)
      clear F19
      have F26 := Lib.hid (F20.out.keeps b)
      clear F20
      have B6 := Lib.hid (bt B5.out b)
      clear b
      go_wp2_with fail
      refine (SI.out _ _ _ _ F24.out F26.out).mono ?_
      rintro e w7 ⟨rfl, b⟩
      have F27 := Lib.hid (F21.out.keeps b)
      clear F21
      have F28 := Lib.hid (F22.out.keeps b)
      clear F22
      have F29 := Lib.hid (F23.out.keeps b)
      clear F23
      have F30 := Lib.hid (F24.out.keeps b)
      clear F24
      have F31 := Lib.hid (F25.out.keeps b)
      clear F25
      have F32 := Lib.hid (F26.out.keeps b)
      clear F26
      have B7 := Lib.hid (bt B6.out b)
      clear b
      go_wp2
      go_ret
      exact ⟨rfl, B7.out⟩
    · skip
      obtain ⟨x, hx, hx1, hx2⟩ := idsCC_not hB
      have HX := Lib.hid hx
      clear hx
      go_wp2_with fail
      refine (OI.out _ _ _ _ _ HX.out F4.out).mono ?_
      rintro e w3 ⟨vp, rfl, o, b⟩
      have F6 := Lib.hid (F3.out.keeps b)
      clear F3
      have F7 := Lib.hid (F4.out.keeps b)
      clear F4
      have F8 := Lib.hid (F5.out.keeps b)
      clear F5
      have B3 := Lib.hid (bt B2.out b)
      have F9 := Lib.hid (Ids.own o)
      obtain ⟨aop, capp, rfl⟩ := (Ids.own o).shape
      clear o
      clear b
      go_wp2
      go_ret
      exact ⟨rfl, B3.out⟩
  · skip
    obtain ⟨p1, p2, p3, p4⟩ := there_parts hA (by rw [← HN0.out]; omega)
    obtain ⟨X, hX⟩ : ∃ X, X = among l0 := ⟨_, rfl⟩
    rw [← hX] at p1 p2 p3 p4
    obtain ⟨r1, r2, r3⟩ := back_parts p2 (by rw [← HN0.out] at p3; omega)
    obtain ⟨M, hM⟩ : ∃ M, M = allI X := ⟨_, rfl⟩
    rw [← hM] at r1 r2 r3
    have hcnt : countC X = M.length := by unfold countC; rw [if_pos p2, r3]
    obtain ⟨m, hm⟩ : ∃ m, m = M.length := ⟨_, rfl⟩
    have hmn : m ≤ n0 := by rw [hm, r3, HN0.out]; exact p3
    have P1 := Lib.hid p1
    have P4 := Lib.hid p4
    have R1 := Lib.hid r1
    have R2 := Lib.hid r2
    have HL : Hid (l0.length ≤ 1000000) := by show _ ≤ _; rw [← HN0.out]; omega
    have HML : Hid (M.length ≤ 1000000) := by show _ ≤ _; omega
    have HM := Lib.hid hm
    have CN : Hid (∀ (W : World) (v : Value), Tms W v X → Calls Try.prog 18 #[v] W fun e w' => e = .returned (.int .i64 (m : Int)) ∧ Below W.heap.size W w') := fun W v h => by have := cCount_any h; rwa [hcnt, ← hm] at this
    have u1 : ((m : Int) != (m : Int)) = false := by simp
    have u2 : decide ((n0 : Int) < (m : Int)) = false := decide_eq_false (by omega)
    have u3 : decide (n0 < m) = false := decide_eq_false (by omega)
    clear p1 p2 p3 p4 r1 r2 r3 hcnt hX hM hm hA
    go_wp2_with fail
    refine (OO.out _ _ _ _ _ P1.out HL.out F1.out).mono ?_
    rintro e w2 ⟨vx, rfl, o, b⟩
    have F3 := Lib.hid (F1.out.keeps b)
    clear F1
    have F4 := Lib.hid (F2.out.keeps b)
    clear F2
    have B2 := Lib.hid (bt B1.out b)
    have F5 := Lib.hid o.tms
    obtain ⟨aox, capx, rfl⟩ := o.tms.shape
    clear o
    clear b
    go_wp2_with fail
    refine (OI.out _ _ _ _ _ R1.out F5.out).mono ?_
    rintro e w3 ⟨vm, rfl, o, b⟩
    have F6 := Lib.hid (F3.out.keeps b)
    clear F3
    have F7 := Lib.hid (F4.out.keeps b)
    clear F4
    have F8 := Lib.hid (F5.out.keeps b)
    clear F5
    have B3 := Lib.hid (bt B2.out b)
    have F9 := Lib.hid (Ids.own o)
    obtain ⟨aom, capm, rfl⟩ := (Ids.own o).shape
    clear o
    clear b
    rw [← HM.out] at F9 ⊢
    go_wp2_with fail
    refine (CN.out _ _ F8.out).mono ?_
    rintro e w4 ⟨rfl, b⟩
    have F10 := Lib.hid (F6.out.keeps b)
    clear F6
    have F11 := Lib.hid (F7.out.keeps b)
    clear F7
    have F12 := Lib.hid (F8.out.keeps b)
    clear F8
    have F13 := Lib.hid (F9.out.keeps b)
    clear F9
    have B4 := Lib.hid (bt B3.out b)
    clear b
    go_wp2
    obtain ⟨wl, hwl⟩ : ∃ x, x = w4 := ⟨_, rfl⟩
    rw [← hwl] at F10
    rw [← hwl] at F11
    rw [← hwl] at F12
    rw [← hwl] at F13
    rw [← hwl] at B4 ⊢
    clear hwl
    go_loopw [10] (fun i wr => ∃ k : Nat, k ≤ n0 ∧ i = .int .i64 (k : Int) ∧ Hid (Below wl.heap.size wl wr)) (fun i _ => n0 - (intOf i).toNat)
    case atStart => exact ⟨0, by omega, rfl, Lib.hid (Below.refl _ _)⟩
    case round =>
      obtain ⟨k, hk, rfl, hbel⟩ := hrel
      obtain ⟨wo, rfl⟩ : ∃ wo : World, wo = wr := ⟨_, rfl⟩
      by_cases hkn : k < n0
      · have q1 : decide (k < n0) = true := by simpa using hkn
        have q2 : (0 : Int) ≤ (k : Int) := by omega
        have q3 : (k : Int) < (n0 : Int) := by omega
        obtain ⟨b, off, rfl, hb, hx0, hx1⟩ := (F10.out.keeps hbel.out).at k (by rw [← HN0.out]; exact hkn)
        have hh := P4.out k (by rw [← HN0.out]; exact hkn)
        obtain ⟨a, ha⟩ : ∃ a, a = l0.getD k zid := ⟨_, rfl⟩
        rw [← ha] at hx0 hx1 hh
        have C : Hid (Calls Try.prog 16 #[.slice aox X.length capx, .agg #[.int .u32 (a.t : Int), .int .u8 (a.r : Int)]] wo fun e w' => e = .returned (.bool true) ∧ Below wo.heap.size wo w') := by have := cHas_any a (F12.out.keeps hbel.out); rwa [hh] at this
        obtain ⟨at', ar, _, _⟩ := a
        simp only at hx0 hx1 C
        clear ha hh hb
        go_wp2_with fail
        refine C.out.mono ?_
        rintro e w9 ⟨rfl, b9⟩
        have B9 := Lib.hid (bt hbel.out b9)
        clear b9
        go_wp2
        go_roundw
        case rel => exact ⟨k + 1, by omega, by go_num, B9⟩
        case measure => simp [intOf]; omega
      · have q1 : decide (k < n0) = false := by simpa using hkn
        clear hkn
        have F14 := Lib.hid (F10.out.keeps hbel.out)
        clear F10
        have F15 := Lib.hid (F11.out.keeps hbel.out)
        clear F11
        have F16 := Lib.hid (F12.out.keeps hbel.out)
        clear F12
        have F17 := Lib.hid (F13.out.keeps hbel.out)
        clear F13
        have BW := Lib.hid (bt B4.out hbel.out)
        have t5 := HML.out
        go_wp2_with fail
        refine (OO.out _ _ _ _ _ R2.out HML.out F17.out).mono ?_
        rintro e w5 ⟨vy, rfl, o, b⟩
        have F18 := Lib.hid (F14.out.keeps b)
        clear F14
        have F19 := Lib.hid (F15.out.keeps b)
        clear F15
        have F20 := Lib.hid (F16.out.keeps b)
        clear F16
        have F21 := Lib.hid (F17.out.keeps b)
        clear F17
        have B5 := Lib.hid (bt BW.out b)
        have F22 := Lib.hid o.tms
        obtain ⟨aoy, capy, rfl⟩ := o.tms.shape
        clear o
        clear b
        go_wp2_with fail
        refine (OS.out _ _ _ _ F20.out F22.out).mono ?_
        rintro e w6 ⟨rfl, b⟩
        have F23 := Lib.hid (F18.out.keeps b)
        clear F18
        have F24 := Lib.hid (F19.out.keeps b)
        clear F19
        have F25 := Lib.hid (F20.out.keeps b)
        clear F20
        have F26 := Lib.hid (F21.out.keeps b)
        clear F21
        have F27 := Lib.hid (F22.out.keeps b)
        clear F22
        have B6 := Lib.hid (bt B5.out b)
        clear b
        go_wp2_with fail
        by_cases hB : mayC c = true ∧ manyC c ≤ 1024
        · skip
          obtain ⟨e1, e2, e3⟩ := back_parts hB.1 hB.2
          obtain ⟨I, hI⟩ : ∃ I, I = allI c := ⟨_, rfl⟩
          rw [← hI] at e1 e2 e3
          have hI2 : I.length ≤ 1000000 := by have := hB.2; omega
          have E1 := Lib.hid e1
          have E2 := Lib.hid e2
          have E3 := Lib.hid hI2
          clear e1 e2 e3 hI hI2
          go_wp2_with fail
          refine (OI.out _ _ _ _ _ E1.out F24.out).mono ?_
          rintro e w7 ⟨vp, rfl, o, b⟩
          have F28 := Lib.hid (F23.out.keeps b)
          clear F23
          have F29 := Lib.hid (F24.out.keeps b)
          clear F24
          have F30 := Lib.hid (F25.out.keeps b)
          clear F25
          have F31 := Lib.hid (F26.out.keeps b)
          clear F26
          have F32 := Lib.hid (F27.out.keeps b)
          clear F27
          have B7 := Lib.hid (bt B6.out b)
          have F33 := Lib.hid (Ids.own o)
          obtain ⟨aop, capp, rfl⟩ := (Ids.own o).shape
          clear o
          clear b
          go_wp2_with fail
          refine (OO.out _ _ _ _ _ E2.out E3.out F33.out).mono ?_
          rintro e w8 ⟨vq, rfl, o, b⟩
          have F34 := Lib.hid (F28.out.keeps b)
          clear F28
          have F35 := Lib.hid (F29.out.keeps b)
          clear F29
          have F36 := Lib.hid (F30.out.keeps b)
          clear F30
          have F37 := Lib.hid (F31.out.keeps b)
          clear F31
          have F38 := Lib.hid (F32.out.keeps b)
          clear F32
          have F39 := Lib.hid (F33.out.keeps b)
          clear F33
          have B8 := Lib.hid (bt B7.out b)
          have F40 := Lib.hid o.tms
          obtain ⟨aoq, capq, rfl⟩ := o.tms.shape
          clear o
          clear b
          go_wp2_with fail
          refine (OI.out _ _ _ _ _ E1.out F40.out).mono ?_
          rintro e w9 ⟨vz, rfl, o, b⟩
          have F41 := Lib.hid (F34.out.keeps b)
          clear F34
          have F42 := Lib.hid (F35.out.keeps b)
          clear F35
          have F43 := Lib.hid (F36.out.keeps b)
          clear F36
          have F44 := Lib.hid (F37.out.keeps b)
          clear F37
          have F45 := Lib.hid (F38.out.keeps b)
          clear F38
          have F46 := Lib.hid (F39.out.keeps b)
          clear F39
          have F47 := Lib.hid (F40.out.keeps b)
          clear F40
          have B9 := Lib.hid (bt B8.out b)
          have F48 := Lib.hid (Ids.own o)
          obtain ⟨aoz, capz, rfl⟩ := (Ids.own o).shape
          clear o
          clear b
          go_wp2_with fail
          refine (OS.out _ _ _ _ F47.out F42.out).mono ?_
          rintro e w10 ⟨rfl, b⟩
          have F49 := Lib.hid (F41.out.keeps b)
          clear F41
          have F50 := Lib.hid (F42.out.keeps b)
          clear F42
          have F51 := Lib.hid (F43.out.keeps b)
          clear F43
          have F52 := Lib.hid (F44.out.keeps b)
          clear F44
          have F53 := Lib.hid (F45.out.keeps b)
          clear F45
          have F54 := Lib.hid (F46.out.keeps b)
          clear F46
          have F55 := Lib.hid (F47.out.keeps b)
          clear F47
          have F56 := Lib.hid (F48.out.keeps b)
          clear F48
          have B10 := Lib.hid (bt B9.out b)
          clear b
          go_wp2_with fail
          refine (SI.out _ _ _ _ F54.out F56.out).mono ?_
          rintro e w11 ⟨rfl, b⟩
          have F57 := Lib.hid (F49.out.keeps b)
          clear F49
          have F58 := Lib.hid (F50.out.keeps b)
          clear F50
          have F59 := Lib.hid (F51.out.keeps b)
          clear F51
          have F60 := Lib.hid (F52.out.keeps b)
          clear F52
          have F61 := Lib.hid (F53.out.keeps b)
          clear F53
          have F62 := Lib.hid (F54.out.keeps b)
          clear F54
          have F63 := Lib.hid (F55.out.keeps b)
          clear F55
          have F64 := Lib.hid (F56.out.keeps b)
          clear F56
          have B11 := Lib.hid (bt B10.out b)
          clear b
          go_wp2
          go_ret
          exact ⟨rfl, B11.out⟩
        · skip
          obtain ⟨x, hx, hx1, hx2⟩ := idsCC_not hB
          have HX := Lib.hid hx
          clear hx
          go_wp2_with fail
          refine (OI.out _ _ _ _ _ HX.out F24.out).mono ?_
          rintro e w7 ⟨vp, rfl, o, b⟩
          have F28 := Lib.hid (F23.out.keeps b)
          clear F23
          have F29 := Lib.hid (F24.out.keeps b)
          clear F24
          have F30 := Lib.hid (F25.out.keeps b)
          clear F25
          have F31 := Lib.hid (F26.out.keeps b)
          clear F26
          have F32 := Lib.hid (F27.out.keeps b)
          clear F27
          have B7 := Lib.hid (bt B6.out b)
          have F33 := Lib.hid (Ids.own o)
          obtain ⟨aop, capp, rfl⟩ := (Ids.own o).shape
          clear o
          clear b
          go_wp2
          go_ret
          exact ⟨rfl, B7.out⟩
end Go.Proofs.Ytmgdbgloacbacaa.Clocks
