/- The law PlaceChild: its walk. Conditions: the slices' cells are runs. -/
import Derived.Test.YtfhmleigceakjaaPlaceOrder
import Derived.Test.YtfhmleigceakjaaPlaceMath4
namespace Go.Proofs.Ytfhmleigceakjaa.Place
open Go.RowKit Stamp
attribute [local go_sem ↓] Go.wp_at_zero Go.wp_at_succ

theorem keepB2 {wl w1 w2 : World} {b o1 o2 h2 : Nat} {c1 c2 d0 d1 : Value} (q : b < wl.heap.size ∧ wl.cell? ⟨b, o1, none⟩ = some c1 ∧ wl.cell? ⟨b, o2, none⟩ = some c2) (p2 : Pair wl h2 d0 d1) (h : Below w1.heap.size w1 w2) (hb : Below wl.heap.size wl w1) :
    Below wl.heap.size wl w2 ∧ w2.cell? ⟨b, o1, none⟩ = some c1 ∧ w2.cell? ⟨b, o2, none⟩ = some c2 ∧ w2.cell? ⟨h2, 0, none⟩ = some d0 ∧ w2.cell? ⟨h2, 1, none⟩ = some d1 :=
  have a := bt hb h
  ⟨a, (a.cell (p := ⟨b, o1, none⟩) q.1).trans q.2.1, (a.cell (p := ⟨b, o2, none⟩) q.1).trans q.2.2, (p2.keeps a).2.1, (p2.keeps a).2.2⟩

set_option maxRecDepth 100000 in
set_option maxHeartbeats 8000000 in
theorem child_walk (ao0 : Option Addr) (cap0 : Nat) (l0 : List Run) (a : Id) (ao2 : Option Addr) (cap2 : Nat) (l2 : List Run) (w : World)
    (hr0 : Runs w (.slice ao0 l0.length cap0) l0) (hr2 : Runs w (.slice ao2 l2.length cap2) l2) :
    Calls Try.prog 7 #[.slice ao0 l0.length cap0, .agg #[.int .u32 (a.t : Int), .int .u8 (a.r : Int)], .slice ao2 l2.length cap2] w fun e w' => e = .returned (.bool true) ∧ Below w.heap.size w w' := by
  obtain ⟨n0, hn0⟩ : ∃ n, n = l0.length := ⟨_, rfl⟩
  obtain ⟨n2, hn2⟩ : ∃ n, n = l2.length := ⟨_, rfl⟩
  rw [← hn0] at hr0
  rw [← hn2] at hr2
  rw [← hn0, ← hn2]
  have H0 := Lib.hid hr0
  have H2 := Lib.hid hr2
  obtain ⟨q2, hq2⟩ : ∃ q, anyB l2 = q := ⟨_, rfl⟩
  have Q2 := Lib.hid hq2
  have M2 := Lib.hid (lawMay_is hq2)
  have U0 := Lib.hid (fun (W : World) (v : Value) (h : Runs W v l0) => pUnder_any (a := a) h)
  have hcases := und_cases l0 a
  obtain ⟨t, r, ht, hr⟩ := a
  simp only at U0 hcases ⊢
  have BX := Lib.hid ((Below.refl w.heap.size w).alloc (Nat.le_refl _) (.cells #[.int .u32 (t : Int), .int .u8 (r : Int)] 32))
  have AL := Lib.hid (alive_any (w.alloc (.cells #[.int .u32 (t : Int), .int .u8 (r : Int)] 32)))
  have HCS := Lib.hid hcases
  clear hr0 hr2 hn0 hn2 hq2 hcases
  by_cases g0 : 100 < n0
  · have t0 : decide ((100 : Int) < (n0 : Int)) = true := decide_eq_true (by omega)
    have u0 : decide (100 < n0) = true := decide_eq_true g0
    go_enter Try.func7, Try.ntmps7
    go_wp2_with fail
    refine AL.out.mono ?_
    rintro e w1 ⟨rfl, b1⟩
    have PB1 := Lib.hid ((pair_new w (.int .u32 (t : Int)) (.int .u8 (r : Int)) 32).keeps b1)
    have B1 := Lib.hid (bt BX.out b1)
    clear b1
    go_wp2
    go_ret
    exact ⟨rfl, B1.out⟩
  have t0 : decide ((100 : Int) < (n0 : Int)) = false := decide_eq_false (by omega)
  have u0 : decide (100 < n0) = false := decide_eq_false g0
  by_cases g2 : 100 < n2
  · have t2 : decide ((100 : Int) < (n2 : Int)) = true := decide_eq_true (by omega)
    have u2 : decide (100 < n2) = true := decide_eq_true g2
    go_enter Try.func7, Try.ntmps7
    go_wp2_with fail
    refine AL.out.mono ?_
    rintro e w1 ⟨rfl, b1⟩
    have PB1 := Lib.hid ((pair_new w (.int .u32 (t : Int)) (.int .u8 (r : Int)) 32).keeps b1)
    have B1 := Lib.hid (bt BX.out b1)
    clear b1
    go_wp2
    go_ret
    exact ⟨rfl, B1.out⟩
  have t2 : decide ((100 : Int) < (n2 : Int)) = false := decide_eq_false (by omega)
  have u2 : decide (100 < n2) = false := decide_eq_false g2
  cases q2
  · skip
    go_enter Try.func7, Try.ntmps7
    go_wp2_with fail
    refine AL.out.mono ?_
    rintro e w1 ⟨rfl, b1⟩
    have PB1 := Lib.hid ((pair_new w (.int .u32 (t : Int)) (.int .u8 (r : Int)) 32).keeps b1)
    have B1 := Lib.hid (bt BX.out b1)
    clear b1
    go_wp2_with fail
    refine (M2.out _ _ (H2.out.keeps B1.out)).mono ?_
    rintro e w2 ⟨rfl, b2⟩
    have PB2 := Lib.hid (PB1.out.keeps b2)
    have B2 := Lib.hid (bt B1.out b2)
    clear b2
    go_wp2
    go_ret
    exact ⟨rfl, B2.out⟩
  rcases HCS.out with ⟨c, hund, hc⟩ | ⟨L, hund, hA, hM, hmL, hall⟩
  · rw [hund] at U0
    simp only at U0
    have c1 : (c == 0) = false := by simpa using hc
    clear hund hc HCS
    go_enter Try.func7, Try.ntmps7
    go_wp2_with fail
    refine AL.out.mono ?_
    rintro e w1 ⟨rfl, b1⟩
    have PB1 := Lib.hid ((pair_new w (.int .u32 (t : Int)) (.int .u8 (r : Int)) 32).keeps b1)
    have B1 := Lib.hid (bt BX.out b1)
    clear b1
    go_wp2_with fail
    refine (M2.out _ _ (H2.out.keeps B1.out)).mono ?_
    rintro e w2 ⟨rfl, b2⟩
    have PB2 := Lib.hid (PB1.out.keeps b2)
    have B2 := Lib.hid (bt B1.out b2)
    clear b2
    obtain ⟨_, x0, x1⟩ := PB2.out
    go_wp2_with fail
    refine (U0.out _ _ (H0.out.keeps B2.out)).mono ?_
    rintro e w3 ⟨aoC, capC, rfl, oc, b3⟩
    have PB3 := Lib.hid (PB2.out.keeps b3)
    have B3 := Lib.hid (bt B2.out b3)
    clear b3 oc x0 x1
    go_wp2
    go_ret
    exact ⟨rfl, B3.out⟩
  rw [hund] at U0
  simp only at U0
  have hlast := lastV_of hmL hall
  simp only at hlast
  have hids := idsOf_may hmL
  have hL := anyB_may hmL
  have hcl := ((anyB_iff l0).1 hA).chain
  have k1 : cmp l0 L = -1 := by rw [cmp_any hA hL, hall]; exact hold_front _ _ _
  have k2 : beg l0 L = true := by unfold beg; rw [hA, hL, hall]; simp only [Bool.true_and]; exact first_front _ _
  have k3 : beg L l0 = false := by unfold beg; rw [hA, hL, hall]; simp only [Bool.true_and]; exact first_long _ _
  have k5 := chk_may hmL
  obtain ⟨P, hP⟩ : ∃ P, P = all l0 := ⟨_, rfl⟩
  obtain ⟨Q, hQ⟩ : ∃ Q, Q = all l2 := ⟨_, rfl⟩
  have k6 : cmp l0 l2 = hold P Q := by rw [hP, hQ]; exact cmp_any hA Q2.out
  have k7 : beg l0 l2 = first P Q := by unfold beg; rw [hA, Q2.out, hP, hQ]; rfl
  have k8 : cmp L l2 = hold (P ++ [⟨t, r, ht, hr⟩]) Q := by rw [hP, hQ, ← hall]; exact cmp_any hL Q2.out
  rw [← hP] at hall
  have HK := Lib.hid (And.intro k1 (And.intro k2 (And.intro k3 (And.intro hlast (And.intro k5 (And.intro k6 (And.intro k7 k8)))))))
  have HM := Lib.hid (And.intro hall (And.intro hids hmL))
  have HPQ := Lib.hid (And.intro hP hQ)
  clear hund hlast hids hL hcl k1 k2 k3 k5 k6 k7 k8 hA hM hmL hall HCS hP hQ
  go_enter Try.func7, Try.ntmps7
  go_wp2_with fail
  refine AL.out.mono ?_
  rintro e w1 ⟨rfl, b1⟩
  have PB1 := Lib.hid ((pair_new w (.int .u32 (t : Int)) (.int .u8 (r : Int)) 32).keeps b1)
  have B1 := Lib.hid (bt BX.out b1)
  clear b1
  go_wp2_with fail
  refine (M2.out _ _ (H2.out.keeps B1.out)).mono ?_
  rintro e w2 ⟨rfl, b2⟩
  have PB2 := Lib.hid (PB1.out.keeps b2)
  have B2 := Lib.hid (bt B1.out b2)
  clear b2
  obtain ⟨_, x0, x1⟩ := PB2.out
  go_wp2_with fail
  refine (U0.out _ _ (H0.out.keeps B2.out)).mono ?_
  rintro e w3 ⟨aoC, capC, rfl, oc, b3⟩
  have PB3 := Lib.hid (PB2.out.keeps b3)
  have B3 := Lib.hid (bt B2.out b3)
  have RC3 := Lib.hid (Runs.own oc)
  have RP3 := Lib.hid (H0.out.keeps B3.out)
  have RQ3 := Lib.hid (H2.out.keeps B3.out)
  clear b3 oc x0 x1
  obtain ⟨N, hN⟩ : ∃ N, N = L.length := ⟨_, rfl⟩
  rw [← hN] at RC3 ⊢
  clear hN
  have K1 : Hid (∀ W : World, Below w3.heap.size w3 W → Calls Try.prog 13 #[.slice ao0 n0 cap0, .slice aoC N capC] W fun e w' => e = .returned (.int .i64 (-1)) ∧ Below W.heap.size W w') := fun W hW => cmp_lit HK.out.1 _ _ _ (RP3.out.keeps hW) (RC3.out.keeps hW)
  have K2 : Hid (∀ W : World, Below w3.heap.size w3 W → Calls Try.prog 16 #[.slice ao0 n0 cap0, .slice aoC N capC] W fun e w' => e = .returned (.bool true) ∧ Below W.heap.size W w') := fun W hW => beg_lit HK.out.2.1 _ _ _ (RP3.out.keeps hW) (RC3.out.keeps hW)
  have K3 : Hid (∀ W : World, Below w3.heap.size w3 W → Calls Try.prog 16 #[.slice aoC N capC, .slice ao0 n0 cap0] W fun e w' => e = .returned (.bool false) ∧ Below W.heap.size W w') := fun W hW => beg_lit HK.out.2.2.1 _ _ _ (RC3.out.keeps hW) (RP3.out.keeps hW)
  have K4 : Hid (∀ W : World, Below w3.heap.size w3 W → Calls Try.prog 17 #[.slice aoC N capC] W fun e w' => e = .returned (.agg #[.int .u32 (t : Int), .int .u8 (r : Int)]) ∧ Below W.heap.size W w') := fun W hW => by
    have := pLast_any (RC3.out.keeps hW)
    rwa [HK.out.2.2.2.1] at this
  have K5 : Hid (∀ W : World, Below w3.heap.size w3 W → Calls Try.prog 14 #[.slice aoC N capC] W fun e w' => e = .returned (.int .i64 0) ∧ Below W.heap.size W w') := fun W hW => check_is (RC3.out.keeps hW) HK.out.2.2.2.2.1
  obtain ⟨x, hx⟩ : ∃ x, x = hold P Q := ⟨_, rfl⟩
  obtain ⟨bl, hbl⟩ : ∃ bl, bl = first P Q := ⟨_, rfl⟩
  obtain ⟨x2, hx2⟩ : ∃ x2, x2 = hold (P ++ [⟨t, r, ht, hr⟩]) Q := ⟨_, rfl⟩
  have K6 : Hid (∀ W : World, Below w3.heap.size w3 W → Calls Try.prog 13 #[.slice ao0 n0 cap0, .slice ao2 n2 cap2] W fun e w' => e = .returned (.int .i64 x) ∧ Below W.heap.size W w') := fun W hW => cmp_lit (by rw [hx]; exact HK.out.2.2.2.2.2.1) _ _ _ (RP3.out.keeps hW) (RQ3.out.keeps hW)
  have K7 : Hid (∀ W : World, Below w3.heap.size w3 W → Calls Try.prog 16 #[.slice ao0 n0 cap0, .slice ao2 n2 cap2] W fun e w' => e = .returned (.bool bl) ∧ Below W.heap.size W w') := fun W hW => beg_lit (by rw [hbl]; exact HK.out.2.2.2.2.2.2.1) _ _ _ (RP3.out.keeps hW) (RQ3.out.keeps hW)
  have K8 : Hid (∀ W : World, Below w3.heap.size w3 W → Calls Try.prog 13 #[.slice aoC N capC, .slice ao2 n2 cap2] W fun e w' => e = .returned (.int .i64 x2) ∧ Below W.heap.size W w') := fun W hW => cmp_lit (by rw [hx2]; exact HK.out.2.2.2.2.2.2.2) _ _ _ (RC3.out.keeps hW) (RQ3.out.keeps hW)
  have HX := Lib.hid (And.intro hx (And.intro hbl hx2))
  clear hx hbl hx2
  go_wp2_with fail
  go_region_held3 (fun w' => Below w3.heap.size w3 w' ∧ w'.cell? ⟨w.heap.size, 0, none⟩ = some (.int .u32 (t : Int)) ∧ w'.cell? ⟨w.heap.size, 1, none⟩ = some (.int .u8 (r : Int)))
    (first | exact keepP1 PB3.out (drew1 _) (Below.refl _ _) | (go_split_ands; exact keepP1 PB3.out (drew1 _) (by assumption)) | (go_split_ands; exact keepP1 PB3.out (by assumption) (by assumption)))
    ((first | (go_at_call 13; go_split_ands; (with_reducible refine (K1.out _ ?hb).mono ?_); (case hb => first | assumption | exact Below.drew (by assumption)); rintro e y1 ⟨rfl, b1⟩) | (go_at_call 16; go_split_ands; (with_reducible refine (K2.out _ ?hb).mono ?_); (case hb => first | assumption | exact Below.drew (by assumption)); rintro e y2 ⟨rfl, b2⟩) | (go_at_call 16; go_split_ands; (with_reducible refine (K3.out _ ?hb).mono ?_); (case hb => first | assumption | exact Below.drew (by assumption)); rintro e y3 ⟨rfl, b3⟩) | (go_at_call 17; go_split_ands; (with_reducible refine (K4.out _ ?hb).mono ?_); (case hb => first | assumption | exact Below.drew (by assumption)); rintro e y4 ⟨rfl, b4⟩) | (go_at_call 14; go_split_ands; (with_reducible refine (K5.out _ ?hb).mono ?_); (case hb => first | assumption | exact Below.drew (by assumption)); rintro e y5 ⟨rfl, b5⟩)))
  go_split_ands
  have hS : Below w3.heap.size w3 y5 := by assumption
  have PB5 := Lib.hid (PB3.out.keeps hS)
  have BS := Lib.hid hS
  clear hS b5
  go_wp2_with fail
  refine (K6.out _ BS.out).mono ?_
  rintro e w6 ⟨rfl, b6⟩
  have PB6 := Lib.hid (PB5.out.keeps b6)
  have B6 := Lib.hid (bt BS.out b6)
  clear b6
  have hxr : x = -1 ∨ x = 0 ∨ x = 1 := by rw [HX.out.1]; exact hold_range P Q
  rcases hxr with rfl | rfl | rfl
  · go_wp2_with fail
    refine (K7.out _ B6.out).mono ?_
    rintro e w7 ⟨rfl, b7⟩
    have PB7 := Lib.hid (PB6.out.keeps b7)
    have B7 := Lib.hid (bt B6.out b7)
    clear b7
    cases bl
    · have hx2 : x2 = -1 := by rw [HX.out.2.2]; exact hold_stays HX.out.1.symm HX.out.2.1.symm
      subst hx2
      go_wp2_with fail
      refine (K8.out _ B7.out).mono ?_
      rintro e w8 ⟨rfl, b8⟩
      have B8 := Lib.hid (bt B7.out b8)
      clear b8
      go_wp2_with fail
      refine (K6.out _ B8.out).mono ?_
      rintro e w9 ⟨rfl, b9⟩
      have B9 := Lib.hid (bt B3.out (bt B8.out b9))
      clear b9
      go_wp2
      go_ret
      exact ⟨rfl, B9.out⟩
    · obtain ⟨n, hn⟩ := (first_iff P Q).1 HX.out.2.1.symm
      cases n with
      | nil =>
        exfalso
        have h := HX.out.1
        rw [hn, List.append_nil, (hold_eq P P).2 rfl] at h
        omega
      | cons b n =>
        have hm2 : mayB l2 = true := by
          rcases (anyB_iff l2).1 Q2.out with h | h
          · have h2 := HPQ.out.2
            rw [h, hn] at h2
            simp [all] at h2
          · exact (mayB_iff l2).2 h
        have hi2 := idsOf_may hm2
        rw [← HPQ.out.2] at hi2
        have hiL := HM.out.2.1
        rw [HM.out.1] at hiL
        have IQ := Lib.hid (fun (W : World) (v : Value) (h : Runs W v l2) => pIds_any h)
        have IC := Lib.hid (fun (W : World) (v : Value) (h : Runs W v L) => pIds_any h)
        rw [hi2.1, hi2.2] at IQ
        rw [hiL.1, hiL.2] at IC
        obtain ⟨k, hk⟩ : ∃ k, k = P.length := ⟨_, rfl⟩
        obtain ⟨NQ, hNQ⟩ : ∃ NQ, NQ = Q.length := ⟨_, rfl⟩
        obtain ⟨NC, hNC⟩ : ∃ NC, NC = (P ++ [(⟨t, r, ht, hr⟩ : Id)]).length := ⟨_, rfl⟩
        rw [← hNQ] at IQ
        rw [← hNC] at IC
        have hNC2 : NC = k + 1 := by rw [hNC, hk]; simp
        have hNQ2 : k + 1 ≤ NQ := by rw [hNQ, hk, hn]; simp
        have hget : Q.getD k zid = b := by rw [hn, hk]; simp [List.getD]
        have HG := Lib.hid (And.intro hget hNQ)
        have hchild := hold_child P ⟨t, r, ht, hr⟩ b n
        rw [← hn, ← HX.out.2.2] at hchild
        obtain ⟨y, hy⟩ : ∃ y, less t r b.t b.r = y := ⟨_, rfl⟩
        simp only at hchild
        rw [hy] at hchild
        have LS := Lib.hid (less_any t r b.t b.r ht hr b.ht b.hr)
        rw [hy] at LS
        have hx2 : (x2 == 1) = y := by
          cases y
          · simp only [Bool.false_eq_true, iff_false] at hchild
            simpa using hchild
          · simp only [iff_true] at hchild
            simp [hchild]
        have s1 : decide ((NC : Int) < 1) = false := decide_eq_false (by omega)
        have s2 : decide (NC < 1) = false := decide_eq_false (by omega)
        have s3 : decide ((NQ : Int) < (NC : Int)) = false := decide_eq_false (by omega)
        have s4 : decide (NQ < NC) = false := decide_eq_false (by omega)
        have s5 : ¬ NC = 0 := by omega
        have i1 : (NC : Int) - 1 = (k : Int) := by omega
        have i2 : IntKind.i64.wrap (k : Int) = (k : Int) := IntWalk.i64_in _ (by have := Sees.max (Sees.keeps RC3.out (Below.refl _ _)); have h4 := HM.out.2.2; have h5 := (mayB_iff L).1 h4; have h6 := long_len h5.2.2.1; rw [HM.out.1] at h6; rw [← hNC] at h6; have h7 := h5.2.2.2; omega)
        have i3 : (0 : Int) ≤ (k : Int) := by omega
        have i4 : (k : Int) < (NQ : Int) := by omega
        have i5 : NC ≤ 4096 := by have h4 := HM.out.2.2; have h5 := (mayB_iff L).1 h4; have h6 := long_len h5.2.2.1; rw [HM.out.1] at h6; rw [← hNC] at h6; have h7 := h5.2.2.2; omega
        obtain ⟨bt', br, hbt, hbr⟩ := b
        simp only at LS hget
        clear hn hm2 hi2 hiL hk hNQ hNC hget hchild hy HX
        go_wp2_with fail
        refine (IQ.out _ _ (RQ3.out.keeps B7.out)).mono ?_
        rintro e w8 ⟨aoI, capI, rfl, iq, b8⟩
        have IQ8 := Lib.hid iq
        have PB8 := Lib.hid (PB7.out.keeps b8)
        have B8 := Lib.hid (bt B7.out b8)
        clear iq b8
        go_wp2_with fail
        refine (IC.out _ _ (RC3.out.keeps B8.out)).mono ?_
        rintro e w9 ⟨aoJ, capJ, rfl, ij, b9⟩
        obtain ⟨bb, off, hao, hb, hz0, hz1⟩ := (IQ8.out.keeps b9).at k (by rw [← HG.out.2]; omega)
        rw [HG.out.1] at hz0 hz1
        simp only at hz0 hz1
        subst hao
        have PB9 := Lib.hid (PB8.out.keeps b9)
        have B9 := Lib.hid (bt B8.out b9)
        have XB := Lib.hid (And.intro hb (And.intro hz0 hz1))
        clear ij b9 hb hz0 hz1
        go_wp2
        go_region_held3 (fun w' => Below w9.heap.size w9 w' ∧ w'.cell? ⟨bb, off + k * 2, none⟩ = some (.int .u32 (bt' : Int)) ∧ w'.cell? ⟨bb, off + k * 2 + 1, none⟩ = some (.int .u8 (br : Int)) ∧ w'.cell? ⟨w.heap.size, 0, none⟩ = some (.int .u32 (t : Int)) ∧ w'.cell? ⟨w.heap.size, 1, none⟩ = some (.int .u8 (r : Int)))
          (first | exact keepB2 XB.out PB9.out (drew1 _) (Below.refl _ _) | (go_split_ands; exact keepB2 XB.out PB9.out (drew1 _) (by assumption)) | (go_split_ands; exact keepB2 XB.out PB9.out (by assumption) (by assumption)))
          ((first | (go_at_call 30; (with_reducible refine (LS.out _).mono ?_); rintro e y6 ⟨rfl, b10⟩)))
        go_split_ands
        have hS9 : Below w9.heap.size w9 y6 := by assumption
        have B10 := Lib.hid (bt B9.out hS9)
        clear hS9 b10
        go_wp2_with fail
        refine (K8.out _ B10.out).mono ?_
        rintro e w11 ⟨rfl, b11⟩
        have B11 := Lib.hid (bt B3.out (bt B10.out b11))
        clear b11
        go_wp2
        go_ret
        exact ⟨by first | rfl | simp, B11.out⟩
  · have B7 := Lib.hid (bt B3.out B6.out)
    go_wp2
    go_ret
    exact ⟨rfl, B7.out⟩
  · have B7 := Lib.hid (bt B3.out B6.out)
    go_wp2
    go_ret
    exact ⟨rfl, B7.out⟩
end Go.Proofs.Ytfhmleigceakjaa.Place
