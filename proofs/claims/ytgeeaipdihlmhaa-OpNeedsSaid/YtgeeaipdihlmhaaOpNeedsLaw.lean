/- OpNeeds answers true, and changes nothing that was there. Conditions: none. -/
import Derived.Test.YtgeeaipdihlmhaaOpLaws
import Derived.Test.YtgeeaipdihlmhaaPlaceMath4
import Derived.Test.YtgeeaipdihlmhaaPlaceLaws
namespace Go.Proofs.Ytgeeaipdihlmhaa.Ops
open Go.RowKit Stamp Go.Proofs.Ytgeeaipdihlmhaa.Place
attribute [local go_sem ↓] Go.wp_at_zero Go.wp_at_succ
attribute [local go_sem] yielded_undef

theorem five_call {wl w1 w2 : World} {g : Nat} {c0 c1 c2 c3 c4 : Value} (p : Five wl g c0 c1 c2 c3 c4) (b : Below w1.heap.size w1 w2) (hb : Below wl.heap.size wl w1) :
    Below wl.heap.size wl w2 ∧ w2.cell? ⟨g, 0, none⟩ = some c0 ∧ w2.cell? ⟨g, 1, none⟩ = some c1 ∧ w2.cell? ⟨g, 2, none⟩ = some c2 ∧ w2.cell? ⟨g, 3, none⟩ = some c3 ∧ w2.cell? ⟨g, 4, none⟩ = some c4 :=
  ⟨bt hb b, (p.keeps (bt hb b)).2⟩
theorem rises_lt : ∀ {l : List Id} {i j : Nat}, Rises l → i < j → j < l.length → (l.getD i zid).t < (l.getD j zid).t := by
  intro l i j h hij hj
  induction j with
  | zero => omega
  | succ j ih =>
    have h1 := rises_get (k := j) h hj
    rcases Nat.lt_or_ge i j with h2 | h2
    · have := ih h2 (by omega); omega
    · obtain rfl : i = j := by omega
      exact h1
/-- The last stamp of a place, by its list. -/
theorem lastV_all {l : List Run} (h : mayB l = true) : lastV l = ((((all l).getD ((all l).length - 1) zid).t : Int), (((all l).getD ((all l).length - 1) zid).r : Int)) := by
  have hp := all_pos h
  refine lastV_of (P := (all l).take ((all l).length - 1)) h ?_
  have := List.take_append_drop ((all l).length - 1) (all l)
  rw [List.drop_eq_getElem_cons (by omega), List.drop_eq_nil_iff.2 (by omega)] at this
  rw [List.getD, List.getElem?_eq_getElem (by omega)]
  exact this.symm
theorem stands_len (o : Opn) : (standsL o).length = (all o.pl).length - offs o := by
  unfold standsL
  rw [List.length_take]
  omega
theorem stands_get {o : Opn} {i : Nat} (hi : i < (standsL o).length) : (standsL o).getD i zid = (all o.pl).getD i zid := by
  rw [stands_len o] at hi
  unfold standsL
  rw [List.getD, List.getD, List.getElem?_take, if_pos hi]
/-- What an operation stands on is older. -/
theorem stands_older {o : Opn} (h : mayO o = true) {i : Nat} (hi : i < (standsL o).length) : ((standsL o).getD i zid).t < o.t := by
  have hp := mayO_parts h
  have hM := (mayB_iff o.pl).1 hp.2.1
  have hpos := all_pos hp.2.1
  have hr := chain_rises hM.2.2.1
  have hl := lastV_all hp.2.1
  rw [stands_get hi]
  rw [stands_len o] at hi
  have hk := hp.2.2
  unfold kindB kindF at hk
  unfold offs ownB at hi
  rw [hl] at hk
  have own : (((((all o.pl).getD ((all o.pl).length - 1) zid).t : Int), (((all o.pl).getD ((all o.pl).length - 1) zid).r : Int)) = ((o.t : Int), (o.r : Int))) → (decide (o.k = 1) || decide (o.k = 2)) = true → ((all o.pl).getD i zid).t < o.t := by
    intro e h2
    rw [if_pos h2] at hi
    have h3 := (Prod.mk.inj e).1
    have := rises_lt hr (i := i) (j := (all o.pl).length - 1) (by omega) (by omega)
    omega
  by_cases k1 : o.k = 1
  · rw [if_pos k1, Bool.and_eq_true, decide_eq_true_iff] at hk
    exact own hk.1 (by rw [decide_eq_true k1]; rfl)
  · rw [if_neg k1] at hk
    by_cases k2 : o.k = 2
    · rw [if_pos k2, Bool.and_eq_true, decide_eq_true_iff] at hk
      exact own hk.1 (by rw [decide_eq_true k2]; simp)
    · rw [if_neg k2] at hk
      by_cases k3 : o.k = 3 ∨ o.k = 4
      · rw [if_pos k3, Bool.and_eq_true, decide_eq_true_iff] at hk
        have h3 := hk.1
        simp only at h3
        rcases Nat.lt_or_ge i ((all o.pl).length - 1) with h4 | h4
        · have := rises_lt hr (i := i) (j := (all o.pl).length - 1) h4 (by omega)
          omega
        · have h5 : i = (all o.pl).length - 1 := by omega
          rw [h5]
          omega
      · rw [if_neg k3] at hk
        cases hk
/-- The mark that ends with the last one of it. -/
theorem mark_needs {q : List Run} {S : List Id} {n : Nat} {a : Id} (hm : mayB q = true) (hall : all q = S) (hn : S.length = n + 1) (ha : S.getD n zid = a) :
    mayO ⟨2, a.t, a.r, q, 0, by decide, a.ht, a.hr, by decide⟩ = true ∧ needsL ⟨2, a.t, a.r, q, 0, by decide, a.ht, a.hr, by decide⟩ = S.take n := by
  have hM := (mayB_iff q).1 hm
  have hl := lastV_all hm
  rw [hall, hn, Nat.add_sub_cancel, ha] at hl
  have hmem : a ∈ all q := by
    rw [hall, ← ha, List.getD, List.getElem?_eq_getElem (by omega)]
    exact List.getElem_mem _
  have h1 := chain_may hM.2.2.1 a hmem
  have hmay : mayO ⟨2, a.t, a.r, q, 0, by decide, a.ht, a.hr, by decide⟩ = true := by
    unfold mayO kindB kindF
    simp only [h1, hm, Bool.true_and]
    rw [if_neg (by decide), if_pos trivial, hl]
    simp
  refine ⟨hmay, ?_⟩
  unfold needsL
  rw [if_pos hmay]
  unfold standsL offs ownB
  simp only [hall, hn]
  rfl

set_option maxRecDepth 100000 in
set_option maxHeartbeats 16000000 in
theorem needs_walk {v : Value} {o : Opn} {w : World} (hv : Runs w v o.pl) : Calls Try.prog 5 #[opv o v] w fun e w' => e = .returned (.bool true) ∧ Below w.heap.size w w' := by
  have HV := Lib.hid hv
  have ON : Hid (∀ W : World, Below w.heap.size w W → Calls Try.prog 14 #[opv o v] W (Told (needsL o) (chkO o) W)) := fun W h => oNeeds_any (hv.keeps h)
  have OC : Hid (∀ W : World, Below w.heap.size w W → Calls Try.prog 18 #[opv o v] W fun e w' => e = .returned (.int .i64 (chkO o)) ∧ Below W.heap.size W w') := fun W h => oCheck_any (hv.keeps h)
  cases hm : mayO o
  · have h1 : chkO o = 8 := by unfold chkO; rw [hm]; rfl
    have h2 : needsL o = [] := by unfold needsL; rw [hm]; rfl
    rw [h1] at OC
    rw [h1, h2] at ON
    clear h1 h2 hm hv
    obtain ⟨k, t, r, l, p, _, _, _, _⟩ := o
    unfold opv at ON OC ⊢
    simp only at ON OC HV ⊢
    have B0 : Hid (Below w.heap.size w (w.alloc (.cells #[.int .u8 (k : Int), .int .u32 (t : Int), .int .u8 (r : Int), v, .int .i64 p] 30))) := (Below.refl _ _).alloc (Nat.le_refl _) _
    have F0 := Lib.hid (five_new w (.int .u8 (k : Int)) (.int .u32 (t : Int)) (.int .u8 (r : Int)) v (.int .i64 p) 30)
    go_enter Try.func5, Try.ntmps5
    go_wp2_with fail
    refine (alive09_any _).mono ?_
    rintro e w1 ⟨rfl, b1⟩
    have F1 := Lib.hid (F0.out.keeps b1)
    have B1 := Lib.hid (bt B0.out b1)
    clear b1
    obtain ⟨-, c0, c1, c2, c3, c4⟩ := F1.out
    go_wp2_with fail
    clear c0 c1 c2 c3 c4
    refine (ON.out _ B1.out).mono ?_
    rintro e w2 ⟨aoL, capL, rfl, i2, b2⟩
    have F2 := Lib.hid (F1.out.keeps b2)
    have B2 := Lib.hid (bt B1.out b2)
    clear b2 i2
    obtain ⟨-, c0, c1, c2, c3, c4⟩ := F2.out
    go_wp2_with fail
    clear c0 c1 c2 c3 c4
    refine (OC.out _ B2.out).mono ?_
    rintro e w3 ⟨rfl, b3⟩
    have B3 := Lib.hid (bt B2.out b3)
    clear b3
    go_wp2
    go_ret
    exact ⟨rfl, B3.out⟩
  have h1 : chkO o = 0 := by unfold chkO; rw [if_pos hm]
  have h2 : needsL o = standsL o := by unfold needsL; rw [if_pos hm]
  have hmp := mayO_parts hm
  have hold : ∀ i, i < (standsL o).length → ((standsL o).getD i zid).t < o.t := fun i hi => stands_older hm hi
  have hget : ∀ i, i < (standsL o).length → (standsL o).getD i zid = (all o.pl).getD i zid := fun i hi => stands_get hi
  have hsl : (standsL o).length ≤ (all o.pl).length := by rw [stands_len o]; omega
  have hst : standsL o = (all o.pl).take (standsL o).length := by rw [stands_len o]; rfl
  have hrise : ∀ i, i + 1 < (standsL o).length → ((standsL o).getD i zid).t < ((standsL o).getD (i + 1) zid).t := fun i hi => by
    rw [hget i (by omega), hget (i + 1) hi]
    exact rises_get (chain_rises ((mayB_iff o.pl).1 hmp.2.1).2.2.1) (by omega)
  rw [h1, h2] at ON
  obtain ⟨S, hS⟩ : ∃ S, S = standsL o := ⟨_, rfl⟩
  rw [← hS] at ON hold hget hsl hst hrise
  obtain ⟨n, hn⟩ : ∃ n, n = S.length := ⟨_, rfl⟩
  rw [← hn] at hold hget hsl hst hrise
  have HM := Lib.hid hmp.2.1
  have HOLD := Lib.hid hold
  have HGET := Lib.hid hget
  have HSL := Lib.hid hsl
  have HST := Lib.hid hst
  have HRISE := Lib.hid hrise
  have HNN := Lib.hid hn
  have hn46 : n ≤ 4096 := by have := (all_pos hmp.2.1).2.1; omega
  clear h1 h2 hm hv hmp hold hget hsl hst hrise hS hn OC
  obtain ⟨k, t, r, l, p, _, _, _, _⟩ := o
  unfold opv at ON ⊢
  simp only at ON HV HM HOLD HGET HSL HST ⊢
  have B0 : Hid (Below w.heap.size w (w.alloc (.cells #[.int .u8 (k : Int), .int .u32 (t : Int), .int .u8 (r : Int), v, .int .i64 p] 30))) := (Below.refl _ _).alloc (Nat.le_refl _) _
  have F0 := Lib.hid (five_new w (.int .u8 (k : Int)) (.int .u32 (t : Int)) (.int .u8 (r : Int)) v (.int .i64 p) 30)
  by_cases h300 : 300 < n
  · have t1 : decide ((300 : Int) < (n : Int)) = true := decide_eq_true (by omega)
    have t2 : decide (300 < n) = true := decide_eq_true h300
    go_enter Try.func5, Try.ntmps5
    go_wp2_with fail
    refine (alive09_any _).mono ?_
    rintro e w1 ⟨rfl, b1⟩
    have F1 := Lib.hid (F0.out.keeps b1)
    have B1 := Lib.hid (bt B0.out b1)
    clear b1
    obtain ⟨-, c0, c1, c2, c3, c4⟩ := F1.out
    go_wp2_with fail
    clear c0 c1 c2 c3 c4
    refine (ON.out _ B1.out).mono ?_
    rintro e w2 ⟨aoL, capL, rfl, i2, b2⟩
    rw [← HNN.out]
    have B2 := Lib.hid (bt B1.out b2)
    clear b2 i2
    go_wp2
    go_ret
    exact ⟨rfl, B2.out⟩
  have t1 : decide ((300 : Int) < (n : Int)) = false := decide_eq_false (by omega)
  have t2 : decide (300 < n) = false := decide_eq_false h300
  go_enter Try.func5, Try.ntmps5
  go_wp2_with fail
  refine (alive09_any _).mono ?_
  rintro e w1 ⟨rfl, b1⟩
  have F1 := Lib.hid (F0.out.keeps b1)
  have B1 := Lib.hid (bt B0.out b1)
  clear b1
  obtain ⟨-, c0, c1, c2, c3, c4⟩ := F1.out
  go_wp2_with fail
  clear c0 c1 c2 c3 c4
  refine (ON.out _ B1.out).mono ?_
  rintro e w2 ⟨aoL, capL, rfl, i2, b2⟩
  rw [← HNN.out] at i2 ⊢
  have IL := Lib.hid i2
  have F2 := Lib.hid (F1.out.keeps b2)
  have B2 := Lib.hid (bt B1.out b2)
  have hcap := i2.cap.2.1
  rw [← HNN.out] at hcap
  clear b2 i2
  go_wp2
  go_loopw [6, 7] (fun pv i wr => ∃ (k : Nat) (q : List Run), k ≤ n ∧ i = .int .i64 (k : Int) ∧ Hid (anyB q = true ∧ all q = (all l).take k) ∧ Hid (Runs wr pv q) ∧ Hid (Below w2.heap.size w2 wr)) (fun _ i _ => n - (intOf i).toNat)
  case atStart => exact ⟨0, [], by omega, rfl, Lib.hid ⟨rfl, rfl⟩, Lib.hid (Runs.nil _), Lib.hid (Below.refl _ _)⟩
  case round =>
    obtain ⟨k, q, hk, rfl, hq, hrq, hbel⟩ := hrel
    obtain ⟨wo, rfl⟩ : ∃ wo : World, wo = wr := ⟨_, rfl⟩
    obtain ⟨aoP, capP, rfl⟩ := hrq.out.shape
    by_cases hkn : k < n
    · have q1 : decide (k < n) = true := by simpa using hkn
      have q2 : (0 : Int) ≤ (k : Int) := by omega
      have q3 : (k : Int) < (n : Int) := by omega
      obtain ⟨q', hund, hany, hall⟩ := step_ok HM.out hq.out.1 (by have := HSL.out; omega) hq.out.2
      rw [← HGET.out k hkn] at hund
      obtain ⟨b, off, rfl, hb, hx0, hx1⟩ := IL.out.at k (by rw [← HNN.out]; exact hkn)
      obtain ⟨a, ha⟩ : ∃ a, a = S.getD k zid := ⟨_, rfl⟩
      rw [← ha] at hund hx0 hx1
      have holda := HOLD.out k hkn
      rw [← ha] at holda
      have U : Hid (Calls Try.prog 23 #[.slice aoP q.length capP, .agg #[.int .u32 (a.t : Int), .int .u8 (a.r : Int)]] wo (Undone q' 0 wo)) := by
        have := pUnder_any (a := a) hrq.out
        rwa [hund] at this
      have HQ' := Lib.hid (And.intro hany hall)
      have XA : Hid (∀ W : World, Below w2.heap.size w2 W → W.cell? ⟨b, off + k * 2, none⟩ = some (.int .u32 (a.t : Int)) ∧ W.cell? ⟨b, off + k * 2 + 1, none⟩ = some (.int .u8 (a.r : Int))) := fun W h => ⟨(h.cell (p := ⟨b, off + k * 2, none⟩) hb).trans hx0, (h.cell (p := ⟨b, off + k * 2 + 1, none⟩) hb).trans hx1⟩
      have hpre : k = 0 ∨ ∃ (j : Nat) (c : Id), k = j + 1 ∧ c.t < a.t ∧ (∀ W : World, Below w2.heap.size w2 W → W.cell? ⟨b, off + j * 2, none⟩ = some (.int .u32 (c.t : Int))) := by
        rcases Nat.eq_zero_or_pos k with h | h
        · exact .inl h
        · obtain ⟨j, rfl⟩ : ∃ j, k = j + 1 := ⟨k - 1, by omega⟩
          have hj := HRISE.out j hkn
          rw [← ha] at hj
          obtain ⟨b', off', he, hb', hy0, hy1⟩ := IL.out.at j (by rw [← HNN.out]; omega)
          cases he
          exact .inr ⟨j, S.getD j zid, rfl, hj, fun W h => (h.cell (p := ⟨b, off + j * 2, none⟩) hb').trans hy0⟩
      obtain ⟨at', ar, _, _⟩ := a
      simp only at U XA holda hpre
      have s1 : decide ((t : Int) ≤ (at' : Int)) = false := decide_eq_false (by omega)
      have s2 : decide (t ≤ at') = false := decide_eq_false (by omega)
      clear ha hund hany hall hx0 hx1 hb
      obtain ⟨x0, x1⟩ := XA.out wo hbel.out
      rcases hpre with h0 | ⟨j, c, hj, hc, YA⟩
      · have s3 : decide ((0 : Int) < (k : Int)) = false := decide_eq_false (by omega)
        have s4 : decide (0 < k) = false := decide_eq_false (by omega)
        have H0 := Lib.hid h0
        clear h0
        go_wp2_with fail
        refine U.out.mono ?_
        rintro e w3 ⟨ao3, cap3, rfl, o3, b3⟩
        have R3 : Hid (Runs w3 (.slice ao3 q'.length cap3) q') := Go.Proofs.Ytgeeaipdihlmhaa.Runs.own o3
        have B3 := Lib.hid (bt hbel.out b3)
        clear o3 b3 x0 x1
        obtain ⟨x0, x1⟩ := XA.out w3 B3.out
        obtain ⟨-, c0, c1, c2, c3, c4⟩ := F2.out.keeps B3.out
        go_wp2
        go_quiet (fail)
        go_wp2
        go_roundw
        case rel => exact ⟨k + 1, q', by omega, by go_num, HQ', R3.out.keeps (below_draw (Below.refl _ _) _), below_draw B3.out _⟩
        case measure => simp [intOf]; omega
      · have s3 : decide ((0 : Int) < (k : Int)) = true := decide_eq_true (by omega)
        have s4 : decide (0 < k) = true := decide_eq_true (by omega)
        have e1 : (k : Int) - 1 = (j : Int) := by omega
        have e2 : IntKind.i64.wrap (j : Int) = (j : Int) := IntWalk.i64_in _ (by omega)
        have j2 : (0 : Int) ≤ (j : Int) := by omega
        have j3 : (j : Int) < (n : Int) := by omega
        obtain ⟨ct, cr, _, _⟩ := c
        simp only at hc YA
        have s5 : decide ((at' : Int) ≤ (ct : Int)) = false := decide_eq_false (by omega)
        have s6 : decide (at' ≤ ct) = false := decide_eq_false (by omega)
        have HJ := Lib.hid hj
        have HYA := Lib.hid YA
        clear hj hc YA
        go_wp2_with fail
        refine U.out.mono ?_
        rintro e w3 ⟨ao3, cap3, rfl, o3, b3⟩
        have R3 : Hid (Runs w3 (.slice ao3 q'.length cap3) q') := Go.Proofs.Ytgeeaipdihlmhaa.Runs.own o3
        have B3 := Lib.hid (bt hbel.out b3)
        clear o3 b3 x0 x1
        obtain ⟨x0, x1⟩ := XA.out w3 B3.out
        have y0 := HYA.out w3 B3.out
        obtain ⟨-, c0, c1, c2, c3, c4⟩ := F2.out.keeps B3.out
        go_wp2
        go_quiet (fail)
        go_wp2
        go_roundw
        case rel => exact ⟨k + 1, q', by omega, by go_num, HQ', R3.out.keeps (below_draw (Below.refl _ _) _), below_draw B3.out _⟩
        case measure => simp [intOf]; omega
    · obtain rfl : k = n := by omega
      have q1 : decide (k < k) = false := decide_eq_false (by omega)
      have HB : Hid (∀ W : World, Below wo.heap.size wo W → Calls Try.prog 24 #[.slice aoP q.length capP, v] W fun e w' => e = .returned (.bool true) ∧ Below W.heap.size W w') := fun W h => by
        have hb : beg q l = true := by
          unfold beg
          rw [hq.out.1, anyB_may HM.out, hq.out.2]
          simp only [Bool.true_and]
          exact (first_iff _ _).2 ⟨(all l).drop k, (List.take_append_drop _ _).symm⟩
        have := pBegins_any (hrq.out.keeps h) (HV.out.keeps (bt B2.out (bt hbel.out h)))
        rwa [hb] at this
      have FW := Lib.hid (F2.out.keeps hbel.out)
      obtain ⟨-, c0, c1, c2, c3, c4⟩ := FW.out
      go_wp2_with fail
      clear c0 c1 c2 c3 c4
      refine (HB.out _ (Below.refl _ _)).mono ?_
      rintro e w3 ⟨rfl, b3⟩
      have B3 := Lib.hid (bt hbel.out b3)
      have R3 := Lib.hid (hrq.out.keeps b3)
      clear b3
      by_cases hk0 : k = 0
      · subst hk0
        go_wp2
        go_ret
        exact ⟨rfl, bt B2.out B3.out⟩
      · obtain ⟨j, hj⟩ : ∃ j, k = j + 1 := ⟨k - 1, by omega⟩
        have s0 : ((k : Int) == 0) = false := by simp; omega
        have e1 : (k : Int) - 1 = (j : Int) := by omega
        have e2 : IntKind.i64.wrap (j : Int) = (j : Int) := IntWalk.i64_in _ (by omega)
        have j2 : (0 : Int) ≤ (j : Int) := by omega
        have j3 : (j : Int) < (k : Int) := by omega
        have j4 : j ≤ capL := by omega
        obtain ⟨b, off, rfl, hb, hx0, hx1⟩ := IL.out.at j (by rw [← HNN.out]; omega)
        obtain ⟨a, ha⟩ : ∃ a, a = S.getD j zid := ⟨_, rfl⟩
        rw [← ha] at hx0 hx1
        have hmq : mayB q = true := by
          have h := hq.out.1
          unfold anyB at h
          rw [Bool.or_eq_true] at h
          rcases h with h | h
          · exfalso
            have h3 : q = [] := List.length_eq_zero_iff.1 (of_decide_eq_true h)
            have h4 := congrArg List.length hq.out.2
            rw [h3, List.length_take] at h4
            have := HSL.out
            simp [all] at h4
            omega
          · exact h
        have hmk := mark_needs (n := j) hmq (hq.out.2.trans HST.out.symm) (by rw [← HNN.out]; exact hj) ha.symm
        have N : Hid (∀ W : World, Below w3.heap.size w3 W → Calls Try.prog 9 #[.agg #[.int .u8 2, .int .u32 (a.t : Int), .int .u8 (a.r : Int), .slice aoP q.length capP, .int .i64 0], .slice (some ⟨b, off, none⟩) j capL] W fun e w' => e = .returned (.bool true) ∧ Below W.heap.size W w') := fun W h => by
          have hu : Ids W (.slice (some ⟨b, off, none⟩) j capL) (S.take j) := idsTake (IL.out.keeps (bt B3.out h)) (by rw [← HNN.out]; omega)
          exact needs_yes (o := ⟨2, a.t, a.r, q, 0, by decide, a.ht, a.hr, by decide⟩) (R3.out.keeps h) hu hmk.1 hmk.2
        have x0 := (B3.out.cell (p := ⟨b, off + j * 2, none⟩) hb).trans hx0
        have x1 := (B3.out.cell (p := ⟨b, off + j * 2 + 1, none⟩) hb).trans hx1
        obtain ⟨at', ar, _, _⟩ := a
        simp only at N x0 x1
        have FZ := Lib.hid (five_new w3 (.int .u8 2) (.int .u32 (at' : Int)) (.int .u8 (ar : Int)) (.slice aoP q.length capP) (.int .i64 0) 30)
        have BZ := Lib.hid ((Below.refl _ w3).alloc (Nat.le_refl _) (.cells #[.int .u8 2, .int .u32 (at' : Int), .int .u8 (ar : Int), .slice aoP q.length capP, .int .i64 0] 30))
        have HJ := Lib.hid hj
        clear ha hmk hmq hx0 hx1 hb hj hk0
        go_wp2
        obtain ⟨wl, hwl⟩ : ∃ x, x = w3.alloc (.cells #[.int .u8 2, .int .u32 (at' : Int), .int .u8 (ar : Int), .slice aoP q.length capP, .int .i64 0] 30) := ⟨_, rfl⟩
        obtain ⟨h10, hh10⟩ : ∃ h, h = w3.heap.size := ⟨_, rfl⟩
        have NL : Hid (∀ W : World, Below wl.heap.size wl W → Calls Try.prog 9 #[.agg #[.int .u8 2, .int .u32 (at' : Int), .int .u8 (ar : Int), .slice aoP q.length capP, .int .i64 0], .slice (some ⟨b, off, none⟩) j capL] W fun e w' => e = .returned (.bool true) ∧ Below W.heap.size W w') := fun W h => N.out W (bt BZ.out (by rw [← hwl]; exact h))
        rw [← hwl] at FZ BZ ⊢
        rw [← hh10] at FZ ⊢
        clear hwl hh10 x0 x1
        go_region_held3 (fun w' => Below wl.heap.size wl w' ∧ w'.cell? ⟨h10, 0, none⟩ = some (.int .u8 2) ∧ w'.cell? ⟨h10, 1, none⟩ = some (.int .u32 (at' : Int)) ∧ w'.cell? ⟨h10, 2, none⟩ = some (.int .u8 (ar : Int)) ∧ w'.cell? ⟨h10, 3, none⟩ = some (.slice aoP q.length capP) ∧ w'.cell? ⟨h10, 4, none⟩ = some (.int .i64 0))
          (first | exact five_call FZ.out (drew1 _) (Below.refl _ _) | (go_split_ands; exact five_call FZ.out (drew1 _) (by assumption)) | (go_split_ands; exact five_call FZ.out (by assumption) (by assumption)))
          ((go_at_call 9; go_split_ands; (with_reducible refine (NL.out _ (by assumption)).mono ?_); rintro e w9 ⟨rfl, b9⟩))
        go_wp2
        go_ret
        go_split_ands
        exact ⟨rfl, bt B2.out (bt B3.out (bt BZ.out (by assumption)))⟩
end Go.Proofs.Ytgeeaipdihlmhaa.Ops
