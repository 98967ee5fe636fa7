/- octavoref06.Under: what it answers. Conditions: the slice's cells are runs. -/
import Derived.Test.YtfhmleigceakjaaPlaceMath3
import Derived.Test.YtfhmleigceakjaaPlaceFn
import Derived.Deep.DeepCutAuto
namespace Go.Proofs.Ytfhmleigceakjaa.Place
open Go.RowKit Stamp
attribute [local go_sem ↓] Go.wp_at_zero Go.wp_at_succ
attribute [local go_sem] yielded_undef

set_option maxRecDepth 100000 in
set_option maxHeartbeats 4000000 in
theorem refUnder_any {v : Value} {l : List Run} {a : Id} {w : World} (hv : Runs w v l) :
    Calls Try.prog 24 #[v, .agg #[.int .u32 (a.t : Int), .int .u8 (a.r : Int)]] w fun e w' => ∃ ao cap, e = .returned (.tuple #[.slice ao (und l a).1.length cap, .int .i64 (und l a).2]) ∧ Runs w' (.slice ao (und l a).1.length cap) (und l a).1 ∧ Below w.heap.size w w' := by
  obtain ⟨t, r, ht, hr⟩ := a
  simp only
  obtain ⟨ao, cap, rfl⟩ := hv.shape
  obtain ⟨n, hn⟩ : ∃ n, n = l.length := ⟨_, rfl⟩
  have HN := Lib.hid hn
  have HV : Hid (Runs w (.slice ao n cap) l) := by rw [hn]; exact hv
  rw [← hn]
  have BX := Lib.hid ((Below.refl w.heap.size w).alloc (Nat.le_refl _) (.cells #[.int .u32 (t : Int), .int .u8 (r : Int)] 32))
  obtain ⟨ab, hab⟩ : ∃ ab, anyB l = ab := ⟨_, rfl⟩
  obtain ⟨mb, hmb⟩ : ∃ mb, may t r = mb := ⟨_, rfl⟩
  have A1 : Hid (∀ W : World, Below w.heap.size w W → Calls Try.prog 40 #[.slice ao n cap] W fun e w' => e = .returned (.bool ab) ∧ Below W.heap.size W w') := fun W hW => refAny_is (HV.out.keeps hW) hab
  have M1 : Hid (∀ W : World, Calls Try.prog 44 #[.agg #[.int .u32 (t : Int), .int .u8 (r : Int)]] W fun e w' => e = .returned (.bool mb) ∧ Below W.heap.size W w') := fun W => by
    have := Stamp.refMay_any t r W
    rwa [hmb] at this
  have HAB := Lib.hid hab
  have HMB := Lib.hid hmb
  obtain ⟨L, c, hund⟩ : ∃ L c, und l ⟨t, r, ht, hr⟩ = (L, c) := ⟨_, _, rfl⟩
  rw [hund]
  have HU := Lib.hid hund
  clear hv hn hab hmb hund
  cases ab with
  | false =>
    have hLc : L = [] ∧ c = 8 := by
      have h := HU.out
      unfold und at h
      rw [if_pos (.inl HAB.out)] at h
      exact ⟨(Prod.mk.inj h).1.symm, (Prod.mk.inj h).2.symm⟩
    obtain ⟨rfl, rfl⟩ := hLc
    go_enter Try.func24, Try.ntmps24
    go_wp2_with fail
    refine (A1.out _ BX.out).mono ?_
    rintro e w1 ⟨rfl, b1⟩
    have B1 := Lib.hid (below_of3 b1)
    clear b1
    go_wp2
    go_ret2
    exact ⟨none, 0, rfl, Runs.nil _, B1.out⟩
  | true =>
    cases mb with
    | false =>
      have hLc : L = [] ∧ c = 8 := by
        have h := HU.out
        unfold und at h
        rw [if_pos (.inr HMB.out)] at h
        exact ⟨(Prod.mk.inj h).1.symm, (Prod.mk.inj h).2.symm⟩
      obtain ⟨rfl, rfl⟩ := hLc
      go_enter Try.func24, Try.ntmps24
      go_wp2_with fail
      refine (A1.out _ BX.out).mono ?_
      rintro e w1 ⟨rfl, b1⟩
      obtain ⟨x0, x1, _, _⟩ := two_cells b1
      have B1 := Lib.hid (below_of3 b1)
      clear b1
      go_wp2_with fail
      refine (M1.out _).mono ?_
      rintro e w2 ⟨rfl, b2⟩
      have B2 := Lib.hid (bt B1.out b2)
      clear b2 x0 x1
      go_wp2
      go_ret2
      exact ⟨none, 0, rfl, Runs.nil _, B2.out⟩
    | true =>
      have hAny := (anyB_iff l).1 HAB.out
      have hch := hAny.chain
      have hmay := may_iff.1 HMB.out
      have hlen := hAny.len
      have hU : (if 0 < l.length ∧ (t : Int) ≤ fin (l.getD (l.length - 1) zrun) then ([], 2) else if 64 < (more l ⟨t, r, ht, hr⟩).length ∨ 4096 < long (more l ⟨t, r, ht, hr⟩) then ([], 60) else (more l ⟨t, r, ht, hr⟩, 0)) = (L, c) := by
        have h := HU.out
        unfold und at h
        rw [if_neg (by rw [HAB.out]; simp only [HMB.out]; simp)] at h
        exact h
      have HU2 := Lib.hid hU
      have MO : Hid (∀ W : World, Below w.heap.size w W → Calls Try.prog 46 #[.slice ao n cap, .agg #[.int .u32 (t : Int), .int .u8 (r : Int)]] W fun e w' => ∃ v', e = .returned v' ∧ Runs w' v' (more l ⟨t, r, ht, hr⟩) ∧ Below W.heap.size W w') := fun W hW => more_any (a := ⟨t, r, ht, hr⟩) (HV.out.keeps hW) (by omega) hch hmay.2.1
      have LG : Hid (∀ (W : World) (u : Value), Runs W u (more l ⟨t, r, ht, hr⟩) → Calls Try.prog 47 #[u] W fun e w' => e = .returned (.int .i64 (long (more l ⟨t, r, ht, hr⟩))) ∧ W = w') := fun W u h => long_any h (by have := more_len l ⟨t, r, ht, hr⟩; omega) (more_ones hch)
      have HQ0 : ∃ qb, qb = decide (0 < l.length ∧ (t : Int) ≤ fin (l.getD (l.length - 1) zrun)) := ⟨_, rfl⟩
      obtain ⟨qb, hqb⟩ := HQ0
      have HQ := Lib.hid hqb
      have HL := Lib.hid hlen
      have HCh := Lib.hid hch
      clear hAny hch hmay hlen hU hqb
      go_enter Try.func24, Try.ntmps24
      go_wp2_with fail
      refine (A1.out _ BX.out).mono ?_
      rintro e w1 ⟨rfl, b1⟩
      have PB := Lib.hid ((pair_new w (.int .u32 (t : Int)) (.int .u8 (r : Int)) 32).keeps b1)
      have B1 := Lib.hid (below_of3 b1)
      clear b1
      obtain ⟨_, x0, x1⟩ := PB.out
      go_wp2_with fail
      refine (M1.out _).mono ?_
      rintro e w2 ⟨rfl, b2⟩
      have PB2 := Lib.hid (PB.out.keeps b2)
      have B2 := Lib.hid (bt B1.out b2)
      clear b2 x0 x1 PB B1
      obtain ⟨_, x0, x1⟩ := PB2.out
      go_wp2_with fail
      go_upto_region 3 with fail
      go_cut [25] (fun p wx => p = .bool qb ∧ Below w2.heap.size w2 wx)
      case first =>
        by_cases h0 : n = 0
        · have hf : qb = false := by rw [HQ.out]; exact decide_eq_false (by rw [← HN.out]; omega)
          subst hf
          subst h0
          go_wp2
          go_quiet (fail)
          go_wp2_with fail
          go_meet
          exact ⟨rfl, below_draw (Below.refl _ _) _⟩
        · obtain ⟨k, hk⟩ : ∃ k, l.length = k + 1 := ⟨l.length - 1, by have := HN.out; omega⟩
          obtain ⟨x, hx⟩ : ∃ x, l.getD k zrun = x := ⟨_, rfl⟩
          have hone : One x := by rw [← hx]; exact chain_one HCh.out (by omega)
          obtain ⟨z, hz⟩ : ∃ z, z = (x.t : Int) + (x.m - 1) := ⟨_, rfl⟩
          have F : Hid (∀ W : World, Below w.heap.size w W → Calls Try.prog 45 #[.slice ao n cap] W fun e w' => e = .returned (.agg #[.int .u32 z, .int .u8 (x.r : Int)]) ∧ Below W.heap.size W w') := fun W hW => by
            rw [hz]; exact final_any (HV.out.keeps hW) hk hx hone (by have := HL.out; omega)
          have hq : qb = decide ((t : Int) ≤ z) := by
            rw [HQ.out, hk, Nat.add_sub_cancel, hx, hz, decide_eq_decide]
            unfold fin
            omega
          have g1 : decide ((0 : Int) < (n : Int)) = true := decide_eq_true (by omega)
          have g2 : decide (0 < n) = true := decide_eq_true (by omega)
          have hf0 : ∀ W : World, (Instr.field 32 (.agg #[.int .u32 z, .int .u8 (x.r : Int)]) 0).run Try.prog W = .ok (.int .u32 z) W := fun W => field_t _ _ W
          clear hk hx hone hz h0
          cases qb
          all_goals
            have t0 := hq.symm
            clear hq
            go_wp2_with fail
            go_region_held3 (fun w' => Below w2.heap.size w2 w' ∧ w'.cell? ⟨w.heap.size, 0, none⟩ = some (.int .u32 (t : Int)) ∧ w'.cell? ⟨w.heap.size, 1, none⟩ = some (.int .u8 (r : Int)))
              (first | exact keepP1 PB2.out (drew1 _) (Below.refl _ _) | (go_split_ands; exact keepP1 PB2.out (drew1 _) (by assumption)) | (go_split_ands; exact keepP1 PB2.out (by assumption) (by assumption)))
              ((first | (go_at_call 45; go_split_ands; (with_reducible refine (F.out _ (bt B2.out ?hb)).mono ?_); (case hb => first | assumption | exact Below.drew (by assumption)); rintro e w4 ⟨rfl, b4⟩)))
          all_goals
            go_wp2_with fail
            go_meet
            go_split_ands
            exact ⟨rfl, by assumption⟩
      case rest =>
        obtain ⟨rfl, hbw⟩ := hcut
        obtain ⟨_, c0, c1⟩ := PB2.out.keeps hbw
        cases qb with
        | true =>
          obtain ⟨rfl, rfl⟩ : L = [] ∧ c = 2 := by
            have h := HU2.out
            rw [if_pos (of_decide_eq_true HQ.out.symm)] at h
            exact ⟨(Prod.mk.inj h).1.symm, (Prod.mk.inj h).2.symm⟩
          have BB := Lib.hid (bt B2.out hbw)
          clear hbw
          go_wp2
          go_ret2
          exact ⟨none, 0, rfl, Runs.nil _, BB.out⟩
        | false =>
          have HQN : Hid (¬ (0 < l.length ∧ (t : Int) ≤ fin (l.getD (l.length - 1) zrun))) := of_decide_eq_false HQ.out.symm
          go_wp2_with fail
          refine (MO.out _ (bt B2.out hbw)).mono ?_
          rintro e w5 ⟨v', rfl, r5, b5⟩
          have B5 := Lib.hid (bt (bt B2.out hbw) b5)
          clear hbw c0 c1
          have R5 := Lib.hid r5
          obtain ⟨ao', cap', rfl⟩ := r5.shape
          obtain ⟨N, hN⟩ : ∃ N, N = (more l ⟨t, r, ht, hr⟩).length := ⟨_, rfl⟩
          have R6 : Hid (Runs w5 (.slice ao' N cap') (more l ⟨t, r, ht, hr⟩)) := by rw [hN]; exact R5.out
          obtain ⟨lo, hlo⟩ : ∃ lo, lo = long (more l ⟨t, r, ht, hr⟩) := ⟨_, rfl⟩
          have LG5 : Hid (Calls Try.prog 47 #[.slice ao' N cap'] w5 fun e w' => e = .returned (.int .i64 lo) ∧ w5 = w') := by rw [hlo]; exact LG.out _ _ R6.out
          have HT : Hid ((if 64 < N ∨ 4096 < lo then (([] : List Run), (60 : Int)) else (more l ⟨t, r, ht, hr⟩, 0)) = (L, c)) := by have h := HU2.out; rw [if_neg HQN.out, ← hN, ← hlo] at h; exact h
          have HNN := Lib.hid hN
          rw [← hN]
          clear r5 b5 R5 hN hlo
          by_cases h64 : 64 < N
          · have t1 : decide ((64 : Int) < (N : Int)) = true := decide_eq_true (by omega)
            have t2 : decide (64 < N) = true := decide_eq_true h64
            obtain ⟨rfl, rfl⟩ : L = [] ∧ c = 60 := by
              have h := HT.out
              rw [if_pos (.inl h64)] at h
              exact ⟨(Prod.mk.inj h).1.symm, (Prod.mk.inj h).2.symm⟩
            go_wp2
            go_ret2
            exact ⟨none, 0, rfl, Runs.nil _, B5.out⟩
          · have t1 : decide ((64 : Int) < (N : Int)) = false := decide_eq_false (by omega)
            have t2 : decide (64 < N) = false := decide_eq_false h64
            by_cases hlo : 4096 < lo
            · have t3 : decide (4096 < lo) = true := decide_eq_true hlo
              obtain ⟨rfl, rfl⟩ : L = [] ∧ c = 60 := by
                have h := HT.out
                rw [if_pos (.inr hlo)] at h
                exact ⟨(Prod.mk.inj h).1.symm, (Prod.mk.inj h).2.symm⟩
              go_wp2_with fail
              refine LG5.out.mono ?_
              rintro e w6 ⟨rfl, rfl⟩
              go_wp2
              go_ret2
              exact ⟨none, 0, rfl, Runs.nil _, B5.out⟩
            · have t3 : decide (4096 < lo) = false := decide_eq_false hlo
              obtain ⟨rfl, rfl⟩ : L = more l ⟨t, r, ht, hr⟩ ∧ c = 0 := by
                have h := HT.out
                rw [if_neg (by omega)] at h
                exact ⟨(Prod.mk.inj h).1.symm, (Prod.mk.inj h).2.symm⟩
              go_wp2_with fail
              refine LG5.out.mono ?_
              rintro e w6 ⟨rfl, rfl⟩
              go_wp2
              go_ret2
              exact ⟨ao', cap', by rw [HNN.out]; rfl, by have := R6.out; rwa [HNN.out] at this, B5.out⟩
end Go.Proofs.Ytfhmleigceakjaa.Place
