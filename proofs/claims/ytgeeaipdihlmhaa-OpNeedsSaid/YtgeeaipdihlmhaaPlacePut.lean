/- octavo/place.Under: what it answers. Conditions: the slice's cells are runs. -/
import Derived.Test.YtgeeaipdihlmhaaPlaceRefUnder
import Derived.Test.YtgeeaipdihlmhaaPlaceIdl
namespace Go.Proofs.Ytgeeaipdihlmhaa.Place
open Go.RowKit Stamp
attribute [local go_sem ↓] Go.wp_at_zero Go.wp_at_succ
attribute [local go_sem] yielded_undef

/-- What Under answers: a row of its own, and an error. -/
def Undone (l : List Run) (c : Int) (w : World) (e : Ending) (w' : World) : Prop :=
  ∃ ao cap, e = .returned (.tuple #[.slice ao l.length cap, .int .i64 c]) ∧ w'.ownsRow w.heap.size 24 3 (.slice ao l.length cap) l.length (runs l) ∧ Below w.heap.size w w'

theorem keepR2 {wl w1 w2 : World} {b o1 o2 o3 h2 : Nat} {c1 c2 c3 d0 d1 : Value} (q : Mid3 wl b o1 o2 o3 c1 c2 c3) (p2 : Pair wl h2 d0 d1) (h : Below w1.heap.size w1 w2) (hb : Below wl.heap.size wl w1) :
    Below wl.heap.size wl w2 ∧ w2.cell? ⟨b, o1, none⟩ = some c1 ∧ w2.cell? ⟨b, o2, none⟩ = some c2 ∧ w2.cell? ⟨b, o3, none⟩ = some c3 ∧ w2.cell? ⟨h2, 0, none⟩ = some d0 ∧ w2.cell? ⟨h2, 1, none⟩ = some d1 :=
  have a := bt hb h
  ⟨a, (q.keeps a).2.1, (q.keeps a).2.2.1, (q.keeps a).2.2.2, (p2.keeps a).2.1, (p2.keeps a).2.2⟩

set_option maxRecDepth 100000 in
set_option maxHeartbeats 8000000 in
theorem pUnder_any {v : Value} {l : List Run} {a : Id} {w : World} (hv : Runs w v l) :
    Calls Try.prog 23 #[v, .agg #[.int .u32 (a.t : Int), .int .u8 (a.r : Int)]] w (Undone (und l a).1 (und l a).2 w) := by
  obtain ⟨t, r, ht, hr⟩ := a
  simp only
  obtain ⟨ao, cap, rfl⟩ := hv.shape
  obtain ⟨n, hn⟩ : ∃ n, n = l.length := ⟨_, rfl⟩
  have HN := Lib.hid hn
  have HV : Hid (Runs w (.slice ao n cap) l) := by rw [hn]; exact hv
  rw [← hn]
  have BX := Lib.hid ((Below.refl w.heap.size w).alloc (Nat.le_refl _) (.cells #[.int .u32 (t : Int), .int .u8 (r : Int)] 27))
  obtain ⟨ab, hab⟩ : ∃ ab, anyB l = ab := ⟨_, rfl⟩
  obtain ⟨mb, hmb⟩ : ∃ mb, may t r = mb := ⟨_, rfl⟩
  have A1 : Hid (∀ W : World, Below w.heap.size w W → Calls Try.prog 40 #[.slice ao n cap] W fun e w' => e = .returned (.bool ab) ∧ Below W.heap.size W w') := fun W hW => stands_is (HV.out.keeps hW) hab
  have M1 : Hid (∀ W : World, Calls Try.prog 32 #[.agg #[.int .u32 (t : Int), .int .u8 (r : Int)]] W fun e w' => e = .returned (.int .i64 (if mb = true then 0 else 8)) ∧ Below W.heap.size W w') := fun W => by
    have := Stamp.check_any t r W
    unfold Stamp.chk at this
    rwa [hmb] at this
  have HAB := Lib.hid hab
  have HMB := Lib.hid hmb
  obtain ⟨L, c, hund⟩ : ∃ L c, und l ⟨t, r, ht, hr⟩ = (L, c) := ⟨_, _, rfl⟩
  rw [hund]
  have HU := Lib.hid hund
  clear hv hn hab hmb hund
  simp only
  cases ab with
  | false =>
    have hLc : L = [] ∧ c = 8 := by
      have h := HU.out
      unfold und at h
      rw [if_pos (.inl HAB.out)] at h
      exact ⟨(Prod.mk.inj h).1.symm, (Prod.mk.inj h).2.symm⟩
    obtain ⟨rfl, rfl⟩ := hLc
    go_enter Try.func23, Try.ntmps23
    go_wp2_with fail
    refine (A1.out _ BX.out).mono ?_
    rintro e w1 ⟨rfl, b1⟩
    have B1 := Lib.hid (below_of3 b1)
    clear b1
    go_wp2
    go_ret2
    exact ⟨none, 0, rfl, World.ownsRow_nil _ _ _ _, B1.out⟩
  | true =>
    cases mb with
    | false =>
      have hLc : L = [] ∧ c = 8 := by
        have h := HU.out
        unfold und at h
        rw [if_pos (.inr HMB.out)] at h
        exact ⟨(Prod.mk.inj h).1.symm, (Prod.mk.inj h).2.symm⟩
      obtain ⟨rfl, rfl⟩ := hLc
      simp only [Bool.false_eq_true, if_false] at M1
      go_enter Try.func23, Try.ntmps23
      go_wp2_with fail
      refine (A1.out _ BX.out).mono ?_
      rintro e w1 ⟨rfl, b1⟩
      obtain ⟨x0, x1, _, _⟩ := two_cells b1
      have B1 := Lib.hid (below_of3 b1)
      clear b1
      go_wp2_with fail
      refine (M1.out _).mono ?_
      rintro e w2 ⟨rfl, b2⟩
      have B2 := Lib.hid (bt B1.out b2)
      clear b2 x0 x1
      go_wp2
      go_ret2
      exact ⟨none, 0, rfl, World.ownsRow_nil _ _ _ _, B2.out⟩
    | true =>
      simp only [if_true] at M1
      have hAny := (anyB_iff l).1 HAB.out
      have hch := hAny.chain
      have hmay := may_iff.1 HMB.out
      have hlen := hAny.len
      -- the last stamp's time, and whether the new one is greater
      obtain ⟨z, hz⟩ : ∃ z, z = (lastV l).1 := ⟨_, rfl⟩
      obtain ⟨z2, hz2⟩ : ∃ z2, z2 = (lastV l).2 := ⟨_, rfl⟩
      have LA : Hid (∀ W : World, Below w.heap.size w W → Calls Try.prog 26 #[.slice ao n cap] W fun e w' => e = .returned (.agg #[.int .u32 z, .int .u8 z2]) ∧ Below W.heap.size W w') := fun W hW => by
        rw [hz, hz2]; exact pLast_any (HV.out.keeps hW)
      obtain ⟨q, hq⟩ : ∃ q, decide ((t : Int) ≤ z) = q := ⟨_, rfl⟩
      have hql : q = decide (0 < l.length ∧ (t : Int) ≤ fin (l.getD (l.length - 1) zrun)) := by
        rw [← hq, decide_eq_decide, hz]
        unfold lastV
        by_cases hm : mayB l = true
        · rw [if_pos hm]
          have := ((mayB_iff l).1 hm).1
          simp only
          unfold fin
          omega
        · rw [if_neg hm]
          have : l = [] := by
            rcases hAny with h | h
            · exact h
            · exact absurd ((mayB_iff l).2 h) hm
          subst this
          simp
          omega
      have HQ := Lib.hid hql
      have hf0 : ∀ W : World, (Instr.field 27 (.agg #[.int .u32 z, .int .u8 z2]) 0).run Try.prog W = .ok (.int .u32 z) W := fun W => field_t _ _ W
      have TW : Hid (∀ W : World, Below w.heap.size w W → Calls Try.prog 31 #[.slice ao n cap] W fun e w' => ∃ v', e = .returned v' ∧ w'.ownsRow W.heap.size 24 3 v' n (runs l) ∧ Below W.heap.size W w') := fun W hW => by
        have := ptwin_any (HV.out.keeps hW) (by omega)
        rwa [← HN.out] at this
      have hl64 : n ≤ 64 := by have := HN.out; omega
      have HCh := Lib.hid hch
      have HAny := Lib.hid hAny
      clear hAny hch hmay hlen hz hz2 hql
      cases q
      case true =>
        obtain ⟨rfl, rfl⟩ : L = [] ∧ c = 2 := by
          have h := HU.out
          unfold und at h
          rw [if_neg (by rw [HAB.out]; simp only [HMB.out]; simp), if_pos (of_decide_eq_true HQ.out.symm)] at h
          exact ⟨(Prod.mk.inj h).1.symm, (Prod.mk.inj h).2.symm⟩
        go_enter Try.func23, Try.ntmps23
        go_wp2_with fail
        refine (A1.out _ BX.out).mono ?_
        rintro e w1 ⟨rfl, b1⟩
        have PB := Lib.hid ((pair_new w (.int .u32 (t : Int)) (.int .u8 (r : Int)) 27).keeps b1)
        have B1 := Lib.hid (below_of3 b1)
        clear b1
        obtain ⟨_, x0, x1⟩ := PB.out
        go_wp2_with fail
        refine (M1.out _).mono ?_
        rintro e w2 ⟨rfl, b2⟩
        have PB2 := Lib.hid (PB.out.keeps b2)
        have B2 := Lib.hid (bt B1.out b2)
        clear b2 x0 x1 PB B1
        go_wp2_with fail
        go_region_held3 (fun w' => Below w2.heap.size w2 w' ∧ w'.cell? ⟨w.heap.size, 0, none⟩ = some (.int .u32 (t : Int)) ∧ w'.cell? ⟨w.heap.size, 1, none⟩ = some (.int .u8 (r : Int)))
          (first | exact keepP1 PB2.out (drew1 _) (Below.refl _ _) | (go_split_ands; exact keepP1 PB2.out (drew1 _) (by assumption)) | (go_split_ands; exact keepP1 PB2.out (by assumption) (by assumption)))
          ((first | (go_at_call 26; go_split_ands; (with_reducible refine (LA.out _ (bt B2.out ?hb)).mono ?_); (case hb => first | assumption | exact Below.drew (by assumption)); rintro e w4 ⟨rfl, b4⟩)))
        go_wp2
        go_ret2
        go_split_ands
        exact ⟨none, 0, rfl, World.ownsRow_nil _ _ _ _, bt B2.out (by assumption)⟩
      case false =>
        have HU2 : Hid ((if mayB (more l ⟨t, r, ht, hr⟩) = true then (more l ⟨t, r, ht, hr⟩, (0 : Int)) else ([], 60)) = (L, c)) := by
          have h := HU.out
          rw [und_may HAB.out HMB.out (of_decide_eq_false HQ.out.symm)] at h
          exact h
        obtain ⟨qb, hqb⟩ : ∃ qb, qb = joinsB l ⟨t, r, ht, hr⟩ := ⟨_, rfl⟩
        have HQB := Lib.hid hqb
        clear hqb
        go_enter Try.func23, Try.ntmps23
        go_wp2_with fail
        refine (A1.out _ BX.out).mono ?_
        rintro e w1 ⟨rfl, b1⟩
        have PB := Lib.hid ((pair_new w (.int .u32 (t : Int)) (.int .u8 (r : Int)) 27).keeps b1)
        have B1 := Lib.hid (below_of3 b1)
        clear b1
        obtain ⟨_, x0, x1⟩ := PB.out
        go_wp2_with fail
        refine (M1.out _).mono ?_
        rintro e w2 ⟨rfl, b2⟩
        have PB2 := Lib.hid (PB.out.keeps b2)
        have B2 := Lib.hid (bt B1.out b2)
        clear b2 x0 x1 PB B1
        go_wp2_with fail
        go_region_held3 (fun w' => Below w2.heap.size w2 w' ∧ w'.cell? ⟨w.heap.size, 0, none⟩ = some (.int .u32 (t : Int)) ∧ w'.cell? ⟨w.heap.size, 1, none⟩ = some (.int .u8 (r : Int)))
          (first | exact keepP1 PB2.out (drew1 _) (Below.refl _ _) | (go_split_ands; exact keepP1 PB2.out (drew1 _) (by assumption)) | (go_split_ands; exact keepP1 PB2.out (by assumption) (by assumption)))
          ((first | (go_at_call 26; go_split_ands; (with_reducible refine (LA.out _ (bt B2.out ?hb)).mono ?_); (case hb => first | assumption | exact Below.drew (by assumption)); rintro e w4 ⟨rfl, b4⟩)))
        go_split_ands
        have hS : Below w2.heap.size w2 w4 := by assumption
        have PB4 := Lib.hid (PB2.out.keeps hS)
        have B4 := Lib.hid (bt B2.out hS)
        clear hS hf0 LA A1 M1 PB2 B2 hq
        clear b4
        go_wp2_with fail
        refine (TW.out _ B4.out).mono ?_
        rintro e w5 ⟨v', rfl, own, b5⟩
        obtain ⟨aoC, capC, rfl⟩ := Sees.shape (Sees.own own)
        have OWN : Hid (w5.ownsRow w.heap.size 24 3 (.slice aoC n capC) n (runs l)) := ⟨own.1, own.2.imp_right fun ⟨g, c, cur, h1, h2, h3⟩ => ⟨g, c, cur, h1, Nat.le_trans B4.out.size h2, h3⟩⟩
        have PB5 := Lib.hid (PB4.out.keeps b5)
        have B5 := Lib.hid (bt B4.out b5)
        clear own b5 PB4
        go_wp2_with fail
        go_upto_region 7 with fail
        go_cut [7, 36] (fun p7 p wx => Hid (p7 = .int .i64 ((n : Int) - 1)) ∧ p = .bool qb ∧ Below w5.heap.size w5 wx)
        case first =>
          by_cases h0 : n = 0
          · have hf : qb = false := by rw [HQB.out]; exact decide_eq_false (by rw [← HN.out]; omega)
            have g1 : decide ((0 : Int) ≤ (n : Int) - 1) = false := decide_eq_false (by omega)
            have g2 : decide ((1 : Int) ≤ (n : Int)) = false := decide_eq_false (by omega)
            have g3 : decide (1 ≤ n) = false := decide_eq_false (by omega)
            have g4 : decide (0 < n) = false := decide_eq_false (by omega)
            subst hf
            clear h0
            go_wp2
            go_quiet (fail)
            go_wp2_with fail
            go_meet
            exact ⟨Lib.hid rfl, rfl, below_draw (Below.refl _ _) _⟩
          · obtain ⟨k, hk⟩ : ∃ k, n = k + 1 := ⟨n - 1, by omega⟩
            obtain ⟨b, off, rfl, hb, hx0, hx1, hx2⟩ := (HV.out.keeps B5.out).at k (by rw [← HN.out]; omega)
            have hone := chain_one HCh.out (k := k) (by rw [← HN.out]; omega)
            obtain ⟨x, hx⟩ : ∃ x, x = l.getD k zrun := ⟨_, rfl⟩
            rw [← hx] at hx0 hx1 hx2 hone
            obtain ⟨zz, hzz⟩ : ∃ zz : Nat, (zz : Int) = (x.t : Int) + (x.m - 1) := ⟨((x.t : Int) + (x.m - 1)).toNat, by have := hone.2.2.2.1; omega⟩
            have hgo : goes zz x.r t r = qb := by
              rw [HQB.out]
              unfold goes joinsB
              rw [← HN.out, hk, Nat.add_sub_cancel, ← hx, decide_eq_decide]
              unfold fin
              simp only
              omega
            have GO : Hid (∀ W : World, Calls Try.prog 41 #[.agg #[.int .u32 (x.t : Int), .int .u8 (x.r : Int), .int .i64 x.m], .agg #[.int .u32 (t : Int), .int .u8 (r : Int)]] W fun e w' => e = .returned (.bool qb) ∧ Below W.heap.size W w') := fun W => by
              have := goesOn_any x.t x.r x.m zz t r hzz ⟨hone.2.2.2.1, hone.2.2.2.2.1⟩ hone.2.1 W
              rwa [hgo] at this
            have MX : Hid (Mid3 w5 b (off + k * 3) (off + k * 3 + 1) (off + k * 3 + 2) (.int .u32 (x.t : Int)) (.int .u8 (x.r : Int)) (.int .i64 x.m)) := ⟨hb, hx0, hx1, hx2⟩
            obtain ⟨xt, xr, xm, hxt, hxr, hxm⟩ := x
            simp only at GO MX
            have g1 : decide ((0 : Int) ≤ (n : Int) - 1) = true := decide_eq_true (by omega)
            have g2 : decide ((1 : Int) ≤ (n : Int)) = true := decide_eq_true (by omega)
            have g3 : decide (1 ≤ n) = true := decide_eq_true (by omega)
            have i0 : (0 : Int) ≤ (k : Int) := by omega
            have i1 : (k : Int) < (n : Int) := by omega
            have i2 : (n : Int) - 1 = (k : Int) := by omega
            have i3 : decide ((0 : Int) ≤ (k : Int)) = true := decide_eq_true (by omega)
            clear hb hx0 hx1 hx2 hone hx hzz hgo hk h0 hxm
            go_wp2_with fail
            go_region_held3 (fun w' => Below w5.heap.size w5 w' ∧ w'.cell? ⟨b, off + k * 3, none⟩ = some (.int .u32 (xt : Int)) ∧ w'.cell? ⟨b, off + k * 3 + 1, none⟩ = some (.int .u8 (xr : Int)) ∧ w'.cell? ⟨b, off + k * 3 + 2, none⟩ = some (.int .i64 xm) ∧ w'.cell? ⟨w.heap.size, 0, none⟩ = some (.int .u32 (t : Int)) ∧ w'.cell? ⟨w.heap.size, 1, none⟩ = some (.int .u8 (r : Int)))
              (first | exact keepR2 MX.out PB5.out (drew1 _) (Below.refl _ _) | (go_split_ands; exact keepR2 MX.out PB5.out (drew1 _) (by assumption)) | (go_split_ands; exact keepR2 MX.out PB5.out (by assumption) (by assumption)))
              ((first | (go_at_call 41; (with_reducible refine (GO.out _).mono ?_); rintro e w6 ⟨rfl, b6⟩)))
            go_wp2_with fail
            go_meet
            go_split_ands
            exact ⟨by rw [i2]; exact Lib.hid rfl, rfl, by assumption⟩
        case rest =>
          obtain ⟨h7, rfl, hbw⟩ := hcut
          have h7 := h7.out
          subst h7
          have OWc : Hid (wc.ownsRow w.heap.size 24 3 (.slice aoC n capC) n (runs l)) := own_stays OWN.out hbw
          obtain ⟨_, c0, c1⟩ := PB5.out.keeps hbw
          have Bc := Lib.hid (bt B5.out hbw)
          cases qb with
          | false =>
            have hmore : more l ⟨t, r, ht, hr⟩ = l ++ [mkRun t r 1] := by
              have h := HQB.out.symm
              unfold joinsB at h
              unfold more
              rw [if_neg (of_decide_eq_false h)]
            have HMo := Lib.hid hmore
            have HRn : Hid (runs [mkRun t r 1] = [.int .u32 (t : Int), .int .u8 (r : Int), .int .i64 1]) := by
              show _ = _
              rw [runs, mkRun_t ht, mkRun_r hr, mkRun_m (by omega)]; rfl
            have OW6 : Hid ((wc.alloc (.cells #[.int .u32 (t : Int), .int .u8 (r : Int), .int .i64 1] 24)).ownsRow w.heap.size 24 3 (.slice aoC n capC) n (runs l)) := own_stays OWc.out ((Below.refl _ _).alloc (Nat.le_refl _) _)
            have S6 : Hid (Sees (wc.alloc (.cells #[.int .u32 (t : Int), .int .u8 (r : Int), .int .i64 1] 24)) (.slice (some ⟨wc.heap.size, 0, none⟩) 1 1) 3 1 (runs [mkRun t r 1])) := by
              rw [HRn.out]
              exact Sees.own (own_blk3 (base := wc.heap.size) (e := 24) (Nat.le_refl _) (blk_new rfl))
            clear hmore hbw
            go_wp2_with (at_builtin; refine wpList_append_sees rfl (.tmp 45) (.tmp 51) 25 24 rfl Try.underlying25 run_info rfl (by decide) w.heap.size _ n _ rfl OW6.out _ 1 _ rfl S6.out (runs_oneCell _) ?k1 ?k2 ?k3 ?_)
            case k1 => omega
            case k2 => omega
            case k3 => have := Bc.out.size; simp; omega
            rintro v1 wx o1 g1 b1
            obtain ⟨aoD, capD, rfl⟩ := Sees.shape (Sees.own o1)
            obtain ⟨NC, hNC⟩ : ∃ NC, NC = n + 1 := ⟨_, rfl⟩
            have OC : Hid (wx.ownsRow w.heap.size 24 3 (.slice aoD NC capD) NC (runs (more l ⟨t, r, ht, hr⟩))) := by
              rw [hNC, HMo.out, runs_append]; exact o1
            have BC : Hid (Below w.heap.size w wx) := (Bc.out.alloc Bc.out.size _).trans b1
            clear o1 g1 b1 OW6 S6 OWc OWN Bc B5
            rw [← hNC]
            clear hNC c0 c1
            have RC : Hid (Runs wx (.slice aoD NC capD) (more l ⟨t, r, ht, hr⟩)) := Runs.own OC.out
            obtain ⟨mb2, hmb2⟩ : ∃ mb2, mayB (more l ⟨t, r, ht, hr⟩) = mb2 := ⟨_, rfl⟩
            have CC : Hid (Calls Try.prog 25 #[.slice aoD NC capD] wx fun e w' => e = .returned (.int .i64 (if mb2 = true then 0 else 8)) ∧ Below wx.heap.size wx w') := check_is RC.out (by unfold chk; rw [hmb2])
            have HU3 : Hid ((if mb2 = true then (more l ⟨t, r, ht, hr⟩, (0 : Int)) else ([], 60)) = (L, c)) := by
              have h := HU2.out
              rw [hmb2] at h
              exact h
            have HNC : Hid (NC = (more l ⟨t, r, ht, hr⟩).length) := by have h := OC.out.1; rw [runs_len] at h; show NC = _; omega
            clear hmb2 RC
            cases mb2
            · obtain ⟨rfl, rfl⟩ : L = [] ∧ c = 60 := by
                have h := HU3.out
                simp only [Bool.false_eq_true, if_false] at h
                exact ⟨(Prod.mk.inj h).1.symm, (Prod.mk.inj h).2.symm⟩
              simp only [Bool.false_eq_true, if_false] at CC
              go_wp2_with fail
              refine CC.out.mono ?_
              rintro e w8 ⟨rfl, b8⟩
              have B8 := Lib.hid (BC.out.trans (b8.mono BC.out.size))
              clear b8
              go_wp2
              go_ret2
              exact ⟨none, 0, rfl, World.ownsRow_nil _ _ _ _, B8.out⟩
            · obtain ⟨rfl, rfl⟩ : L = more l ⟨t, r, ht, hr⟩ ∧ c = 0 := by
                have h := HU3.out
                simp only [if_true] at h
                exact ⟨(Prod.mk.inj h).1.symm, (Prod.mk.inj h).2.symm⟩
              simp only [if_true] at CC
              go_wp2_with fail
              refine CC.out.mono ?_
              rintro e w8 ⟨rfl, b8⟩
              have B8 := Lib.hid (BC.out.trans (b8.mono BC.out.size))
              have O8 := Lib.hid (own_stays OC.out b8)
              clear b8
              go_wp2
              go_ret2
              exact ⟨aoD, capD, by rw [← HNC.out]; rfl, by have := O8.out; rwa [HNC.out] at this, B8.out⟩
          | true =>
            have hj := of_decide_eq_true HQB.out.symm
            obtain ⟨k, hk⟩ : ∃ k, n = k + 1 := ⟨n - 1, by have := hj.1; have := HN.out; omega⟩
            have hkl : l.length - 1 = k := by rw [← HN.out, hk]; omega
            have hone := chain_one HCh.out (k := k) (by rw [← HN.out]; omega)
            obtain ⟨x, hx⟩ : ∃ x, x = l.getD k zrun := ⟨_, rfl⟩
            rw [← hx] at hone
            have hmore : more l ⟨t, r, ht, hr⟩ = l.take k ++ [mkRun x.t x.r (x.m + 1)] := by
              unfold more
              rw [if_pos hj, hkl, ← hx]
            have hm1 := hone.2.2.2.1
            have hm2 := hone.2.2.2.2.1
            have hset : (runs l).set (k * 3 + 2) (.int .i64 (x.m + 1)) = runs (more l ⟨t, r, ht, hr⟩) := by
              rw [hmore, hx]; exact runs_bump l k (by rw [← HN.out]; omega) (by rw [← hx]; omega)
            obtain ⟨g, rfl⟩ : ∃ g, aoC = some ⟨g, 0, none⟩ := by
              rcases OWc.out.2 with ⟨_, h⟩ | ⟨g, c, cur, h, _⟩
              · omega
              · cases h; exact ⟨g, rfl⟩
            have hg : w.heap.size ≤ g := by
              rcases OWc.out.2 with ⟨_, h⟩ | ⟨g', c, cur, h, h2, _⟩
              · omega
              · cases h; exact h2
            have xm : wc.cell? ⟨g, k * 3 + 2, none⟩ = some (.int .i64 x.m) := by
              rw [OWc.out.cellAt (k * 3 + 2) (by omega), (runs_get l k (by rw [← HN.out]; omega)).2.2, ← hx]
            have xf : wc.frozen? ⟨g, k * 3 + 2, none⟩ = false := OWc.out.frozenAt _
            obtain ⟨m', hm'⟩ : ∃ m', m' = x.m := ⟨_, rfl⟩
            rw [← hm'] at xm hm1 hm2 hset
            have OC0 : Hid ((wc.setCell ⟨g, k * 3 + 2, none⟩ (.int .i64 (m' + 1))).ownsRow w.heap.size 24 3 (.slice (some ⟨g, 0, none⟩) n capC) n (runs (more l ⟨t, r, ht, hr⟩))) := by
              have h := (OWc.out.stored (k * 3 + 2) (.int .i64 (m' + 1))).1
              rw [hset] at h
              exact h
            have BC0 : Hid (Below w.heap.size w (wc.setCell ⟨g, k * 3 + 2, none⟩ (.int .i64 (m' + 1)))) := Bc.out.setCell (p := ⟨g, k * 3 + 2, none⟩) hg _
            obtain ⟨wx, hwx⟩ : ∃ wx, wx = wc.setCell ⟨g, k * 3 + 2, none⟩ (.int .i64 (m' + 1)) := ⟨_, rfl⟩
            rw [← hwx] at OC0 BC0
            have HWX := Lib.hid hwx
            have BC := BC0
            have OC := OC0
            have w0 : (0 : Int) ≤ (k : Int) := by omega
            have w1 : (k : Int) < (n : Int) := by omega
            have e1 : (n : Int) - 1 = (k : Int) := by omega
            have e2 : IntKind.i64.wrap (k : Int) = (k : Int) := IntWalk.i64_in _ (by omega)
            have e4 : IntKind.i64.wrap (m' + 1) = m' + 1 := IntWalk.i64_in _ (by omega)
            clear hset hmore hj hkl hone hx hk hm' hbw c0 c1 hwx OC0 BC0
            go_wp2_with fail
            rw [← HWX.out]
            have RC : Hid (Runs wx (.slice (some ⟨g, 0, none⟩) n capC) (more l ⟨t, r, ht, hr⟩)) := Runs.own OC.out
            obtain ⟨mb2, hmb2⟩ : ∃ mb2, mayB (more l ⟨t, r, ht, hr⟩) = mb2 := ⟨_, rfl⟩
            have CC : Hid (Calls Try.prog 25 #[.slice (some ⟨g, 0, none⟩) n capC] wx fun e w' => e = .returned (.int .i64 (if mb2 = true then 0 else 8)) ∧ Below wx.heap.size wx w') := check_is RC.out (by unfold chk; rw [hmb2])
            have HU3 : Hid ((if mb2 = true then (more l ⟨t, r, ht, hr⟩, (0 : Int)) else ([], 60)) = (L, c)) := by
              have h := HU2.out
              rw [hmb2] at h
              exact h
            have HMC : Hid (n = (more l ⟨t, r, ht, hr⟩).length) := by have h := OC.out.1; rw [runs_len] at h; show n = _; omega
            clear hmb2 RC
            cases mb2
            · obtain ⟨rfl, rfl⟩ : L = [] ∧ c = 60 := by
                have h := HU3.out
                simp only [Bool.false_eq_true, if_false] at h
                exact ⟨(Prod.mk.inj h).1.symm, (Prod.mk.inj h).2.symm⟩
              simp only [Bool.false_eq_true, if_false] at CC
              refine CC.out.mono ?_
              rintro e w8 ⟨rfl, b8⟩
              have B8 := Lib.hid (BC.out.trans (b8.mono BC.out.size))
              clear b8
              go_wp2
              go_ret2
              exact ⟨none, 0, rfl, World.ownsRow_nil _ _ _ _, B8.out⟩
            · obtain ⟨rfl, rfl⟩ : L = more l ⟨t, r, ht, hr⟩ ∧ c = 0 := by
                have h := HU3.out
                simp only [if_true] at h
                exact ⟨(Prod.mk.inj h).1.symm, (Prod.mk.inj h).2.symm⟩
              simp only [if_true] at CC
              refine CC.out.mono ?_
              rintro e w8 ⟨rfl, b8⟩
              have B8 := Lib.hid (BC.out.trans (b8.mono BC.out.size))
              have O8 := Lib.hid (own_stays OC.out b8)
              clear b8
              go_wp2
              go_ret2
              exact ⟨some ⟨g, 0, none⟩, capC, by rw [← HMC.out]; rfl, by have := O8.out; rwa [HMC.out] at this, B8.out⟩
end Go.Proofs.Ytgeeaipdihlmhaa.Place
