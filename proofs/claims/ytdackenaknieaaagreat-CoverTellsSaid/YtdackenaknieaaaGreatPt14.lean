/- octavo/cover.section.counts: what it answers. Conditions: content of a bag; a section of it. -/
import Derived.Deep.DrawnRows
import Derived.Deep.RegionHeld3
import Derived.Scope
import Derived.Test.YtdackenaknieaaaGreatPt13
import Derived.Test.YtdackenaknieaaaGreatPt05
import Derived.Test.YtdackenaknieaaaGreatPt06
import Derived.Test.YtdackenaknieaaaGreatPt12
import Derived.Test.YtdackenaknieaaaGreatPt11

namespace Go.Proofs.YtdackenaknieaaaGreat.Covers
open Go.RowKit Go.WideShapes Stamp Go.Proofs.YtdackenaknieaaaGreat.Place Ops Codes Bags Marks Homes
attribute [local go_sem ↓] Go.wp_at_zero Go.wp_at_succ
attribute [local go_sem] yielded_undef

theorem nl_all : ∀ p : List Run, nl p = (all p).length
  | [] => rfl
  | x :: p => by
    show x.m.toNat + nl p = (up x.t x.r x.m.toNat ++ all p).length
    rw [List.length_append, up_len, nl_all p]
set_option maxRecDepth 100000 in
set_option maxHeartbeats 4000000 in
theorem counts_any {va vb u : Value} {l : List Opn} {s : Id} {o : Opn} {g b n0 : Nat} {w : World} (hE : spanE l s = 0) (ho : o ∈ l) (ha : Runs w va (fromL l s)) (hb : Runs w vb (toL l s)) (hu : Runs w u o.pl) (hs : SetI w b n0 (hasO l)) (hc : w.cell? ⟨g, 0, none⟩ = some (.map (some b))) (hg : g < w.heap.size) :
    Calls Tryz.prog 33 #[.agg #[va, vb, .func (.func 107) #[] #[.pointer (some ⟨g, 0, none⟩)]], opv o u] w fun e w' => e = .returned (.bool (homB (fromL l s) (toL l s) o.pl && isB l (livesM l l) s o)) ∧ Below w.heap.size w w' := by
  have hO := (spanE_zero.1 hE).1.2.1 o ho
  have hm := (mayO_parts hO).2.1
  have hM := (mayB_iff o.pl).1 hm
  have HM : Hid (∀ W : World, Below w.heap.size w W → Calls Tryz.prog 40 #[.agg #[va, vb, .func (.func 107) #[] #[.pointer (some ⟨g, 0, none⟩)]], opv o u] W fun e w' => e = .returned (.bool (homB (fromL l s) (toL l s) o.pl)) ∧ Below W.heap.size W w') := fun W h => homes_any (ha.keeps h) (hb.keeps h) (hu.keeps h) ⟨_, _, _, rfl⟩
  have TW : Hid (∀ W : World, Below w.heap.size w W → Calls Tryz.prog 65 #[u] W fun e w' => ∃ ao cap, e = .returned (.slice ao o.pl.length cap) ∧ w'.ownsRow W.heap.size 49 3 (.slice ao o.pl.length cap) o.pl.length (runs o.pl) ∧ Below W.heap.size W w') := fun W h => by
    refine (ptwin_any (hu.keeps h) (by have := hM.2.1; omega)).mono ?_
    rintro e w' ⟨v', rfl, h1, h2⟩
    obtain ⟨ao, cap, rfl⟩ : ∃ ao cap, v' = .slice ao o.pl.length cap := Sees.shape (Sees.own h1)
    exact ⟨ao, cap, rfl, h1, h2⟩
  have TR : Hid (∀ (W : World) (a : Id), Below w.heap.size w W → Calls Tryz.prog 107 #[.agg #[.int .u32 (a.t : Int), .int .u8 (a.r : Int)], .pointer (some ⟨g, 0, none⟩)] W fun e w' => e = .returned (.bool (hasO l a)) ∧ Below W.heap.size W w') := fun W a h => there_any a (hs.keeps h) ((h.cell (p := ⟨g, 0, none⟩) hg).trans hc) (Nat.lt_of_lt_of_le hg h.size)
  have CP : Hid (∀ (W : World) (v : Value) (P : List Run), Below w.heap.size w W → Runs W v P → Calls Tryz.prog 53 #[v, va] W fun e w' => e = .returned (.int .i64 (cmp P (fromL l s))) ∧ Below W.heap.size W w') := fun W v P h h2 => pCompare_any h2 (ha.keeps h)
  obtain ⟨N, hN⟩ : ∃ N, (all o.pl).length = N := ⟨_, rfl⟩
  have hcut : ∀ k, k < N → mayB (cutN o.pl (k + 1)) = true ∧ lastV (cutN o.pl (k + 1)) = ((((all o.pl).getD k zid).t : Int), (((all o.pl).getD k zid).r : Int)) ∧ cutN o.pl k = downL (cutN o.pl (k + 1)) ∧ nl (cutN o.pl (k + 1)) = k + 1 := fun k hk => by
    rw [← hN] at hk
    refine ⟨may_cutN hm (by omega), last_cutN hm hk, cut_down hm hk, ?_⟩
    rw [nl_all, all_cutN hM.2.2.1, List.length_take]
    omega
  have HC := Lib.hid hcut
  have hall : cutN o.pl N = o.pl := by rw [← hN]; exact cutN_all hM.2.2.1
  have OK0 : Hid (okN l s o N) := by rw [← hN]; exact ok_end l s o
  obtain ⟨z, hz⟩ : ∃ z, homB (fromL l s) (toL l s) o.pl = z := ⟨_, rfl⟩
  obtain ⟨q, hq⟩ : ∃ q, isB l (livesM l l) s o = q := ⟨_, rfl⟩
  have ZE : Hid (okN l s o 0 → q = true) := fun h => by rw [← hq]; exact ok_zero h
  have ZB : Hid (∀ k, okN l s o k → cmp (cutN o.pl k) (fromL l s) < 0 → q = true) := fun k h h2 => by rw [← hq]; exact ok_break hE ho h h2
  have ZN : Hid (z = true → ∀ k, k < N → ¬ cmp (cutN o.pl (k + 1)) (fromL l s) < 0 → hasO l ((all o.pl).getD k zid) = false → q = false) := fun h k h1 h2 h3 => by rw [← hq]; exact ok_no hE ho (hz.trans h) (by rw [hN]; exact h1) h2 h3
  have ZS : Hid (∀ k, okN l s o (k + 1) → hasO l ((all o.pl).getD k zid) = true → okN l s o k) := fun k h h2 => ok_step h h2
  have Z00 : Hid (cutN o.pl 0 = []) := cutN_zero _
  rw [hz] at HM ⊢
  rw [hq]
  obtain ⟨F, hF⟩ : ∃ F, fromL l s = F := ⟨_, rfl⟩
  obtain ⟨T, hT⟩ : ∃ F, toL l s = F := ⟨_, rfl⟩
  rw [hF] at ha CP ZB ZN
  rw [hT] at hb
  obtain ⟨C, hC⟩ : ∃ C, cutN o.pl = C := ⟨_, rfl⟩
  simp only [hC] at HC hall ZB ZN Z00
  obtain ⟨A, hA⟩ : ∃ A, (fun k => (all o.pl).getD k zid) = A := ⟨_, rfl⟩
  have hA' : ∀ k, (all o.pl).getD k zid = A k := fun k => by rw [← hA]
  simp only [hA'] at HC ZN ZS
  obtain ⟨ok, hok⟩ : ∃ ok, okN l s o = ok := ⟨_, rfl⟩
  simp only [hok] at OK0 ZE ZB ZS
  obtain ⟨ao, ac, rfl⟩ := ha.shape
  obtain ⟨bo, bc, rfl⟩ := hb.shape
  obtain ⟨uo, uc, rfl⟩ := hu.shape
  obtain ⟨nf, hnf⟩ : ∃ n, F.length = n := ⟨_, rfl⟩
  obtain ⟨nt, hnt⟩ : ∃ n, T.length = n := ⟨_, rfl⟩
  obtain ⟨nu, hnu⟩ : ∃ n, o.pl.length = n := ⟨_, rfl⟩
  have hnum : nu ≤ 64 := by rw [← hnu]; exact hM.2.1
  rw [hnf] at HM CP ⊢
  rw [hnt] at HM ⊢
  rw [hnu] at HM TW ⊢
  have R0 : Hid (nu = (C N).length) := by rw [hall, hnu]; exact rfl
  unfold opv at HM ⊢
  rw [show runs o.pl = runs (C N) by rw [hall]] at TW
  clear ha hb hu hs hc hE ho hO hm hM hN hcut hall hz hq hF hT hC hA hA' hok hnf hnt hnu hg
  obtain ⟨k, t, r, pl, p, hk, ht, hr, hp⟩ := o
  simp only at HM ⊢
  clear hk ht hr hp
  obtain ⟨wl, hwl⟩ : ∃ wl, (w.alloc (.cells #[.slice ao nf ac, .slice bo nt bc, .func (.func 107) #[] #[.pointer (some ⟨g, 0, none⟩)]] 68)).alloc (.cells #[.int .u8 (k : Int), .int .u32 (t : Int), .int .u8 (r : Int), .slice uo nu uc, .int .i64 p] 31) = wl := ⟨_, rfl⟩
  have hsz : wl.heap.size = w.heap.size + 2 := by rw [← hwl]; simp
  have B0 : Hid (Below w.heap.size w wl) := by rw [← hwl]; exact ((Below.refl _ _).alloc (Nat.le_refl _) _).alloc (by simp) _
  have SK : Hid (∀ W : World, Below wl.heap.size wl W → W.cell? ⟨w.heap.size, 0, none⟩ = some (.slice ao nf ac) ∧ W.cell? ⟨w.heap.size, 1, none⟩ = some (.slice bo nt bc) ∧ W.cell? ⟨w.heap.size, 2, none⟩ = some (.func (.func 107) #[] #[.pointer (some ⟨g, 0, none⟩)]) ∧ W.cell? ⟨w.heap.size + 1, 3, none⟩ = some (.slice uo nu uc)) := fun W h => by
    have g1 : W.heap[w.heap.size]? = some (.cells #[.slice ao nf ac, .slice bo nt bc, .func (.func 107) #[] #[.pointer (some ⟨g, 0, none⟩)]] 68) := blk_below h (by rw [← hwl]; exact blk_old (blk_new rfl))
    have g2 : W.heap[w.heap.size + 1]? = some (.cells #[.int .u8 (k : Int), .int .u32 (t : Int), .int .u8 (r : Int), .slice uo nu uc, .int .i64 p] 31) := blk_below h (by rw [← hwl]; exact blk_new (by simp))
    exact ⟨cell_of_row _ _ 0 _ _ _ g1, cell_of_row _ _ 1 _ _ _ g1, cell_of_row _ _ 2 _ _ _ g1, cell_of_row _ _ 3 _ _ _ g2⟩
  have BL : Hid (∀ W : World, Below wl.heap.size wl W → Below w.heap.size w W) := fun W h => bt B0.out h
  have HW := Lib.hid hwl
  have HSZ := Lib.hid hsz
  clear hwl hsz
  cases z
  · clear ZE ZB ZN ZS OK0 HC TW TR CP SK BL Z00 R0
    go_enter Tryz.func33, Tryz.ntmps33
    go_wp2
    refine wp_scope_straight ?_
    go_wp2_with fail
    rw [HW.out]
    refine (HM.out _ B0.out).mono ?_
    rintro e w1 ⟨rfl, b1⟩
    have B1 := Lib.hid (bt B0.out b1)
    clear b1 HM B0
    go_wp2
    (first | go_ret | (rw [Exit.noGoto_ret]; go_ret))
    exact ⟨rfl, B1.out⟩
  rw [Bool.true_and]
  have ZN2 := Lib.hid (ZN.out rfl)
  clear ZN
  go_enter Tryz.func33, Tryz.ntmps33
  go_wp2
  refine wp_scope_straight ?_
  go_wp2_with fail
  rw [HW.out]
  refine (HM.out _ B0.out).mono ?_
  rintro e w1 ⟨rfl, b1⟩
  have B1 := Lib.hid b1
  obtain ⟨c0, c1, c2, c3⟩ := SK.out _ b1
  clear b1 HM
  go_wp2_with fail
  refine (TW.out _ (BL.out _ B1.out)).mono ?_
  rintro e w2 ⟨ao2, ca2, rfl, o2, b2⟩
  have B2 := Lib.hid (bt B1.out b2)
  have O2 : Hid (w2.ownsRow wl.heap.size 49 3 (.slice ao2 nu ca2) nu (runs (C N))) := op_base o2 B1.out.size
  rw [R0.out] at O2 hnum ⊢
  clear b2 o2 TW B1 c0 c1 c2 c3 B0 HW R0
  go_wp2
  go_step3
  go_wp2
  go_loopw [5] (fun v wr => ∃ k ao cap, v = .slice ao (C k).length cap ∧ k ≤ N ∧ Hid (wr.ownsRow wl.heap.size 49 3 (.slice ao (C k).length cap) (C k).length (runs (C k))) ∧ Hid (ok k) ∧ (C k).length ≤ 64 ∧ Hid (Below wl.heap.size wl wr)) (fun v wr => totV wr v)
  case atStart => exact ⟨N, _, _, rfl, Nat.le_refl _, O2, OK0, hnum, B2⟩
  case round =>
    clear O2 OK0 hnum B2
    obtain ⟨k, ao2, ca2, rfl, hkN, hown, hok, hln, hbel⟩ := hrel
    cases k with
    | zero =>
      have hq := ZE.out hok.out
      have h0 : (C 0).length = 0 := by rw [Z00.out]; rfl
      rw [h0]
      subst hq
      clear hown hok hln ZB ZN2 ZS HC TR CP ZE Z00
      go_wp2
      (first | go_ret | (rw [Exit.noGoto_ret]; go_ret))
      exact ⟨rfl, BL.out _ hbel.out⟩
    | succ k =>
    obtain ⟨m1, m2, m3, m4⟩ := HC.out k (by omega)
    obtain ⟨hp1, hp2, hp3, _⟩ := (mayB_iff _).1 m1
    have ST := Lib.hid (ZS.out k hok.out)
    have NO := Lib.hid (ZN2.out k (by omega))
    have BR := Lib.hid (ZB.out (k + 1) hok.out)
    obtain ⟨P, hP⟩ : ∃ P, C (k + 1) = P := ⟨_, rfl⟩
    obtain ⟨a, ha⟩ : ∃ a, A k = a := ⟨_, rfl⟩
    rw [hP] at m1 m2 m3 m4 hp1 hp2 hp3 hown hln NO BR ⊢
    rw [ha] at m2 ST NO
    have HQL : Hid ((C k).length ≤ 64) := by
      unfold Hid
      have := down_len hp1
      rw [m3, this]
      split <;> omega
    have LS : Hid (∀ (W : World) (v : Value), Runs W v P → Calls Tryz.prog 66 #[v] W fun e w' => e = .returned (.agg #[.int .u32 (a.t : Int), .int .u8 (a.r : Int)]) ∧ Below W.heap.size W w') := fun W v h => by
      have := pLast_any h
      rwa [m2] at this
    have CU : Hid (∀ (W : World) (v : Value), W.ownsRow wl.heap.size 49 3 v P.length (runs P) → Calls Tryz.prog 67 #[v] W fun e w' => (∃ ao cap, e = .returned (.slice ao (C k).length cap) ∧ w'.ownsRow wl.heap.size 49 3 (.slice ao (C k).length cap) (C k).length (runs (C k))) ∧ Below wl.heap.size W w') := fun W v h => by
      have := vcut_any h hp1 (by omega) hp3
      rwa [← m3] at this
    have CC := Lib.hid (fun (W : World) (v : Value) h1 h2 => CP.out W v P h1 h2)
    have TT := Lib.hid (fun (W : World) h => TR.out W a h)
    have MS : Hid (totV wr (.slice ao2 P.length ca2) = k + 1) := (totV_runs (Runs.own hown.out)).trans m4
    have MS2 : Hid (∀ (W : World) (v : Value), W.ownsRow wl.heap.size 49 3 v (C k).length (runs (C k)) → totV W v = k) := fun W v h => by
      rw [totV_runs (Runs.own h)]
      cases k with
      | zero => rw [Z00.out]; rfl
      | succ k' => exact (HC.out k' (by omega)).2.2.2
    obtain ⟨c, hcc⟩ : ∃ c, cmp P F = c := ⟨_, rfl⟩
    simp only [hcc] at CC NO BR
    obtain ⟨hh, hhh⟩ : ∃ h, hasO l a = h := ⟨_, rfl⟩
    rw [hhh] at TT ST NO
    have RR : Hid (∀ W : World, Below wr.heap.size wr W → W.ownsRow wl.heap.size 49 3 (.slice ao2 P.length ca2) P.length (runs P)) := fun W h => own_stays hown.out h
    obtain ⟨n, hn⟩ : ∃ n, P.length = n := ⟨_, rfl⟩
    simp only [hn] at hown RR MS CU hp1 hp2 hln ⊢
    have HN := Lib.hid hn
    have t1 : decide ((0 : Int) < (n : Int)) = true := decide_eq_true (by omega)
    have t2 : decide (0 < n) = true := decide_eq_true hp1
    have s0 := SK.out _ hbel.out
    obtain ⟨c0, c1, c2, c3⟩ := s0
    clear ZB ZN2 ZS HC TR CP hok Z00 ZE m1 m2 m3 m4 hP ha hcc hhh hn hp3
    have D0 : Hid (∀ W : World, Below wr.heap.size wr W → Below w.heap.size w W) := fun W h => BL.out _ (bt hbel.out h)
    go_wp2_with fail
    refine (CC.out _ _ (D0.out _ (Below.refl _ _)) (by rw [← HN.out]; exact Runs.own (by rw [HN.out]; exact hown.out))).mono ?_
    rintro e w3 ⟨rfl, b3⟩
    have B3 := Lib.hid b3
    have KK : Hid (∀ W : World, Below w3.heap.size w3 W → Below w3.heap.size w3 W ∧ W.cell? ⟨w.heap.size, 2, none⟩ = some (.func (.func 107) #[] #[.pointer (some ⟨g, 0, none⟩)])) := fun W h => ⟨h, (SK.out W (bt hbel.out (bt B3.out h))).2.2.1⟩
    clear b3 CC c0 c1 c2 c3
    by_cases hlt : c < 0
    · have q1 : decide (c < 0) = true := decide_eq_true hlt
      have hq := BR.out hlt
      subst hq
      have BE := Lib.hid (BL.out _ (bt hbel.out B3.out))
      clear BR NO ST CU TT LS RR KK MS MS2 D0
      go_wp2
      (first | go_ret | (rw [Exit.noGoto_ret]; go_ret))
      exact ⟨rfl, BE.out⟩
    have q1 : decide (c < 0) = false := decide_eq_false hlt
    have NO2 := Lib.hid (NO.out (by first | exact hlt | omega))
    have LL : Hid (∀ W : World, Below wr.heap.size wr W → Calls Tryz.prog 66 #[.slice ao2 n ca2] W fun e w' => e = .returned (.agg #[.int .u32 (a.t : Int), .int .u8 (a.r : Int)]) ∧ Below W.heap.size W w') := fun W h => LS.out W _ (by rw [← HN.out]; exact Runs.own (by rw [HN.out]; exact RR.out W h))
    have TX : Hid (∀ W : World, Below w3.heap.size w3 W → Calls Tryz.prog 107 #[.agg #[.int .u32 (a.t : Int), .int .u8 (a.r : Int)], .pointer (some ⟨g, 0, none⟩)] W fun e w' => e = .returned (.bool hh) ∧ Below W.heap.size W w') := fun W h => TT.out W (D0.out W (bt B3.out h))
    have LX : Hid (∀ W : World, Below w3.heap.size w3 W → Calls Tryz.prog 66 #[.slice ao2 n ca2] W fun e w' => e = .returned (.agg #[.int .u32 (a.t : Int), .int .u8 (a.r : Int)]) ∧ Below W.heap.size W w') := fun W h => LL.out W (bt B3.out h)
    clear NO BR LS LL TT hlt
    go_wp2
    refine wp_region_held_drew (S := fun w' => Below w3.heap.size w3 w' ∧ w'.cell? ⟨w.heap.size, 2, none⟩ = some (.func (.func 107) #[] #[.pointer (some ⟨g, 0, none⟩)])) (by kernel_rfl) (KK.out _ (drew1 _)) (fun hHeld => ?_)
    refine wpAnyH_take (i := 0) (v := ?va0) rfl (by kernel_rfl) (by kernel_rfl) (by kernel_rfl) (fun _ _ _ h => h) (Or.inl ⟨by rfl, ?ya0⟩) (by assumption) ?_
    case ya0 => intro w hSw; (try dsimp only at hSw); go_simp <;> with_reducible rfl
    try simp only [List.getElem_toArray, List.getElem_cons_zero, Act.put, List.setIfInBounds_toArray, List.set_cons_zero, List.set_cons_succ]
    refine wpAnyH_take (i := 1) (v := ?va1) rfl (by kernel_rfl) (by kernel_rfl) (by kernel_rfl) (fun _ _ _ h => h) (Or.inl ⟨by rfl, ?ya1⟩) (by assumption) ?_
    case ya1 => intro w hSw; (try dsimp only at hSw); go_simp <;> with_reducible rfl
    try simp only [List.getElem_toArray, List.getElem_cons_succ, List.getElem_cons_zero, Act.put, List.setIfInBounds_toArray, List.set_cons_zero, List.set_cons_succ]
    refine wpAnyH_take (i := 2) (v := ?va2) rfl (by kernel_rfl) (by kernel_rfl) (by kernel_rfl) (fun _ _ _ h => h) (Or.inl ⟨by rfl, ?ya2⟩) (by assumption) ?_
    case ya2 => intro w hSw; (try dsimp only at hSw); go_simp <;> with_reducible rfl
    try simp only [List.getElem_toArray, List.getElem_cons_succ, List.getElem_cons_zero, Act.put, List.setIfInBounds_toArray, List.set_cons_zero, List.set_cons_succ]
    refine wpAnyH_ready (rs := [3]) (by kernel_rfl) (by simp) ?_
    refine AllReadyH.cons rfl (fun K hK => ?_) ?za3
    case za3 => exact AllReadyH.nil
    go_simp
    refine (LX.out _ hHeld.1).mono ?_
    rintro e w9a3 ⟨rfl, b9⟩
    refine hK.out _ _ (KK.out _ (bt hHeld.1 b9)) (fun hNew => ?_)
    clear hHeld
    have hHeld := hNew
    clear hNew hK K
    try simp only [List.getElem_toArray, List.getElem_cons_succ, List.getElem_cons_zero, Act.put, List.setIfInBounds_toArray, List.set_cons_zero, List.set_cons_succ]
    refine wpAnyH_ready (rs := [4]) (by kernel_rfl) (by simp) ?_
    refine AllReadyH.cons rfl (fun K hK => ?_) ?za4
    case za4 => exact AllReadyH.nil
    go_simp
    refine (TX.out _ hHeld.1).mono ?_
    rintro e w9a4 ⟨rfl, b9⟩
    refine hK.out _ _ (KK.out _ (bt hHeld.1 b9)) (fun hNew => ?_)
    clear hHeld
    have hHeld := hNew
    clear hNew hK K
    try simp only [List.getElem_toArray, List.getElem_cons_succ, List.getElem_cons_zero, Act.put, List.setIfInBounds_toArray, List.set_cons_zero, List.set_cons_succ]
    refine wpAnyH_take (i := 5) (v := ?va5) rfl (by kernel_rfl) (by kernel_rfl) (by kernel_rfl) (fun _ _ _ h => h) (Or.inl ⟨by rfl, ?ya5⟩) (by assumption) ?_
    case ya5 => intro w hSw; (try dsimp only at hSw); go_simp <;> with_reducible rfl
    try simp only [List.getElem_toArray, List.getElem_cons_succ, List.getElem_cons_zero, Act.put, List.setIfInBounds_toArray, List.set_cons_zero, List.set_cons_succ]
    refine wpAnyH_take (i := 6) (v := ?va6) rfl (by kernel_rfl) (by kernel_rfl) (by kernel_rfl) (fun _ _ _ h => h) (Or.inl ⟨by rfl, ?ya6⟩) (by assumption) ?_
    case ya6 => intro w hSw; (try dsimp only at hSw); go_simp <;> with_reducible rfl
    try simp only [List.getElem_toArray, List.getElem_cons_succ, List.getElem_cons_zero, Act.put, List.setIfInBounds_toArray, List.set_cons_zero, List.set_cons_succ]
    refine wpAnyH_done (by kernel_rfl) ?_ _
    have b4 := hHeld.1
    have B4 := Lib.hid (bt B3.out b4)
    clear b4 hHeld KK LX TX
    cases hh
    · have hq := NO2.out rfl
      subst hq
      have BE := Lib.hid (BL.out _ (bt hbel.out B4.out))
      clear NO2 ST CU RR MS MS2 D0 B3
      go_wp2
      (first | go_ret | (rw [Exit.noGoto_ret]; go_ret))
      exact ⟨rfl, BE.out⟩
    have OKK := Lib.hid (ST.out rfl)
    have CX := Lib.hid (CU.out _ _ (RR.out _ B4.out))
    clear NO2 ST CU RR D0 B3
    go_wp2_with fail
    refine CX.out.mono ?_
    rintro e w6 ⟨⟨ao6, ca6, rfl, o6⟩, b6⟩
    have O6 := Lib.hid o6
    have B6 : Hid (Below wl.heap.size wl w6) := (bt hbel.out B4.out).trans b6
    have M6 := Lib.hid (MS2.out _ _ o6)
    clear o6 b6 CX B4 MS2
    go_wp2
    go_roundw
    case rel => exact ⟨k, _, _, rfl, by omega, O6, OKK, HQL.out, B6⟩
    case measure =>
      have h1 := MS.out
      have h2 := M6.out
      first | omega | (rw [h1, h2]; omega) | (simp only [h1, h2]; omega)
end Go.Proofs.YtdackenaknieaaaGreat.Covers

/- What calls of cover answer: bounds. Conditions: none. -/
namespace Go.Proofs.YtdackenaknieaaaGreat.Covers
open Go.RowKit Go.WideShapes Stamp Go.Proofs.YtdackenaknieaaaGreat.Place Ops Codes Bags Marks Homes
attribute [local go_sem ↓] Go.wp_at_zero Go.wp_at_succ
attribute [local go_sem] yielded_undef

theorem sub_fits {l m : List Opn} (hb : Bag l) (h : m.Sublist l) : m.length ≤ 1024 ∧ ∀ o ∈ m, o.pl.length ≤ 64 := ⟨Nat.le_trans h.length_le hb.1, fun o ho => mayO_fits (hb.2.1 o (h.subset ho))⟩
theorem countsL_fits (l : List Opn) (s : Id) : (countsL l s).length ≤ 1024 ∧ ∀ o ∈ countsL l s, o.pl.length ≤ 64 := by
  unfold countsL
  split
  · rename_i h; exact sub_fits (spanE_zero.1 h).1 (countL_sub _ _ _)
  · exact ⟨by simp, by simp⟩
end Go.Proofs.YtdackenaknieaaaGreat.Covers

/- octavoref13.Home, Sections, Where, Begin: what each answers. Conditions: live marks that may be, in order; a place that may be, or the beginning. -/
namespace Go.Proofs.YtdackenaknieaaaGreat.Homes
open Go.RowKit Go.WideShapes Stamp Go.Proofs.YtdackenaknieaaaGreat.Place Ops Codes Bags Marks
attribute [local go_sem ↓] Go.wp_at_zero Go.wp_at_succ
attribute [local go_sem] yielded_undef

/-- Two cells of a block stored. -/
def put2 (X : World) (g : Nat) (d0 d1 : Value) : World := (X.setCell ⟨g, 0, none⟩ d0).setCell ⟨g, 1, none⟩ d1
theorem put2_same {X : World} {g : Nat} {c0 c1 : Value} (d0 d1 : Value) {e : TypeId} (h : X.heap[g]? = some (.cells #[c0, c1] e)) : (put2 X g d0 d1).heap[g]? = some (.cells #[d0, d1] e) := set_blk h
theorem put2_other {X : World} {g k : Nat} (d0 d1 : Value) {o : Obj} (hk : k ≠ g) (h : X.heap[k]? = some o) : (put2 X g d0 d1).heap[k]? = some o := by
  unfold put2
  rw [heap_setCell_other _ _ _ _ hk, heap_setCell_other _ _ _ _ hk]
  exact h
theorem put2_below {B g : Nat} {W X : World} (d0 d1 : Value) (hg : B ≤ g) (h : Below B W X) : Below B W (put2 X g d0 d1) := set_below hg h
theorem frz2 {X : World} {g : Nat} {cs : Array Value} {e : TypeId} (h : X.heap[g]? = some (.cells cs e)) (o : Nat) : X.frozen? ⟨g, o, none⟩ = false := by simp [World.frozen?, h]

theorem homeM_take {live : List Opn} {p : List Run} {j : Nat} (hj : j < live.length) : homeM (live.take (j + 1)) p = if notBehind (live[j]'hj) p = true then idO (live[j]'hj) else homeM (live.take j) p := by
  rw [List.take_succ_eq_append_getElem hj, homeM_snoc]

set_option maxRecDepth 100000 in
set_option maxHeartbeats 8000000 in
theorem refHome_any {v u : Value} {live : List Opn} {p : List Run} {w : World} (hv : OpL w v live) (hu : Runs w u p) (hm : ∀ o ∈ live, mayO o = true) (hp : anyB p = true) :
    Calls Tryz.prog 77 #[v, u] w fun e w' => e = .returned (.agg #[.int .u32 ((homeM live p).t : Int), .int .u8 ((homeM live p).r : Int)]) ∧ Below w.heap.size w w' := by
  obtain ⟨ao, cap, rfl⟩ := hv.shape
  obtain ⟨n, hn⟩ : ∃ n, n = live.length := ⟨_, rfl⟩
  have hmx : n ≤ 9223372036854775807 := by rw [hn]; exact hv.max
  have HV : Hid (∀ W : World, Below w.heap.size w W → OpL W (.slice ao live.length cap) live) := fun W h => hv.keeps h
  have HN := Lib.hid hn
  have AP := (anyB_iff p).1 hp
  have HE : Hid (∀ (x : Opn) (y : Value) (W : World), x ∈ live → Runs w y x.pl → Below w.heap.size w W → Calls Tryz.prog 114 #[y, u] W fun e w' => e = .returned (.int .i64 (Go.Proofs.YtdackenaknieaaaGreat.Place.hold (all x.pl) (all p))) ∧ Below W.heap.size W w') := fun x y W hx hy h => by
    have M := (mayB_iff _).1 (mayO_parts (hm x hx)).2.1
    have hlp : p.length ≤ 100 := by
      rcases AP with rfl | h
      · simp
      · exact Nat.le_trans h.2.1 (by decide)
    exact held_any (hy.keeps h) (hu.keeps h) M.2.2.1 AP.chain (Nat.le_trans M.2.1 (by decide)) hlp
  rw [← hn]
  obtain ⟨wl, hwl⟩ : ∃ x, x = (w.alloc (.cells #[.int .u32 0, .int .u8 0] 28)).alloc (.cells #[.int .u32 0, .int .u8 0] 28) := ⟨_, rfl⟩
  have X0 : Hid (wl.heap[w.heap.size]? = some (.cells #[.int .u32 0, .int .u8 0] 28)) := by rw [hwl]; exact blk_old (blk_new rfl)
  have Y0 : Hid (wl.heap[w.heap.size + 1]? = some (.cells #[.int .u32 ((homeM (live.take 0) p).t : Int), .int .u8 ((homeM (live.take 0) p).r : Int)] 28)) := by rw [hwl]; exact blk_new (by simp)
  have B0 : Hid (Below w.heap.size w wl) := by rw [hwl]; exact ((Below.refl _ _).alloc (Nat.le_refl _) _).alloc (by simp) _
  have HW := Lib.hid hwl
  obtain ⟨R, hR⟩ : ∃ z, homeM live p = z := ⟨_, rfl⟩
  rw [hR]
  obtain ⟨T, r, hT, hr⟩ := R
  have HR := Lib.hid hR
  simp only
  clear hv hn hm hp AP hu hwl hR
  go_enter Tryz.func77, Tryz.ntmps77
  go_wp2
  rw [← HW.out]
  go_loopw [6] (fun i wr => ∃ j : Nat, j ≤ n ∧ i = .int .i64 (j : Int) ∧ Hid (wr.heap[w.heap.size]? = some (.cells #[.int .u32 0, .int .u8 0] 28)) ∧ Hid (wr.heap[w.heap.size + 1]? = some (.cells #[.int .u32 ((homeM (live.take j) p).t : Int), .int .u8 ((homeM (live.take j) p).r : Int)] 28)) ∧ Hid (Below w.heap.size w wr)) (fun i _ => n - (intOf i).toNat)
  case atStart => exact ⟨0, by omega, rfl, X0, Y0, B0⟩
  case round =>
    clear X0 Y0 B0 HW wl
    obtain ⟨j, hj, rfl, hx0, hy0, hbel⟩ := hrel
    by_cases hjn : j < n
    rotate_left
    · have q3 : decide (j < n) = false := by simpa using hjn
      have hkk : live.take j = live := List.take_of_length_le (by have := HN.out; omega)
      rw [hkk, HR.out] at hy0
      simp only at hy0
      have c0 := cell_of_row _ _ 0 _ _ _ hy0.out
      have c1 := cell_of_row _ _ 1 _ _ _ hy0.out
      have d0 := cell_of_row _ _ 0 _ _ _ hx0.out
      have d1 := cell_of_row _ _ 1 _ _ _ hx0.out
      have f0 : ∀ o, wr.frozen? ⟨w.heap.size, o, none⟩ = false := fun o => frz2 hx0.out o
      obtain ⟨WF, hWF⟩ : ∃ WF, WF = put2 wr w.heap.size (.int .u32 (T : Int)) (.int .u8 (r : Int)) := ⟨_, rfl⟩
      have HF := put2_same (.int .u32 (T : Int)) (.int .u8 (r : Int)) hx0.out
      have BF := put2_below (.int .u32 (T : Int)) (.int .u8 (r : Int)) (Nat.le_refl w.heap.size) hbel.out
      rw [← hWF] at HF BF
      have HF2 := Lib.hid HF
      have BF2 := Lib.hid BF
      unfold put2 at hWF
      have HW := Lib.hid hWF
      clear hkk hWF HF BF hx0 hy0 hbel
      go_wp2
      rw [← HW.out]
      have e0 := cell_of_row _ _ 0 _ _ _ HF2.out
      have e1 := cell_of_row _ _ 1 _ _ _ HF2.out
      exact bodyPost_ret (v := .agg #[.int .u32 (T : Int), .int .u8 (r : Int)]) (by simp [results, Tryz.results77, go_sem, e0, e1]) rfl ⟨rfl, BF2.out⟩
    have q3 : decide (j < n) = true := by simpa using hjn
    have q4 : (0 : Int) ≤ (j : Int) := by omega
    have q5 : (j : Int) < (n : Int) := by omega
    have hjl : j < live.length := by rw [← HN.out]; exact hjn
    obtain ⟨bb, oo, y, e, hbb, hru, h0, h1, h2, h3, h4⟩ := opl_at (HV.out w (Below.refl _ _)) j hjl
    subst e
    obtain ⟨x, hx⟩ : ∃ x, x = live[j]'hjl := ⟨_, rfl⟩
    rw [← hx] at hru h0 h1 h2 h4
    have hxm : x ∈ live := by rw [hx]; exact List.getElem_mem _
    have hst := homeM_take (p := p) hjl
    rw [← hx] at hst
    have HX := Lib.hid (HE.out x y wr hxm hru hbel.out)
    have hnb : notBehind x p = decide (Go.Proofs.YtdackenaknieaaaGreat.Place.hold (all x.pl) (all p) ≤ 0) := rfl
    obtain ⟨h, hh⟩ : ∃ z, Go.Proofs.YtdackenaknieaaaGreat.Place.hold (all x.pl) (all p) = z := ⟨_, rfl⟩
    rw [hh] at HX hnb
    obtain ⟨t, ht⟩ : ∃ z, x.t = z := ⟨_, rfl⟩
    obtain ⟨rx, hrx⟩ : ∃ z, x.r = z := ⟨_, rfl⟩
    rw [ht] at h1
    rw [hrx] at h2
    have HID : Hid ((idO x).t = t ∧ (idO x).r = rx) := ⟨ht, hrx⟩
    have HST := Lib.hid hst
    have HNB := Lib.hid hnb
    have C1 : Hid (∀ W : World, Below w.heap.size w W → W.cell? ⟨bb, oo + j * 5 + 1, none⟩ = some (.int .u32 (t : Int)) ∧ W.cell? ⟨bb, oo + j * 5 + 2, none⟩ = some (.int .u8 (rx : Int))) := fun W h => ⟨(h.cell (p := ⟨bb, oo + j * 5 + 1, none⟩) hbb).trans h1, (h.cell (p := ⟨bb, oo + j * 5 + 2, none⟩) hbb).trans h2⟩
    replace h3 := (hbel.out.cell (p := ⟨bb, oo + j * 5 + 3, none⟩) hbb).trans h3
    obtain ⟨yo, yc, rfl⟩ := hru.shape
    obtain ⟨ny, hny⟩ : ∃ n, x.pl.length = n := ⟨_, rfl⟩
    rw [hny] at HX h3
    clear hx hxm hst hnb hh ht hrx h0 h1 h2 h4 hny hru hbb
    go_wp2_with fail
    clear h3
    refine HX.out.mono ?_
    rintro e w1 ⟨rfl, b1⟩
    have B1 := Lib.hid (bt hbel.out b1)
    have X1 := Lib.hid (blk_below b1 hx0.out)
    have Y1 := Lib.hid (blk_below b1 hy0.out)
    obtain ⟨c1, c2⟩ := C1.out w1 B1.out
    clear b1 HX hx0 hy0 hbel
    by_cases hle : h ≤ 0
    rotate_left
    · have d1 : decide (h ≤ 0) = false := decide_eq_false hle
      have Y2 : Hid (w1.heap[w.heap.size + 1]? = some (.cells #[.int .u32 ((homeM (live.take (j + 1)) p).t : Int), .int .u8 ((homeM (live.take (j + 1)) p).r : Int)] 28)) := by
        unfold Hid
        rw [HST.out, if_neg (by rw [HNB.out, d1]; decide)]
        exact Y1.out
      clear HST HNB HID Y1 hle c1 c2
      go_wp2
      go_roundw
      case rel => exact ⟨j + 1, by omega, by go_num, X1, Y2, B1⟩
      case measure => simp [intOf]; omega
    have d1 : decide (h ≤ 0) = true := decide_eq_true hle
    have k0 := cell_of_row _ _ 0 _ _ _ Y1.out
    have k1 := cell_of_row _ _ 1 _ _ _ Y1.out
    have f0 : ∀ o, w1.frozen? ⟨w.heap.size + 1, o, none⟩ = false := fun o => frz2 Y1.out o
    obtain ⟨WF, hWF⟩ : ∃ WF, WF = put2 w1 (w.heap.size + 1) (.int .u32 (t : Int)) (.int .u8 (rx : Int)) := ⟨_, rfl⟩
    have Y2 : Hid (WF.heap[w.heap.size + 1]? = some (.cells #[.int .u32 ((homeM (live.take (j + 1)) p).t : Int), .int .u8 ((homeM (live.take (j + 1)) p).r : Int)] 28)) := by
      unfold Hid
      rw [HST.out, if_pos (by rw [HNB.out, d1]), HID.out.1, HID.out.2, hWF]
      exact put2_same _ _ Y1.out
    have X2 : Hid (WF.heap[w.heap.size]? = some (.cells #[.int .u32 0, .int .u8 0] 28)) := by
      rw [hWF]
      exact put2_other _ _ (by omega) X1.out
    have B2 : Hid (Below w.heap.size w WF) := by
      rw [hWF]
      exact put2_below _ _ (Nat.le_succ _) B1.out
    unfold put2 at hWF
    have HW := Lib.hid hWF
    clear hWF HST HNB HID Y1 X1 B1 hle
    go_wp2
    rw [← HW.out]
    clear k0 k1 f0 c1 c2 HW
    go_roundw
    case rel => exact ⟨j + 1, by omega, by go_num, X2, Y2, B2⟩
    case measure => simp [intOf]; omega

theorem sects_take {live : List Opn} {j : Nat} (hj : j < live.length) : sectsM (live.take (j + 1)) = sectsM (live.take j) ++ [idO (live[j]'hj)] := by
  unfold sectsM
  rw [List.take_succ_eq_append_getElem hj, List.map_append]
  rfl
/-- Stamps of the call's own. -/
def OwnI (w : World) (base : Nat) (v : Value) (l : List Id) : Prop := w.ownsRow base 28 2 v l.length (ids l)
theorem OwnI.of {w0 w : World} {v : Value} {l : List Id} (h : Shr idE 28 w0 w v l) : OwnI w w0.heap.size v l := by
  obtain ⟨cs, h1, h2⟩ := h
  unfold OwnI
  rw [← idE_rows h2]
  exact h1
set_option maxRecDepth 100000 in
set_option maxHeartbeats 4000000 in
theorem refSections_any {v : Value} {live : List Opn} {w : World} (hv : OpL w v live) (hl : live.length ≤ 1000000) :
    Calls Tryz.prog 115 #[v] w fun e w' => ∃ ao cap, e = .returned (.slice ao (live.length + 1) cap) ∧ OwnI w' w.heap.size (.slice ao (live.length + 1) cap) (sectsM live) ∧ Below w.heap.size w w' := by
  obtain ⟨ao, cap, rfl⟩ := hv.shape
  obtain ⟨n, hn⟩ : ∃ n, n = live.length := ⟨_, rfl⟩
  have HV : Hid (∀ W : World, Below w.heap.size w W → OpL W (.slice ao live.length cap) live) := fun W h => hv.keeps h
  have HN := Lib.hid hn
  rw [← hn] at hl ⊢
  have S0 : Hid (Shr idE 28 w (w.alloc (.cells #[.int .u32 0, .int .u8 0] 28)) (.slice (some ⟨w.heap.size, 0, none⟩) 1 1) (sectsM (live.take 0))) :=
    by
    have e0 : sectsM (live.take 0) = [zid] := by simp [sectsM]
    unfold Hid
    rw [e0]
    exact ⟨[.int .u32 0, .int .u8 0], ⟨rfl, .inr ⟨w.heap.size, 1, #[.int .u32 0, .int .u8 0], rfl, Nat.le_refl _, heap_alloc_new w _, by simp, by decide, rfl, rfl⟩⟩, ⟨[.int .u32 0, .int .u8 0], [], rfl, rfl, rfl⟩⟩
  have B0 : Hid (Below w.heap.size w (w.alloc (.cells #[.int .u32 0, .int .u8 0] 28))) := (Below.refl _ _).alloc (Nat.le_refl _) _
  clear hv hn
  go_enter Tryz.func115, Tryz.ntmps115
  go_wp2
  go_loopw [3, 4] (fun v i wr => ∃ j : Nat, j ≤ n ∧ i = .int .i64 (j : Int) ∧ (∃ ao cap, v = .slice ao (j + 1) cap) ∧ Hid (Shr idE 28 w wr v (sectsM (live.take j))) ∧ Hid (Below w.heap.size w wr)) (fun _ i _ => n - (intOf i).toNat)
  case atStart => exact ⟨0, by omega, rfl, ⟨_, _, rfl⟩, S0, B0⟩
  case round =>
    clear S0 B0
    obtain ⟨j, hj, rfl, ⟨aoL, capL, rfl⟩, hshr, hbel⟩ := hrel
    by_cases hjn : j < n
    rotate_left
    · have q3 : decide (j < n) = false := by simpa using hjn
      have hkk : live.take j = live := List.take_of_length_le (by have := HN.out; omega)
      obtain rfl : j = n := by omega
      rw [hkk] at hshr
      clear hkk
      go_wp2
      go_ret
      exact ⟨_, _, rfl, OwnI.of hshr.out, hbel.out⟩
    have q3 : decide (j < n) = true := by simpa using hjn
    have q4 : (0 : Int) ≤ (j : Int) := by omega
    have q5 : (j : Int) < (n : Int) := by omega
    have hjl : j < live.length := by rw [← HN.out]; exact hjn
    obtain ⟨bb, oo, y, e, hbb, hru, h0, h1, h2, h3, h4⟩ := opl_at (HV.out wr hbel.out) j hjl
    subst e
    obtain ⟨x, hx⟩ : ∃ x, x = live[j]'hjl := ⟨_, rfl⟩
    rw [← hx] at h1 h2
    have INN : Hid (idE.inn w [.int .u32 (x.t : Int), .int .u8 (x.r : Int)] (idO x)) := rfl
    have FT : Hid (sectsM (live.take (j + 1)) = sectsM (live.take j) ++ [idO x]) := by rw [hx]; exact sects_take hjl
    have HM : Hid (j + 1 = (sectsM (live.take j)).length) := by unfold Hid; rw [sectsM_len, List.length_take, ← HN.out]; omega
    obtain ⟨t, ht⟩ : ∃ z, x.t = z := ⟨_, rfl⟩
    obtain ⟨r, hr⟩ : ∃ z, x.r = z := ⟨_, rfl⟩
    rw [ht] at h1
    rw [hr] at h2
    rw [ht, hr] at INN
    have HZ : Hid (w.heap.size ≤ wr.heap.size) := hbel.out.size
    clear hx hru ht hr h0 h3 h4
    go_wp2_with (at_builtin; refine wpList_append_enc (E := idE) Tryz.underlying51 id_info rfl (w0 := w) (wp := wr) (by rfl) (.tmp 13) (.tmp 19) (by rfl) (by rfl) hshr.out (G := wr.heap.size) (by rfl) rfl (c := #[.int .u32 (t : Int), .int .u8 (r : Int)]) INN.out HM.out (by omega) (by omega) HZ.out ?_)
    rintro v6 w6 s6 va vc rfl b6
    have S6 := Lib.hid s6
    rw [← FT.out] at S6
    have B6 := Lib.hid (hbel.out.trans b6)
    clear s6 b6 h1 h2 hshr
    go_wp2
    go_roundw
    case rel => exact ⟨j + 1, by omega, by go_num, ⟨va, vc, rfl⟩, S6, B6⟩
    case measure => simp [intOf]; omega
end Go.Proofs.YtdackenaknieaaaGreat.Homes
