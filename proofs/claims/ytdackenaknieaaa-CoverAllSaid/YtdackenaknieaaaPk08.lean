/- octavo/cover.section.counts: what it answers. Conditions: content of a bag; a section of it. -/
import Derived.Deep.DrawnRows
import Derived.Deep.RegionHeld3
import Derived.Scope
import Derived.Shelf.Abstract
import Derived.Test.YtdackenaknieaaaPk07
import Derived.Test.YtdackenaknieaaaPk03
import Derived.Test.YtdackenaknieaaaPk04
import Derived.Test.YtdackenaknieaaaPk06
import Derived.Test.YtdackenaknieaaaPk05

namespace Go.Proofs.Ytdackenaknieaaa.Covers
open Go.RowKit Go.WideShapes Stamp Go.Proofs.Ytdackenaknieaaa.Place Ops Codes Bags Marks Homes
attribute [local go_sem ↓] Go.wp_at_zero Go.wp_at_succ
attribute [local go_sem] yielded_undef

theorem nl_all : ∀ p : List Run, nl p = (all p).length
  | [] => rfl
  | x :: p => by
    show x.m.toNat + nl p = (up x.t x.r x.m.toNat ++ all p).length
    rw [List.length_append, up_len, nl_all p]
set_option maxRecDepth 100000 in
set_option maxHeartbeats 4000000 in
theorem counts_any {va vb u : Value} {l : List Opn} {s : Id} {o : Opn} {g b n0 : Nat} {w : World} (hE : spanE l s = 0) (ho : o ∈ l) (ha : Runs w va (fromL l s)) (hb : Runs w vb (toL l s)) (hu : Runs w u o.pl) (hs : SetI w b n0 (hasO l)) (hc : w.cell? ⟨g, 0, none⟩ = some (.map (some b))) (hg : g < w.heap.size) :
    Calls Try.prog 21 #[.agg #[va, vb, .func (.func 55) #[] #[.pointer (some ⟨g, 0, none⟩)]], opv o u] w fun e w' => e = .returned (.bool (homB (fromL l s) (toL l s) o.pl && isB l (livesM l l) s o)) ∧ Below w.heap.size w w' := by
  have hO := (spanE_zero.1 hE).1.2.1 o ho
  have hm := (mayO_parts hO).2.1
  have hM := (mayB_iff o.pl).1 hm
  have HM : Hid (∀ W : World, Below w.heap.size w W → Calls Try.prog 20 #[.agg #[va, vb, .func (.func 55) #[] #[.pointer (some ⟨g, 0, none⟩)]], opv o u] W fun e w' => e = .returned (.bool (homB (fromL l s) (toL l s) o.pl)) ∧ Below W.heap.size W w') := fun W h => homes_any (ha.keeps h) (hb.keeps h) (hu.keeps h) ⟨_, _, _, rfl⟩
  have TW : Hid (∀ W : World, Below w.heap.size w W → Calls Try.prog 37 #[u] W fun e w' => ∃ ao cap, e = .returned (.slice ao o.pl.length cap) ∧ w'.ownsRow W.heap.size 48 3 (.slice ao o.pl.length cap) o.pl.length (runs o.pl) ∧ Below W.heap.size W w') := fun W h => by
    refine (ptwin_any (hu.keeps h) (by have := hM.2.1; omega)).mono ?_
    rintro e w' ⟨v', rfl, h1, h2⟩
    obtain ⟨ao, cap, rfl⟩ : ∃ ao cap, v' = .slice ao o.pl.length cap := Sees.shape (Sees.own h1)
    exact ⟨ao, cap, rfl, h1, h2⟩
  have TR : Hid (∀ (W : World) (a : Id), Below w.heap.size w W → Calls Try.prog 55 #[.agg #[.int .u32 (a.t : Int), .int .u8 (a.r : Int)], .pointer (some ⟨g, 0, none⟩)] W fun e w' => e = .returned (.bool (hasO l a)) ∧ Below W.heap.size W w') := fun W a h => there_any a (hs.keeps h) ((h.cell (p := ⟨g, 0, none⟩) hg).trans hc) (Nat.lt_of_lt_of_le hg h.size)
  have CP : Hid (∀ (W : World) (v : Value) (P : List Run), Below w.heap.size w W → Runs W v P → Calls Try.prog 25 #[v, va] W fun e w' => e = .returned (.int .i64 (cmp P (fromL l s))) ∧ Below W.heap.size W w') := fun W v P h h2 => pCompare_any h2 (ha.keeps h)
  obtain ⟨N, hN⟩ : ∃ N, (all o.pl).length = N := ⟨_, rfl⟩
  have hcut : ∀ k, k < N → mayB (cutN o.pl (k + 1)) = true ∧ lastV (cutN o.pl (k + 1)) = ((((all o.pl).getD k zid).t : Int), (((all o.pl).getD k zid).r : Int)) ∧ cutN o.pl k = downL (cutN o.pl (k + 1)) ∧ nl (cutN o.pl (k + 1)) = k + 1 := fun k hk => by
    rw [← hN] at hk
    refine ⟨may_cutN hm (by omega), last_cutN hm hk, cut_down hm hk, ?_⟩
    rw [nl_all, all_cutN hM.2.2.1, List.length_take]
    omega
  have HC := Lib.hid hcut
  have hall : cutN o.pl N = o.pl := by rw [← hN]; exact cutN_all hM.2.2.1
  have OK0 : Hid (okN l s o N) := by rw [← hN]; exact ok_end l s o
  obtain ⟨z, hz⟩ : ∃ z, homB (fromL l s) (toL l s) o.pl = z := ⟨_, rfl⟩
  obtain ⟨q, hq⟩ : ∃ q, isB l (livesM l l) s o = q := ⟨_, rfl⟩
  have ZE : Hid (okN l s o 0 → q = true) := fun h => by rw [← hq]; exact ok_zero h
  have ZB : Hid (∀ k, okN l s o k → cmp (cutN o.pl k) (fromL l s) < 0 → q = true) := fun k h h2 => by rw [← hq]; exact ok_break hE ho h h2
  have ZN : Hid (z = true → ∀ k, k < N → ¬ cmp (cutN o.pl (k + 1)) (fromL l s) < 0 → hasO l ((all o.pl).getD k zid) = false → q = false) := fun h k h1 h2 h3 => by rw [← hq]; exact ok_no hE ho (hz.trans h) (by rw [hN]; exact h1) h2 h3
  have ZS : Hid (∀ k, okN l s o (k + 1) → hasO l ((all o.pl).getD k zid) = true → okN l s o k) := fun k h h2 => ok_step h h2
  have Z00 : Hid (cutN o.pl 0 = []) := cutN_zero _
  rw [hz] at HM ⊢
  rw [hq]
  obtain ⟨F, hF⟩ : ∃ F, fromL l s = F := ⟨_, rfl⟩
  obtain ⟨T, hT⟩ : ∃ F, toL l s = F := ⟨_, rfl⟩
  rw [hF] at ha CP ZB ZN
  rw [hT] at hb
  obtain ⟨C, hC⟩ : ∃ C, cutN o.pl = C := ⟨_, rfl⟩
  simp only [hC] at HC hall ZB ZN Z00
  obtain ⟨A, hA⟩ : ∃ A, (fun k => (all o.pl).getD k zid) = A := ⟨_, rfl⟩
  have hA' : ∀ k, (all o.pl).getD k zid = A k := fun k => by rw [← hA]
  simp only [hA'] at HC ZN ZS
  obtain ⟨ok, hok⟩ : ∃ ok, okN l s o = ok := ⟨_, rfl⟩
  simp only [hok] at OK0 ZE ZB ZS
  obtain ⟨ao, ac, rfl⟩ := ha.shape
  obtain ⟨bo, bc, rfl⟩ := hb.shape
  obtain ⟨uo, uc, rfl⟩ := hu.shape
  obtain ⟨nf, hnf⟩ : ∃ n, F.length = n := ⟨_, rfl⟩
  obtain ⟨nt, hnt⟩ : ∃ n, T.length = n := ⟨_, rfl⟩
  obtain ⟨nu, hnu⟩ : ∃ n, o.pl.length = n := ⟨_, rfl⟩
  have hnum : nu ≤ 64 := by rw [← hnu]; exact hM.2.1
  rw [hnf] at HM CP ⊢
  rw [hnt] at HM ⊢
  rw [hnu] at HM TW ⊢
  have R0 : Hid (nu = (C N).length) := by rw [hall, hnu]; exact rfl
  unfold opv at HM ⊢
  rw [show runs o.pl = runs (C N) by rw [hall]] at TW
  clear ha hb hu hs hc hE ho hO hm hM hN hcut hall hz hq hF hT hC hA hA' hok hnf hnt hnu hg
  obtain ⟨k, t, r, pl, p, hk, ht, hr, hp⟩ := o
  simp only at HM ⊢
  clear hk ht hr hp
  obtain ⟨wl, hwl⟩ : ∃ wl, (w.alloc (.cells #[.slice ao nf ac, .slice bo nt bc, .func (.func 55) #[] #[.pointer (some ⟨g, 0, none⟩)]] 55)).alloc (.cells #[.int .u8 (k : Int), .int .u32 (t : Int), .int .u8 (r : Int), .slice uo nu uc, .int .i64 p] 35) = wl := ⟨_, rfl⟩
  have hsz : wl.heap.size = w.heap.size + 2 := by rw [← hwl]; simp
  have B0 : Hid (Below w.heap.size w wl) := by rw [← hwl]; exact ((Below.refl _ _).alloc (Nat.le_refl _) _).alloc (by simp) _
  have SK : Hid (∀ W : World, Below wl.heap.size wl W → W.cell? ⟨w.heap.size, 0, none⟩ = some (.slice ao nf ac) ∧ W.cell? ⟨w.heap.size, 1, none⟩ = some (.slice bo nt bc) ∧ W.cell? ⟨w.heap.size, 2, none⟩ = some (.func (.func 55) #[] #[.pointer (some ⟨g, 0, none⟩)]) ∧ W.cell? ⟨w.heap.size + 1, 3, none⟩ = some (.slice uo nu uc)) := fun W h => by
    have g1 : W.heap[w.heap.size]? = some (.cells #[.slice ao nf ac, .slice bo nt bc, .func (.func 55) #[] #[.pointer (some ⟨g, 0, none⟩)]] 55) := blk_below h (by rw [← hwl]; exact blk_old (blk_new rfl))
    have g2 : W.heap[w.heap.size + 1]? = some (.cells #[.int .u8 (k : Int), .int .u32 (t : Int), .int .u8 (r : Int), .slice uo nu uc, .int .i64 p] 35) := blk_below h (by rw [← hwl]; exact blk_new (by simp))
    exact ⟨cell_of_row _ _ 0 _ _ _ g1, cell_of_row _ _ 1 _ _ _ g1, cell_of_row _ _ 2 _ _ _ g1, cell_of_row _ _ 3 _ _ _ g2⟩
  have BL : Hid (∀ W : World, Below wl.heap.size wl W → Below w.heap.size w W) := fun W h => bt B0.out h
  have HW := Lib.hid hwl
  have HSZ := Lib.hid hsz
  clear hwl hsz
  cases z
  · clear ZE ZB ZN ZS OK0 HC TW TR CP SK BL Z00 R0
    go_enter Try.func21, Try.ntmps21
    go_wp2
    refine wp_scope_straight ?_
    go_wp2_with fail
    rw [HW.out]
    refine (HM.out _ B0.out).mono ?_
    rintro e w1 ⟨rfl, b1⟩
    have B1 := Lib.hid (bt B0.out b1)
    clear b1 HM B0
    go_wp2
    (first | go_ret | (rw [Exit.noGoto_ret]; go_ret))
    exact ⟨rfl, B1.out⟩
  rw [Bool.true_and]
  have ZN2 := Lib.hid (ZN.out rfl)
  clear ZN
  go_enter Try.func21, Try.ntmps21
  go_wp2
  refine wp_scope_straight ?_
  go_wp2_with fail
  rw [HW.out]
  refine (HM.out _ B0.out).mono ?_
  rintro e w1 ⟨rfl, b1⟩
  have B1 := Lib.hid b1
  obtain ⟨c0, c1, c2, c3⟩ := SK.out _ b1
  clear b1 HM
  go_wp2_with fail
  refine (TW.out _ (BL.out _ B1.out)).mono ?_
  rintro e w2 ⟨ao2, ca2, rfl, o2, b2⟩
  have B2 := Lib.hid (bt B1.out b2)
  have O2 : Hid (w2.ownsRow wl.heap.size 48 3 (.slice ao2 nu ca2) nu (runs (C N))) := op_base o2 B1.out.size
  rw [R0.out] at O2 hnum ⊢
  clear b2 o2 TW B1 c0 c1 c2 c3 B0 HW R0
  go_wp2
  go_step3
  go_wp2
  go_loopw [5] (fun v wr => ∃ k ao cap, v = .slice ao (C k).length cap ∧ k ≤ N ∧ Hid (wr.ownsRow wl.heap.size 48 3 (.slice ao (C k).length cap) (C k).length (runs (C k))) ∧ Hid (ok k) ∧ (C k).length ≤ 64 ∧ Hid (Below wl.heap.size wl wr)) (fun v wr => totV wr v)
  case atStart => exact ⟨N, _, _, rfl, Nat.le_refl _, O2, OK0, hnum, B2⟩
  case round =>
    clear O2 OK0 hnum B2
    obtain ⟨k, ao2, ca2, rfl, hkN, hown, hok, hln, hbel⟩ := hrel
    cases k with
    | zero =>
      have hq := ZE.out hok.out
      have h0 : (C 0).length = 0 := by rw [Z00.out]; rfl
      rw [h0]
      subst hq
      clear hown hok hln ZB ZN2 ZS HC TR CP ZE Z00
      go_wp2
      (first | go_ret | (rw [Exit.noGoto_ret]; go_ret))
      exact ⟨rfl, BL.out _ hbel.out⟩
    | succ k =>
    obtain ⟨m1, m2, m3, m4⟩ := HC.out k (by omega)
    obtain ⟨hp1, hp2, hp3, _⟩ := (mayB_iff _).1 m1
    have ST := Lib.hid (ZS.out k hok.out)
    have NO := Lib.hid (ZN2.out k (by omega))
    have BR := Lib.hid (ZB.out (k + 1) hok.out)
    obtain ⟨P, hP⟩ : ∃ P, C (k + 1) = P := ⟨_, rfl⟩
    obtain ⟨a, ha⟩ : ∃ a, A k = a := ⟨_, rfl⟩
    rw [hP] at m1 m2 m3 m4 hp1 hp2 hp3 hown hln NO BR ⊢
    rw [ha] at m2 ST NO
    have HQL : Hid ((C k).length ≤ 64) := by
      unfold Hid
      have := down_len hp1
      rw [m3, this]
      split <;> omega
    have LS : Hid (∀ (W : World) (v : Value), Runs W v P → Calls Try.prog 38 #[v] W fun e w' => e = .returned (.agg #[.int .u32 (a.t : Int), .int .u8 (a.r : Int)]) ∧ Below W.heap.size W w') := fun W v h => by
      have := pLast_any h
      rwa [m2] at this
    have CU : Hid (∀ (W : World) (v : Value), W.ownsRow wl.heap.size 48 3 v P.length (runs P) → Calls Try.prog 39 #[v] W fun e w' => (∃ ao cap, e = .returned (.slice ao (C k).length cap) ∧ w'.ownsRow wl.heap.size 48 3 (.slice ao (C k).length cap) (C k).length (runs (C k))) ∧ Below wl.heap.size W w') := fun W v h => by
      have := vcut_any h hp1 (by omega) hp3
      rwa [← m3] at this
    have CC := Lib.hid (fun (W : World) (v : Value) h1 h2 => CP.out W v P h1 h2)
    have TT := Lib.hid (fun (W : World) h => TR.out W a h)
    have MS : Hid (totV wr (.slice ao2 P.length ca2) = k + 1) := (totV_runs (Runs.own hown.out)).trans m4
    have MS2 : Hid (∀ (W : World) (v : Value), W.ownsRow wl.heap.size 48 3 v (C k).length (runs (C k)) → totV W v = k) := fun W v h => by
      rw [totV_runs (Runs.own h)]
      cases k with
      | zero => rw [Z00.out]; rfl
      | succ k' => exact (HC.out k' (by omega)).2.2.2
    obtain ⟨c, hcc⟩ : ∃ c, cmp P F = c := ⟨_, rfl⟩
    simp only [hcc] at CC NO BR
    obtain ⟨hh, hhh⟩ : ∃ h, hasO l a = h := ⟨_, rfl⟩
    rw [hhh] at TT ST NO
    have RR : Hid (∀ W : World, Below wr.heap.size wr W → W.ownsRow wl.heap.size 48 3 (.slice ao2 P.length ca2) P.length (runs P)) := fun W h => own_stays hown.out h
    obtain ⟨n, hn⟩ : ∃ n, P.length = n := ⟨_, rfl⟩
    simp only [hn] at hown RR MS CU hp1 hp2 hln ⊢
    have HN := Lib.hid hn
    have t1 : decide ((0 : Int) < (n : Int)) = true := decide_eq_true (by omega)
    have t2 : decide (0 < n) = true := decide_eq_true hp1
    have s0 := SK.out _ hbel.out
    obtain ⟨c0, c1, c2, c3⟩ := s0
    clear ZB ZN2 ZS HC TR CP hok Z00 ZE m1 m2 m3 m4 hP ha hcc hhh hn hp3
    have D0 : Hid (∀ W : World, Below wr.heap.size wr W → Below w.heap.size w W) := fun W h => BL.out _ (bt hbel.out h)
    go_wp2_with fail
    refine (CC.out _ _ (D0.out _ (Below.refl _ _)) (by rw [← HN.out]; exact Runs.own (by rw [HN.out]; exact hown.out))).mono ?_
    rintro e w3 ⟨rfl, b3⟩
    have B3 := Lib.hid b3
    have KK : Hid (∀ W : World, Below w3.heap.size w3 W → Below w3.heap.size w3 W ∧ W.cell? ⟨w.heap.size, 2, none⟩ = some (.func (.func 55) #[] #[.pointer (some ⟨g, 0, none⟩)])) := fun W h => ⟨h, (SK.out W (bt hbel.out (bt B3.out h))).2.2.1⟩
    clear b3 CC c0 c1 c2 c3
    by_cases hlt : c < 0
    · have q1 : decide (c < 0) = true := decide_eq_true hlt
      have hq := BR.out hlt
      subst hq
      have BE := Lib.hid (BL.out _ (bt hbel.out B3.out))
      clear BR NO ST CU TT LS RR KK MS MS2 D0
      go_wp2
      (first | go_ret | (rw [Exit.noGoto_ret]; go_ret))
      exact ⟨rfl, BE.out⟩
    have q1 : decide (c < 0) = false := decide_eq_false hlt
    have NO2 := Lib.hid (NO.out (by first | exact hlt | omega))
    have LL : Hid (∀ W : World, Below wr.heap.size wr W → Calls Try.prog 38 #[.slice ao2 n ca2] W fun e w' => e = .returned (.agg #[.int .u32 (a.t : Int), .int .u8 (a.r : Int)]) ∧ Below W.heap.size W w') := fun W h => LS.out W _ (by rw [← HN.out]; exact Runs.own (by rw [HN.out]; exact RR.out W h))
    have TX : Hid (∀ W : World, Below w3.heap.size w3 W → Calls Try.prog 55 #[.agg #[.int .u32 (a.t : Int), .int .u8 (a.r : Int)], .pointer (some ⟨g, 0, none⟩)] W fun e w' => e = .returned (.bool hh) ∧ Below W.heap.size W w') := fun W h => TT.out W (D0.out W (bt B3.out h))
    have LX : Hid (∀ W : World, Below w3.heap.size w3 W → Calls Try.prog 38 #[.slice ao2 n ca2] W fun e w' => e = .returned (.agg #[.int .u32 (a.t : Int), .int .u8 (a.r : Int)]) ∧ Below W.heap.size W w') := fun W h => LL.out W (bt B3.out h)
    clear NO BR LS LL TT hlt
    go_wp2
    refine wp_region_held_drew (S := fun w' => Below w3.heap.size w3 w' ∧ w'.cell? ⟨w.heap.size, 2, none⟩ = some (.func (.func 55) #[] #[.pointer (some ⟨g, 0, none⟩)])) (by kernel_rfl) (KK.out _ (drew1 _)) (fun hHeld => ?_)
    refine wpAnyH_take (i := 0) (v := ?va0) rfl (by kernel_rfl) (by kernel_rfl) (by kernel_rfl) (fun _ _ _ h => h) (Or.inl ⟨by rfl, ?ya0⟩) (by assumption) ?_
    case ya0 => intro w hSw; (try dsimp only at hSw); go_simp <;> with_reducible rfl
    try simp only [List.getElem_toArray, List.getElem_cons_zero, Act.put, List.setIfInBounds_toArray, List.set_cons_zero, List.set_cons_succ]
    refine wpAnyH_take (i := 1) (v := ?va1) rfl (by kernel_rfl) (by kernel_rfl) (by kernel_rfl) (fun _ _ _ h => h) (Or.inl ⟨by rfl, ?ya1⟩) (by assumption) ?_
    case ya1 => intro w hSw; (try dsimp only at hSw); go_simp <;> with_reducible rfl
    try simp only [List.getElem_toArray, List.getElem_cons_succ, List.getElem_cons_zero, Act.put, List.setIfInBounds_toArray, List.set_cons_zero, List.set_cons_succ]
    refine wpAnyH_take (i := 2) (v := ?va2) rfl (by kernel_rfl) (by kernel_rfl) (by kernel_rfl) (fun _ _ _ h => h) (Or.inl ⟨by rfl, ?ya2⟩) (by assumption) ?_
    case ya2 => intro w hSw; (try dsimp only at hSw); go_simp <;> with_reducible rfl
    try simp only [List.getElem_toArray, List.getElem_cons_succ, List.getElem_cons_zero, Act.put, List.setIfInBounds_toArray, List.set_cons_zero, List.set_cons_succ]
    refine wpAnyH_ready (rs := [3]) (by kernel_rfl) (by simp) ?_
    refine AllReadyH.cons rfl (fun K hK => ?_) ?za3
    case za3 => exact AllReadyH.nil
    go_simp
    refine (LX.out _ hHeld.1).mono ?_
    rintro e w9a3 ⟨rfl, b9⟩
    refine hK.out _ _ (KK.out _ (bt hHeld.1 b9)) (fun hNew => ?_)
    clear hHeld
    have hHeld := hNew
    clear hNew hK K
    try simp only [List.getElem_toArray, List.getElem_cons_succ, List.getElem_cons_zero, Act.put, List.setIfInBounds_toArray, List.set_cons_zero, List.set_cons_succ]
    refine wpAnyH_ready (rs := [4]) (by kernel_rfl) (by simp) ?_
    refine AllReadyH.cons rfl (fun K hK => ?_) ?za4
    case za4 => exact AllReadyH.nil
    go_simp
    refine (TX.out _ hHeld.1).mono ?_
    rintro e w9a4 ⟨rfl, b9⟩
    refine hK.out _ _ (KK.out _ (bt hHeld.1 b9)) (fun hNew => ?_)
    clear hHeld
    have hHeld := hNew
    clear hNew hK K
    try simp only [List.getElem_toArray, List.getElem_cons_succ, List.getElem_cons_zero, Act.put, List.setIfInBounds_toArray, List.set_cons_zero, List.set_cons_succ]
    refine wpAnyH_take (i := 5) (v := ?va5) rfl (by kernel_rfl) (by kernel_rfl) (by kernel_rfl) (fun _ _ _ h => h) (Or.inl ⟨by rfl, ?ya5⟩) (by assumption) ?_
    case ya5 => intro w hSw; (try dsimp only at hSw); go_simp <;> with_reducible rfl
    try simp only [List.getElem_toArray, List.getElem_cons_succ, List.getElem_cons_zero, Act.put, List.setIfInBounds_toArray, List.set_cons_zero, List.set_cons_succ]
    refine wpAnyH_take (i := 6) (v := ?va6) rfl (by kernel_rfl) (by kernel_rfl) (by kernel_rfl) (fun _ _ _ h => h) (Or.inl ⟨by rfl, ?ya6⟩) (by assumption) ?_
    case ya6 => intro w hSw; (try dsimp only at hSw); go_simp <;> with_reducible rfl
    try simp only [List.getElem_toArray, List.getElem_cons_succ, List.getElem_cons_zero, Act.put, List.setIfInBounds_toArray, List.set_cons_zero, List.set_cons_succ]
    refine wpAnyH_done (by kernel_rfl) ?_ _
    have b4 := hHeld.1
    have B4 := Lib.hid (bt B3.out b4)
    clear b4 hHeld KK LX TX
    cases hh
    · have hq := NO2.out rfl
      subst hq
      have BE := Lib.hid (BL.out _ (bt hbel.out B4.out))
      clear NO2 ST CU RR MS MS2 D0 B3
      go_wp2
      (first | go_ret | (rw [Exit.noGoto_ret]; go_ret))
      exact ⟨rfl, BE.out⟩
    have OKK := Lib.hid (ST.out rfl)
    have CX := Lib.hid (CU.out _ _ (RR.out _ B4.out))
    clear NO2 ST CU RR D0 B3
    go_wp2_with fail
    refine CX.out.mono ?_
    rintro e w6 ⟨⟨ao6, ca6, rfl, o6⟩, b6⟩
    have O6 := Lib.hid o6
    have B6 : Hid (Below wl.heap.size wl w6) := (bt hbel.out B4.out).trans b6
    have M6 := Lib.hid (MS2.out _ _ o6)
    clear o6 b6 CX B4 MS2
    go_wp2
    go_roundw
    case rel => exact ⟨k, _, _, rfl, by omega, O6, OKK, HQL.out, B6⟩
    case measure =>
      have h1 := MS.out
      have h2 := M6.out
      first | omega | (rw [h1, h2]; omega) | (simp only [h1, h2]; omega)
end Go.Proofs.Ytdackenaknieaaa.Covers

/- What calls of cover answer: bounds. Conditions: none. -/
namespace Go.Proofs.Ytdackenaknieaaa.Covers
open Go.RowKit Go.WideShapes Stamp Go.Proofs.Ytdackenaknieaaa.Place Ops Codes Bags Marks Homes
attribute [local go_sem ↓] Go.wp_at_zero Go.wp_at_succ
attribute [local go_sem] yielded_undef

end Go.Proofs.Ytdackenaknieaaa.Covers

/- octavoref13.Home, Sections, Where, Begin: what each answers. Conditions: live marks that may be, in order; a place that may be, or the beginning. -/
namespace Go.Proofs.Ytdackenaknieaaa.Homes
open Go.RowKit Go.WideShapes Stamp Go.Proofs.Ytdackenaknieaaa.Place Ops Codes Bags Marks
attribute [local go_sem ↓] Go.wp_at_zero Go.wp_at_succ
attribute [local go_sem] yielded_undef

/-- Two cells of a block stored. -/
def put2 (X : World) (g : Nat) (d0 d1 : Value) : World := (X.setCell ⟨g, 0, none⟩ d0).setCell ⟨g, 1, none⟩ d1
theorem put2_same {X : World} {g : Nat} {c0 c1 : Value} (d0 d1 : Value) {e : TypeId} (h : X.heap[g]? = some (.cells #[c0, c1] e)) : (put2 X g d0 d1).heap[g]? = some (.cells #[d0, d1] e) := set_blk h
theorem put2_below {B g : Nat} {W X : World} (d0 d1 : Value) (hg : B ≤ g) (h : Below B W X) : Below B W (put2 X g d0 d1) := set_below hg h
theorem frz2 {X : World} {g : Nat} {cs : Array Value} {e : TypeId} (h : X.heap[g]? = some (.cells cs e)) (o : Nat) : X.frozen? ⟨g, o, none⟩ = false := by simp [World.frozen?, h]

/-- Stamps of the call's own. -/
def OwnI (w : World) (base : Nat) (v : Value) (l : List Id) : Prop := w.ownsRow base 32 2 v l.length (ids l)
theorem OwnI.of {w0 w : World} {v : Value} {l : List Id} (h : Shr idE 32 w0 w v l) : OwnI w w0.heap.size v l := by
  obtain ⟨cs, h1, h2⟩ := h
  unfold OwnI
  rw [← idE_rows h2]
  exact h1
end Go.Proofs.Ytdackenaknieaaa.Homes

/- octavoref09.Target, octavoref12.Ended, Joined, Directory: what each answers. Conditions: of Target and Ended: operations that may be. -/
namespace Go.Proofs.Ytdackenaknieaaa.Marks
open Go.RowKit Go.WideShapes Stamp Go.Proofs.Ytdackenaknieaaa.Place Ops Codes Bags
attribute [local go_sem ↓] Go.wp_at_zero Go.wp_at_succ
attribute [local go_sem] yielded_undef

end Go.Proofs.Ytdackenaknieaaa.Marks

/- octavoref12.Ids, Live: what each answers. Conditions: the slice's cells are operations; Live: of what Lives answers. -/
namespace Go.Proofs.Ytdackenaknieaaa.Marks
open Go.RowKit Go.WideShapes Stamp Go.Proofs.Ytdackenaknieaaa.Place Ops Codes Bags
attribute [local go_sem ↓] Go.wp_at_zero Go.wp_at_succ
attribute [local go_sem] yielded_undef

end Go.Proofs.Ytdackenaknieaaa.Marks

/- Slices whose elements hold slices of an elder world; append of a whole part to a row of one's own; what is left behind a cut. Conditions: none. -/
namespace Go.Proofs.Ytdackenaknieaaa
open Go.RowKit Go.WideShapes

open Go.Proofs.Ytdackenaknieaaa.Place Ops Codes Bags
end Go.Proofs.Ytdackenaknieaaa

/- octavoref12.Lives, Live: what each answers. Conditions: of Lives: operations that may be, not too many. -/
namespace Go.Proofs.Ytdackenaknieaaa.Marks
open Go.RowKit Go.WideShapes Stamp Go.Proofs.Ytdackenaknieaaa.Place Ops Codes Bags
attribute [local go_sem ↓] Go.wp_at_zero Go.wp_at_succ
attribute [local go_sem] yielded_undef

end Go.Proofs.Ytdackenaknieaaa.Marks

/- octavoref13.Where, Begin, All, Of, Ahead, Span: what each answers. Conditions: the slices' cells are operations, runs. -/
namespace Go.Proofs.Ytdackenaknieaaa.Homes
open Go.RowKit Go.WideShapes Stamp Go.Proofs.Ytdackenaknieaaa.Place Ops Codes Bags Marks
attribute [local go_sem ↓] Go.wp_at_zero Go.wp_at_succ
attribute [local go_sem] yielded_undef

theorem where_is {live : List Opn} {s : Id} {j : Nat} (hj : j < (sectsM live).length) (h1 : ∀ i (h : i < (sectsM live).length), i < j → (sectsM live)[i]'h ≠ s) (h2 : (sectsM live)[j]'hj = s) : whereM live s = j := by
  have : whereN live s = j := by
    unfold whereN
    rw [List.findIdx_eq hj]
    exact ⟨by simpa using h2, fun i hi => by simpa using h1 i (by omega) hi⟩
  unfold whereM
  rw [this, if_pos (by rw [← sectsM_len]; exact hj)]
theorem where_no {live : List Opn} {s : Id} (h1 : ∀ i (h : i < (sectsM live).length), (sectsM live)[i]'h ≠ s) : whereM live s = -1 := by
  unfold whereM
  rw [if_neg]
  intro h
  have h' : whereN live s < (sectsM live).length := by rw [sectsM_len]; exact h
  have := List.findIdx_getElem (p := fun x => decide (x = s)) (xs := sectsM live) (w := h')
  exact h1 _ h' (of_decide_eq_true this)
theorem getD_get {l : List Id} {j : Nat} (h : j < l.length) : l.getD j zid = l[j]'h := by rw [List.getD_eq_getElem?_getD, List.getElem?_eq_getElem h]; rfl

end Go.Proofs.Ytdackenaknieaaa.Homes

/- octavoref13.Begin, All, Of, Ahead, Span: what each answers. Conditions: the slices' cells are operations, runs. -/
namespace Go.Proofs.Ytdackenaknieaaa.Homes
open Go.RowKit Go.WideShapes Stamp Go.Proofs.Ytdackenaknieaaa.Place Ops Codes Bags Marks
attribute [local go_sem ↓] Go.wp_at_zero Go.wp_at_succ
attribute [local go_sem] yielded_undef

theorem begin_low {live : List Opn} {a : Int} (h : a < 1) : beginM live a = [] := by unfold beginM; rw [if_neg (by omega)]
theorem begin_high {live : List Opn} {a : Int} (h : (live.length : Int) < a) : beginM live a = [] := by unfold beginM; rw [if_neg (by omega)]
/-- Stamps of the call's own, and an error. -/
def AllI (L : List Id) (x : Int) (w : World) (e : Ending) (w' : World) : Prop := ∃ ao cap, e = .returned (.tuple #[.slice ao L.length cap, .int .i64 x]) ∧ OwnI w' w.heap.size (.slice ao L.length cap) L ∧ Below w.heap.size w w'
/-- A stamp, and an error. -/
def OneI (a : Id) (x : Int) (w : World) (e : Ending) (w' : World) : Prop := e = .returned (.tuple #[.agg #[.int .u32 (a.t : Int), .int .u8 (a.r : Int)], .int .i64 x]) ∧ Below w.heap.size w w'
theorem lives_fits {l : List Opn} (h : Bag l) : (livesM l l).length ≤ 1024 ∧ ∀ o ∈ livesM l l, mayO o = true := ⟨Nat.le_trans (livesM_le l l) h.1, lives_may h.2.1⟩

end Go.Proofs.Ytdackenaknieaaa.Homes

/- What calls of home answer. Conditions: none. -/
namespace Go.Proofs.Ytdackenaknieaaa.Homes
open Go.RowKit Go.WideShapes Stamp Go.Proofs.Ytdackenaknieaaa.Place Ops Codes Bags Marks
/-- Two rows of the call's own (they may lie in one block), and an error. -/
def TwoR (A B : List Run) (x : Int) (w : World) (e : Ending) (w' : World) : Prop := ∃ va vb, e = .returned (.tuple #[va, vb, .int .i64 x]) ∧ w'.ownsRow w.heap.size 48 3 va A.length (runs A) ∧ w'.ownsRow w.heap.size 48 3 vb B.length (runs B) ∧ Below w.heap.size w w'
/-- A slice value whose cells may be written over: its block lies from base on. -/
def Wk (w : World) (base : Nat) (ao : Option Addr) (n : Nat) : Prop := n = 0 ∨ ∃ g cur, ao = some ⟨g, 0, none⟩ ∧ base ≤ g ∧ w.heap[g]? = some (.cells cur 48 (0, 0)) ∧ n * 3 ≤ cur.size
theorem Wk.of {w : World} {base n cap : Nat} {ao : Option Addr} {cs : List Value} (h : w.ownsRow base 48 3 (.slice ao n cap) n cs) : Wk w base ao n := by
  rcases h.2 with ⟨hv, h0⟩ | ⟨g, c2, cur, hv, hb, h1, h2, h3, h4, h5⟩
  · exact .inl h0
  · obtain ⟨rfl, -, rfl⟩ := Value.slice.inj hv
    exact .inr ⟨g, cur, rfl, hb, h1, by rw [h4]; exact Nat.mul_le_mul_right 3 h2⟩
theorem Wk.keeps {w w' : World} {base n : Nat} {ao : Option Addr} (h : Wk w base ao n) (hb : Below w.heap.size w w') : Wk w' base ao n :=
  h.imp id fun ⟨g, cur, h1, h2, h3, h4⟩ => ⟨g, cur, h1, h2, blk_below hb h3, h4⟩
theorem Wk.set {w : World} {base n g j : Nat} {ao : Option Addr} {u : Value} (h : Wk w base ao n) : Wk (w.setCell ⟨g, j, none⟩ u) base ao n := by
  refine h.imp id fun ⟨q, cur, h1, h2, h3, h4⟩ => ?_
  by_cases e : q = g
  · subst e
    exact ⟨q, _, h1, h2, heap_setCell_same w q j cur _ u h3, by rw [Array.size_setIfInBounds]; exact h4⟩
  · exact ⟨q, cur, h1, h2, (heap_setCell_other w ⟨g, j, none⟩ q u e).trans h3, h4⟩
theorem Wk.at {w : World} {base n k : Nat} {ao : Option Addr} (h : Wk w base ao n) (hk : k < n) : ∃ g u, ao = some ⟨g, 0, none⟩ ∧ base ≤ g ∧ w.cell? ⟨g, k * 3 + 2, none⟩ = some u ∧ w.frozen? ⟨g, k * 3 + 2, none⟩ = false := by
  rcases h with h | ⟨g, cur, h1, h2, h3, h4⟩
  · omega
  · have hj : k * 3 + 2 < cur.size := by omega
    exact ⟨g, cur[k * 3 + 2]'hj, h1, h2, (cell_of_row _ g (k * 3 + 2) cur _ _ h3).trans (Array.getElem?_eq_getElem hj), by simp [World.frozen?, h3]⟩
end Go.Proofs.Ytdackenaknieaaa.Homes

/- octavoref13.Ahead, Span: what each answers. Conditions: the slice's cells are operations. -/
namespace Go.Proofs.Ytdackenaknieaaa.Homes
open Go.RowKit Go.WideShapes Stamp Go.Proofs.Ytdackenaknieaaa.Place Ops Codes Bags Marks
attribute [local go_sem ↓] Go.wp_at_zero Go.wp_at_succ
attribute [local go_sem] yielded_undef

theorem where_lo (live : List Opn) (s : Id) : -1 ≤ whereM live s ∧ whereM live s ≤ live.length := by
  unfold whereM
  split <;> omega
end Go.Proofs.Ytdackenaknieaaa.Homes

/- octavo/home.name, begin, number: what each answers. Conditions: the slice's cells are operations, not more than a million. -/
namespace Go.Proofs.Ytdackenaknieaaa.Homes
open Go.RowKit Go.WideShapes Stamp Go.Proofs.Ytdackenaknieaaa.Place Ops Codes Bags Marks
attribute [local go_sem ↓] Go.wp_at_zero Go.wp_at_succ
attribute [local go_sem] yielded_undef

theorem sects_succ {live : List Opn} {j : Nat} (h : j < live.length) : (sectsM live).getD (j + 1) zid = idO (live[j]'h) := by
  unfold sectsM
  rw [List.getD_cons_succ, List.getD_eq_getElem?_getD, List.getElem?_map, List.getElem?_eq_getElem h]
  rfl
set_option maxRecDepth 100000 in
set_option maxHeartbeats 4000000 in
theorem hName_any {v : Value} {live : List Opn} {w : World} (hv : OpL w v live) (hl : live.length ≤ 1000000) (i : Nat) (hi : i ≤ live.length) :
    Calls Try.prog 18 #[v, .int .i64 (i : Int)] w fun e w' => e = .returned (.agg #[.int .u32 (((sectsM live).getD i zid).t : Int), .int .u8 (((sectsM live).getD i zid).r : Int)]) ∧ Below w.heap.size w w' := by
  obtain ⟨ao, cap, rfl⟩ := hv.shape
  by_cases h0 : i = 0
  · subst h0
    have e1 : (sectsM live).getD 0 zid = zid := rfl
    rw [e1]
    generalize live.length = n
    clear e1 hv hl hi
    go_enter Try.func18, Try.ntmps18
    go_wp2
    refine bodyPost_ret (v := .agg #[.int .u32 0, .int .u8 0]) (by simp [results, Try.results18, go_sem]) rfl ⟨rfl, ?_⟩
    exact (Below.refl _ _).alloc (Nat.le_refl _) _
  obtain ⟨j, rfl⟩ : ∃ j, i = j + 1 := ⟨i - 1, by omega⟩
  have hjl : j < live.length := by omega
  rw [sects_succ hjl]
  have B0 : Below w.heap.size w (w.alloc (.cells #[.int .u32 0, .int .u8 0] 32)) := (Below.refl _ _).alloc (Nat.le_refl _) _
  obtain ⟨bb, oo, y, e, hbb, hru, h0, h1, h2, h3, h4⟩ := opl_at (hv.keeps B0) j hjl
  subst e
  obtain ⟨x, hx⟩ : ∃ x, live[j]'hjl = x := ⟨_, rfl⟩
  rw [hx] at h1 h2 ⊢
  obtain ⟨k, t, r, l, p, hk, ht, hr, hp⟩ := x
  simp only [idO] at h1 h2 ⊢
  obtain ⟨bb', oo', y', e', hbb', _⟩ := opl_at hv j hjl
  cases e'
  obtain ⟨n, hn⟩ : ∃ n, live.length = n := ⟨_, rfl⟩
  rw [hn] at hl hjl hi ⊢
  have e1 : ((j + 1 : Nat) : Int) = (j : Int) + 1 := by omega
  have q0 : ¬ ((j : Int) + 1 = 0) := by omega
  have q1 : decide ((j : Int) + 1 = 0) = false := decide_eq_false q0
  have q2 : (j : Int) + 1 - 1 = (j : Int) := by omega
  have q3 : IntKind.i64.wrap (j : Int) = (j : Int) := IntWalk.i64_in _ (by omega)
  have q4 : (0 : Int) ≤ (j : Int) := by omega
  have q5 : (j : Int) < (n : Int) := by omega
  have hne : ¬ bb = w.heap.size := by omega
  rw [e1]
  clear hv h3 h4 hru hx hn B0 e1 hbb
  go_enter Try.func18, Try.ntmps18
  go_wp2
  refine bodyPost_ret (v := .agg #[.int .u32 (t : Int), .int .u8 (r : Int)]) (by simp [results, Try.results18, go_sem]) rfl ⟨rfl, ?_⟩
  exact (Below.refl _ _).alloc (Nat.le_refl _) _

theorem holdP_at {w : World} {base : Nat} : ∀ {cs : List Value} {l : List Opn}, HoldP w base cs l → ∀ k (h : k < l.length), ∃ y, cs[k * 5 + 3]? = some y ∧ w.ownsRow base 48 3 y (l[k]'h).pl.length (runs (l[k]'h).pl)
  | _, [], _, k, h => by simp at h
  | _, o :: l, ⟨v, d, h1, h2, h3⟩, 0, h => ⟨v, by rw [h1]; rfl, h2⟩
  | _, o :: l, ⟨v, d, h1, h2, h3⟩, k + 1, h => by
    obtain ⟨y, e1, e2⟩ := holdP_at h3 k (by simpa using h)
    refine ⟨y, ?_, by simpa using e2⟩
    rw [h1, List.getElem?_append_right (by simp only [List.length_cons, List.length_nil]; omega)]
    rw [show (k + 1) * 5 + 3 - [Value.int .u8 (o.k : Int), .int .u32 (o.t : Int), .int .u8 (o.r : Int), v, .int .i64 o.p].length = k * 5 + 3 by simp only [List.length_cons, List.length_nil]; omega]
    exact e1
theorem ownL_at {w : World} {base : Nat} {v : Value} {l : List Opn} (hv : OwnL w base v l) (k : Nat) (h : k < l.length) :
    ∃ g cap y, v = .slice (some ⟨g, 0, none⟩) l.length cap ∧ w.cell? ⟨g, k * 5 + 3, none⟩ = some y ∧ w.ownsRow base 48 3 y (l[k]'h).pl.length (runs (l[k]'h).pl) := by
  obtain ⟨cs, h1, h2⟩ := hv
  obtain ⟨y, e1, e2⟩ := holdP_at h2 k h
  rcases h1.2 with ⟨_, h0⟩ | ⟨g, cap, cur, rfl, _⟩
  · omega
  · exact ⟨g, cap, y, rfl, by rw [h1.cellAt (k * 5 + 3) (by omega), e1], e2⟩
theorem own_slice {w : World} {base n : Nat} {e : TypeId} {v : Value} {cs : List Value} (h : w.ownsRow base e 3 v n cs) : ∃ ao cap, v = .slice ao n cap := by
  rcases h.2 with ⟨hv, h0⟩ | ⟨g, c2, cur, hv, hb, _⟩
  · rw [h0]; exact ⟨_, _, hv⟩
  · exact ⟨_, _, hv⟩
set_option maxRecDepth 100000 in
set_option maxHeartbeats 4000000 in
theorem hBegin_any {v : Value} {live : List Opn} {base : Nat} {w : World} (hv : OwnL w base v live) (i : Nat) (hi2 : i ≤ 1000001) :
    Calls Try.prog 54 #[v, .int .i64 (i : Int)] w fun e w' => (∃ ao cap, e = .returned (.slice ao (beginM live i).length cap) ∧ w.ownsRow base 48 3 (.slice ao (beginM live i).length cap) (beginM live i).length (runs (beginM live i))) ∧ w' = w := by
  obtain ⟨ao, cap, rfl⟩ := hv.opl.shape
  by_cases h0 : i = 0
  · subst h0
    rw [begin_low (by omega)]
    obtain ⟨n, hn⟩ : ∃ n, live.length = n := ⟨_, rfl⟩
    rw [hn]
    clear hv hn hi2
    go_enter Try.func54, Try.ntmps54
    go_wp2
    go_ret
    exact ⟨⟨_, _, rfl, World.ownsRow_nil _ _ _ _⟩, rfl⟩
  have q1 : decide ((i : Int) = 0) = false := decide_eq_false (by omega)
  have q0 : ¬ ((i : Int) = 0) := by omega
  by_cases hi : live.length < i
  · rw [begin_high (by omega)]
    obtain ⟨n, hn⟩ : ∃ n, live.length = n := ⟨_, rfl⟩
    rw [hn] at hi ⊢
    have q2 : decide (n < i) = true := decide_eq_true hi
    have q3 : decide ((n : Int) < (i : Int)) = true := decide_eq_true (by omega)
    clear hv hn
    go_enter Try.func54, Try.ntmps54
    go_wp2
    go_ret
    exact ⟨⟨_, _, rfl, World.ownsRow_nil _ _ _ _⟩, rfl⟩
  obtain ⟨j, hj⟩ : ∃ j, j = i - 1 := ⟨_, rfl⟩
  have hjl : j < live.length := by omega
  have hbg := begin_succ hjl
  have q4 : (i : Int) - 1 = (j : Int) := by omega
  rw [show (j : Int) + 1 = (i : Int) by omega] at hbg
  obtain ⟨g, cap', y, e, h3, ho⟩ := ownL_at hv j hjl
  cases e
  rw [hbg]
  obtain ⟨R, hR⟩ : ∃ z, (live[j]'hjl).pl = z := ⟨_, rfl⟩
  rw [hR] at ho ⊢
  obtain ⟨n, hn⟩ : ∃ n, live.length = n := ⟨_, rfl⟩
  rw [hn] at hjl hi ⊢
  obtain ⟨yo, yc, rfl⟩ := own_slice ho
  have HO := Lib.hid ho
  have q2 : decide (n < i) = false := decide_eq_false hi
  have q3 : decide ((n : Int) < (i : Int)) = false := decide_eq_false (by omega)
  have q5 : IntKind.i64.wrap (j : Int) = (j : Int) := IntWalk.i64_in _ (by omega)
  have q6 : (0 : Int) ≤ (j : Int) := by omega
  have q7 : (j : Int) < (n : Int) := by omega
  obtain ⟨m, hm⟩ : ∃ m, R.length = m := ⟨_, rfl⟩
  rw [hm] at HO h3 ⊢
  clear hv hn ho hj hbg hR hm
  go_enter Try.func54, Try.ntmps54
  go_wp2
  go_ret
  exact ⟨⟨_, _, rfl, HO.out⟩, rfl⟩

/-- The number of a section, and whether it is one. -/
def NumI (x : Int) (e : Ending) : Prop := e = .returned (.tuple #[.int .i64 (if 0 ≤ x then x else 0), .bool (decide (0 ≤ x))])
set_option maxRecDepth 100000 in
set_option maxHeartbeats 8000000 in
theorem hNumber_any {v : Value} {live : List Opn} (s : Id) {w : World} (hv : OpL w v live) (hl : live.length ≤ 1000000) :
    Calls Try.prog 53 #[v, .agg #[.int .u32 (s.t : Int), .int .u8 (s.r : Int)]] w fun e w' => NumI (whereM live s) e ∧ Below w.heap.size w w' := by
  obtain ⟨ao, cap, rfl⟩ := hv.shape
  obtain ⟨wl, hwl⟩ : ∃ x, x = w.alloc (.cells #[.int .u32 (s.t : Int), .int .u8 (s.r : Int)] 32) := ⟨_, rfl⟩
  have B0 : Hid (Below w.heap.size w wl) := by rw [hwl]; exact (Below.refl _ _).alloc (Nat.le_refl _) _
  have P0 : Hid (Pair wl w.heap.size (.int .u32 (s.t : Int)) (.int .u8 (s.r : Int))) := by rw [hwl]; exact pair_new _ _ _ _
  have HW := Lib.hid hwl
  have NA : Hid (∀ (W : World) (i : Nat), Below w.heap.size w W → i ≤ live.length → Calls Try.prog 18 #[.slice ao live.length cap, .int .i64 (i : Int)] W fun e w' => e = .returned (.agg #[.int .u32 (((sectsM live).getD i zid).t : Int), .int .u8 (((sectsM live).getD i zid).r : Int)]) ∧ Below W.heap.size W w') := fun W i h hi => hName_any (hv.keeps h) hl i hi
  have HN : Hid (live.length + 1 = (sectsM live).length) := (sectsM_len live).symm
  have HY : Hid (∀ j (hj : j < (sectsM live).length), (∀ i (h : i < (sectsM live).length), i < j → (sectsM live)[i]'h ≠ s) → (sectsM live)[j]'hj = s → whereM live s = j) := fun j hj h1 h2 => where_is hj h1 h2
  have HZ : Hid ((∀ i (h : i < (sectsM live).length), (sectsM live)[i]'h ≠ s) → whereM live s = -1) := fun h => where_no h
  obtain ⟨q, hq⟩ : ∃ q, whereM live s = q := ⟨_, rfl⟩
  rw [hq] at HY HZ ⊢
  obtain ⟨L, hL⟩ : ∃ z, sectsM live = z := ⟨_, rfl⟩
  rw [hL] at NA HN HY HZ
  obtain ⟨n, hn⟩ : ∃ n, live.length = n := ⟨_, rfl⟩
  rw [hn] at NA HN hl ⊢
  obtain ⟨N, hNN⟩ : ∃ N, n + 1 = N := ⟨_, rfl⟩
  have hNm : N ≤ 1000001 := by omega
  have e0 : (n : Int) + 1 = (N : Int) := by omega
  have e1 : IntKind.i64.wrap (N : Int) = (N : Int) := IntWalk.i64_in _ (by omega)
  rw [hNN] at HN
  have NB : Hid (∀ (W : World) (i : Nat), Below w.heap.size w W → i < N → Calls Try.prog 18 #[.slice ao n cap, .int .i64 (i : Int)] W fun e w' => e = .returned (.agg #[.int .u32 ((L.getD i zid).t : Int), .int .u8 ((L.getD i zid).r : Int)]) ∧ Below W.heap.size W w') := fun W i h hi => NA.out W i h (by omega)
  obtain ⟨S, hS⟩ : ∃ z, s = z := ⟨_, rfl⟩
  have HSI : Hid (∀ x : Id, x = s ↔ x.t = s.t ∧ x.r = s.r) := fun x => Id.eq_iff
  rw [hS] at HY HZ
  have HSE : Hid (∀ x : Id, x = S ↔ x.t = s.t ∧ x.r = s.r) := by rw [← hS]; exact HSI.out
  obtain ⟨ts, rs, hts, hrs⟩ := s
  simp only at P0 HSE HW ⊢
  have HGO : Hid (∀ e (W : World), NumI q e → Below w.heap.size w W → NumI q e ∧ Below w.heap.size w W) := fun e W h1 h2 => ⟨h1, h2⟩
  have HQ1 : Hid (∀ j : Nat, q = (j : Int) → NumI q (.returned (.tuple #[.int .i64 (j : Int), .bool true]))) := fun j h => by
    unfold NumI
    rw [h, if_pos (by omega), decide_eq_true (by omega)]
  have HQ0 : Hid (q = -1 → NumI q (.returned (.tuple #[.int .i64 0, .bool false]))) := fun h => by
    unfold NumI
    rw [h, if_neg (by omega), decide_eq_false (by omega)]
  clear hv hq hL hn hl hS HSI hwl NA hNN
  go_enter Try.func53, Try.ntmps53
  go_wp2
  rw [← HW.out]
  go_loopw [10] (fun i wr => ∃ j : Nat, j ≤ N ∧ i = .int .i64 (j : Int) ∧ Hid (∀ k (h : k < L.length), k < j → L[k]'h ≠ S) ∧ Hid (Below wl.heap.size wl wr)) (fun i _ => N - (intOf i).toNat)
  case atStart => exact ⟨0, by omega, rfl, fun k h hk => by omega, Below.refl _ _⟩
  case round =>
    obtain ⟨j, hj, rfl, hno, hbel⟩ := hrel
    have BW := Lib.hid (bt B0.out hbel.out)
    by_cases hjn : j < N
    rotate_left
    · have q3 : decide (j < N) = false := by simpa using hjn
      have HR := Lib.hid (HQ0.out (HZ.out (fun i h => hno.out i h (by have := HN.out; omega))))
      go_wp2
      go_ret2
      exact HGO.out _ _ HR.out BW.out
    have q3 : decide (j < N) = true := by simpa using hjn
    have hjl : j < L.length := by rw [← HN.out]; exact hjn
    have NX := Lib.hid (fun W (h : Below wr.heap.size wr W) => NB.out W j (bt BW.out h) hjn)
    rw [getD_get hjl] at NX
    obtain ⟨x, hx⟩ : ∃ x, L[j]'hjl = x := ⟨_, rfl⟩
    rw [hx] at NX
    have HX : Hid (L[j]'hjl = x) := hx
    have HXS := Lib.hid (HSE.out x)
    obtain ⟨t, r, ht, hr⟩ := x
    simp only at NX HXS
    have SK : Hid (∀ w' : World, Below wr.heap.size wr w' → Below wr.heap.size wr w' ∧ w'.cell? ⟨w.heap.size, 0, none⟩ = some (.int .u32 (ts : Int)) ∧ w'.cell? ⟨w.heap.size, 1, none⟩ = some (.int .u8 (rs : Int))) := fun W h => by
      have p := P0.out.keeps (bt hbel.out h)
      exact ⟨h, p.2.1, p.2.2⟩
    clear hx
    by_cases he : t = ts ∧ r = rs
    · obtain ⟨rfl, rfl⟩ := he
      have HR := Lib.hid (HQ1.out j (HY.out j hjl hno.out (by rw [HX.out]; exact HXS.out.2 ⟨rfl, rfl⟩)))
      clear HXS HX HY HZ HQ0 HQ1 hno NB
      go_wp2
      refine wp_region_held_drew (S := fun w' => Below wr.heap.size wr w' ∧ w'.cell? ⟨w.heap.size, 0, none⟩ = some (.int .u32 (t : Int)) ∧ w'.cell? ⟨w.heap.size, 1, none⟩ = some (.int .u8 (r : Int))) (by kernel_rfl) (SK.out _ (drew1 _)) (fun hHeld => ?_)
      refine wpAnyH_take (i := 0) (v := ?va0) rfl (by kernel_rfl) (by kernel_rfl) (by kernel_rfl) (fun _ _ _ h => h) (Or.inl ⟨by rfl, ?ya0⟩) (by assumption) ?_
      case ya0 => intro w hSw; (try dsimp only at hSw); go_simp <;> with_reducible rfl
      try simp only [List.getElem_toArray, List.getElem_cons_zero, Act.put, List.setIfInBounds_toArray, List.set_cons_zero, List.set_cons_succ]
      refine wpAnyH_take (i := 1) (v := ?va1) rfl (by kernel_rfl) (by kernel_rfl) (by kernel_rfl) (fun _ _ _ h => h) (Or.inl ⟨by rfl, ?ya1⟩) (by assumption) ?_
      case ya1 => intro w hSw; (try dsimp only at hSw); go_simp <;> with_reducible rfl
      try simp only [List.getElem_toArray, List.getElem_cons_succ, List.getElem_cons_zero, Act.put, List.setIfInBounds_toArray, List.set_cons_zero, List.set_cons_succ]
      refine wpAnyH_take (i := 3) (v := ?va3) rfl (by kernel_rfl) (by kernel_rfl) (by kernel_rfl) (fun _ _ _ h => h) (Or.inl ⟨by rfl, ?ya3⟩) (by assumption) ?_
      case ya3 => intro w hSw; (try dsimp only at hSw); go_simp <;> with_reducible rfl
      try simp only [List.getElem_toArray, List.getElem_cons_succ, List.getElem_cons_zero, Act.put, List.setIfInBounds_toArray, List.set_cons_zero, List.set_cons_succ]
      refine wpAnyH_ready (rs := [2]) (by kernel_rfl) (by simp) ?_
      refine AllReadyH.cons rfl (fun K hK => ?_) ?za2
      case za2 => exact AllReadyH.nil
      go_simp
      refine (NX.out _ hHeld.1).mono ?_
      rintro e w9a2 ⟨rfl, b9⟩
      refine hK.out _ _ (SK.out _ (bt hHeld.1 b9)) (fun hNew => ?_)
      clear hHeld
      have hHeld := hNew
      clear hNew hK K
      try simp only [List.getElem_toArray, List.getElem_cons_succ, List.getElem_cons_zero, Act.put, List.setIfInBounds_toArray, List.set_cons_zero, List.set_cons_succ]
      refine wpAnyH_take (i := 4) (v := ?va4) rfl (by kernel_rfl) (by kernel_rfl) (by kernel_rfl) (fun _ _ _ h => h) (Or.inl ⟨by rfl, ?ya4⟩) (by assumption) ?_
      case ya4 => intro w hSw; (try dsimp only at hSw); go_simp <;> with_reducible rfl
      try simp only [List.getElem_toArray, List.getElem_cons_succ, List.getElem_cons_zero, Act.put, List.setIfInBounds_toArray, List.set_cons_zero, List.set_cons_succ]
      refine wpAnyH_done (by kernel_rfl) ?_ _
      go_wp2
      go_ret2
      exact HGO.out _ _ HR.out (bt BW.out hHeld.1)
    have NO : Hid (∀ k (h : k < L.length), k < j + 1 → L[k]'h ≠ S) := fun k h hk => by
      by_cases e : k = j
      · subst e
        rw [HX.out]
        intro e2
        exact he (HXS.out.1 e2)
      · exact hno.out k h (by omega)
    have hne : ¬ t = ts ∨ (t = ts ∧ ¬ r = rs) := by
      by_cases h : t = ts
      · exact .inr ⟨h, fun h2 => he ⟨h, h2⟩⟩
      · exact .inl h
    clear HXS HX HY HZ HQ0 HQ1 hno NB he
    rcases hne with hne | ⟨rfl, hne⟩
    · have hi : ¬ ((t : Int) = (ts : Int)) := by omega
      go_wp2
      refine wp_region_held_drew (S := fun w' => Below wr.heap.size wr w' ∧ w'.cell? ⟨w.heap.size, 0, none⟩ = some (.int .u32 (ts : Int)) ∧ w'.cell? ⟨w.heap.size, 1, none⟩ = some (.int .u8 (rs : Int))) (by kernel_rfl) (SK.out _ (drew1 _)) (fun hHeld => ?_)
      refine wpAnyH_take (i := 0) (v := ?vb0) rfl (by kernel_rfl) (by kernel_rfl) (by kernel_rfl) (fun _ _ _ h => h) (Or.inl ⟨by rfl, ?yb0⟩) (by assumption) ?_
      case yb0 => intro w hSw; (try dsimp only at hSw); go_simp <;> with_reducible rfl
      try simp only [List.getElem_toArray, List.getElem_cons_zero, Act.put, List.setIfInBounds_toArray, List.set_cons_zero, List.set_cons_succ]
      refine wpAnyH_take (i := 1) (v := ?vb1) rfl (by kernel_rfl) (by kernel_rfl) (by kernel_rfl) (fun _ _ _ h => h) (Or.inl ⟨by rfl, ?yb1⟩) (by assumption) ?_
      case yb1 => intro w hSw; (try dsimp only at hSw); go_simp <;> with_reducible rfl
      try simp only [List.getElem_toArray, List.getElem_cons_succ, List.getElem_cons_zero, Act.put, List.setIfInBounds_toArray, List.set_cons_zero, List.set_cons_succ]
      refine wpAnyH_take (i := 3) (v := ?vb3) rfl (by kernel_rfl) (by kernel_rfl) (by kernel_rfl) (fun _ _ _ h => h) (Or.inl ⟨by rfl, ?yb3⟩) (by assumption) ?_
      case yb3 => intro w hSw; (try dsimp only at hSw); go_simp <;> with_reducible rfl
      try simp only [List.getElem_toArray, List.getElem_cons_succ, List.getElem_cons_zero, Act.put, List.setIfInBounds_toArray, List.set_cons_zero, List.set_cons_succ]
      refine wpAnyH_ready (rs := [2]) (by kernel_rfl) (by simp) ?_
      refine AllReadyH.cons rfl (fun K hK => ?_) ?zb2
      case zb2 => exact AllReadyH.nil
      go_simp
      refine (NX.out _ hHeld.1).mono ?_
      rintro e w9b2 ⟨rfl, b9⟩
      refine hK.out _ _ (SK.out _ (bt hHeld.1 b9)) (fun hNew => ?_)
      clear hHeld
      have hHeld := hNew
      clear hNew hK K
      try simp only [List.getElem_toArray, List.getElem_cons_succ, List.getElem_cons_zero, Act.put, List.setIfInBounds_toArray, List.set_cons_zero, List.set_cons_succ]
      refine wpAnyH_take (i := 4) (v := ?vb4) rfl (by kernel_rfl) (by kernel_rfl) (by kernel_rfl) (fun _ _ _ h => h) (Or.inl ⟨by rfl, ?yb4⟩) (by assumption) ?_
      case yb4 => intro w hSw; (try dsimp only at hSw); go_simp <;> with_reducible rfl
      try simp only [List.getElem_toArray, List.getElem_cons_succ, List.getElem_cons_zero, Act.put, List.setIfInBounds_toArray, List.set_cons_zero, List.set_cons_succ]
      refine wpAnyH_done (by kernel_rfl) ?_ _
      go_wp2
      go_roundw
      case rel => exact ⟨j + 1, by omega, by go_num, NO, Lib.hid (bt hbel.out hHeld.1)⟩
      case measure => simp [intOf]; omega
    · have hi : ¬ ((r : Int) = (rs : Int)) := by omega
      go_wp2
      refine wp_region_held_drew (S := fun w' => Below wr.heap.size wr w' ∧ w'.cell? ⟨w.heap.size, 0, none⟩ = some (.int .u32 (t : Int)) ∧ w'.cell? ⟨w.heap.size, 1, none⟩ = some (.int .u8 (rs : Int))) (by kernel_rfl) (SK.out _ (drew1 _)) (fun hHeld => ?_)
      refine wpAnyH_take (i := 0) (v := ?vc0) rfl (by kernel_rfl) (by kernel_rfl) (by kernel_rfl) (fun _ _ _ h => h) (Or.inl ⟨by rfl, ?yc0⟩) (by assumption) ?_
      case yc0 => intro w hSw; (try dsimp only at hSw); go_simp <;> with_reducible rfl
      try simp only [List.getElem_toArray, List.getElem_cons_zero, Act.put, List.setIfInBounds_toArray, List.set_cons_zero, List.set_cons_succ]
      refine wpAnyH_take (i := 1) (v := ?vc1) rfl (by kernel_rfl) (by kernel_rfl) (by kernel_rfl) (fun _ _ _ h => h) (Or.inl ⟨by rfl, ?yc1⟩) (by assumption) ?_
      case yc1 => intro w hSw; (try dsimp only at hSw); go_simp <;> with_reducible rfl
      try simp only [List.getElem_toArray, List.getElem_cons_succ, List.getElem_cons_zero, Act.put, List.setIfInBounds_toArray, List.set_cons_zero, List.set_cons_succ]
      refine wpAnyH_take (i := 3) (v := ?vc3) rfl (by kernel_rfl) (by kernel_rfl) (by kernel_rfl) (fun _ _ _ h => h) (Or.inl ⟨by rfl, ?yc3⟩) (by assumption) ?_
      case yc3 => intro w hSw; (try dsimp only at hSw); go_simp <;> with_reducible rfl
      try simp only [List.getElem_toArray, List.getElem_cons_succ, List.getElem_cons_zero, Act.put, List.setIfInBounds_toArray, List.set_cons_zero, List.set_cons_succ]
      refine wpAnyH_ready (rs := [2]) (by kernel_rfl) (by simp) ?_
      refine AllReadyH.cons rfl (fun K hK => ?_) ?zc2
      case zc2 => exact AllReadyH.nil
      go_simp
      refine (NX.out _ hHeld.1).mono ?_
      rintro e w9c2 ⟨rfl, b9⟩
      refine hK.out _ _ (SK.out _ (bt hHeld.1 b9)) (fun hNew => ?_)
      clear hHeld
      have hHeld := hNew
      clear hNew hK K
      try simp only [List.getElem_toArray, List.getElem_cons_succ, List.getElem_cons_zero, Act.put, List.setIfInBounds_toArray, List.set_cons_zero, List.set_cons_succ]
      refine wpAnyH_take (i := 4) (v := ?vc4) rfl (by kernel_rfl) (by kernel_rfl) (by kernel_rfl) (fun _ _ _ h => h) (Or.inl ⟨by rfl, ?yc4⟩) (by assumption) ?_
      case yc4 => intro w hSw; (try dsimp only at hSw); go_simp <;> with_reducible rfl
      try simp only [List.getElem_toArray, List.getElem_cons_succ, List.getElem_cons_zero, Act.put, List.setIfInBounds_toArray, List.set_cons_zero, List.set_cons_succ]
      refine wpAnyH_done (by kernel_rfl) ?_ _
      go_wp2
      go_roundw
      case rel => exact ⟨j + 1, by omega, by go_num, NO, Lib.hid (bt hbel.out hHeld.1)⟩
      case measure => simp [intOf]; omega
end Go.Proofs.Ytdackenaknieaaa.Homes

/- octavo/home.Of: its closure, and the search. Conditions: live marks, a place that may be, or the beginning. -/
namespace Go.Proofs.Ytdackenaknieaaa.Homes
open Go.RowKit Go.WideShapes Stamp Go.Proofs.Ytdackenaknieaaa.Place Ops Codes Bags Marks
attribute [local go_sem ↓] Go.wp_at_zero Go.wp_at_succ
attribute [local go_sem] yielded_undef

def cmpH (x : Opn) (p : List Run) : Int := if notBehind x p = true then -1 else 1
theorem cmpH_is {x : Opn} {p : List Run} (hx : mayO x = true) (hp : anyB p = true) : cmpH x p = if 0 < cmp x.pl p then 1 else -1 := by
  have hc : cmp x.pl p = Go.Proofs.Ytdackenaknieaaa.Place.hold (all x.pl) (all p) := by
    unfold cmp
    exact if_pos ⟨anyB_may (mayO_parts hx).2.1, hp⟩
  rw [hc]
  unfold cmpH notBehind
  by_cases h : Go.Proofs.Ytdackenaknieaaa.Place.hold (all x.pl) (all p) ≤ 0
  · rw [if_pos (decide_eq_true h), if_neg (by omega)]
  · rw [if_neg (by simpa using h), if_pos (by omega)]
set_option maxRecDepth 100000 in
set_option maxHeartbeats 4000000 in
theorem hOf1_any {u v : Value} {x : Opn} {p : List Run} {w : World} (hu : Runs w u x.pl) (hv : Runs w v p) (hx : mayO x = true) (hp : anyB p = true) :
    Calls Try.prog 24 #[opv x u, v] w fun e w' => e = .returned (.int .i64 (cmpH x p)) ∧ Below w.heap.size w w' := by
  have PC : Hid (∀ W : World, Below w.heap.size w W → Calls Try.prog 25 #[u, v] W fun e w' => e = .returned (.int .i64 (cmp x.pl p)) ∧ Below W.heap.size W w') := fun W h => pCompare_any (hu.keeps h) (hv.keeps h)
  have B0 : Hid (Below w.heap.size w (w.alloc (.cells #[.int .u8 (x.k : Int), .int .u32 (x.t : Int), .int .u8 (x.r : Int), u, .int .i64 x.p] 35))) := (Below.refl _ _).alloc (Nat.le_refl _) _
  rw [cmpH_is hx hp]
  obtain ⟨q, hq⟩ : ∃ q, cmp x.pl p = q := ⟨_, rfl⟩
  rw [hq] at PC ⊢
  obtain ⟨uo, uc, rfl⟩ := hu.shape
  obtain ⟨vo, vc, rfl⟩ := hv.shape
  obtain ⟨nu, hnu⟩ : ∃ n, x.pl.length = n := ⟨_, rfl⟩
  obtain ⟨nv, hnv⟩ : ∃ n, p.length = n := ⟨_, rfl⟩
  rw [hnu] at PC B0 ⊢
  rw [hnv] at PC ⊢
  clear hq hu hv hnu hnv hx hp
  obtain ⟨k1, t1, r1, l1, p1, hk1, ht1, hr1, hp1⟩ := x
  unfold opv
  simp only at B0 ⊢
  clear hk1 ht1 hr1 hp1
  by_cases h : 0 < q
  · rw [if_pos h]
    have d1 : decide (0 < q) = true := decide_eq_true h
    go_enter Try.func24, Try.ntmps24
    go_wp2_with fail
    refine (PC.out _ B0.out).mono ?_
    rintro e w1 ⟨rfl, b1⟩
    have B1 := Lib.hid (bt B0.out b1)
    clear b1 PC B0
    go_wp2
    go_ret
    exact ⟨rfl, B1.out⟩
  · rw [if_neg h]
    have d1 : decide (0 < q) = false := decide_eq_false h
    go_enter Try.func24, Try.ntmps24
    go_wp2_with fail
    refine (PC.out _ B0.out).mono ?_
    rintro e w1 ⟨rfl, b1⟩
    have B1 := Lib.hid (bt B0.out b1)
    clear b1 PC B0
    go_wp2
    go_ret
    exact ⟨rfl, B1.out⟩

set_option maxRecDepth 100000 in
set_option maxHeartbeats 16000000 in
theorem hBin_any {v u : Value} {live : List Opn} {p : List Run} {w : World} (hv : OpL w v live) (hu : Runs w u p) (hl : live.length ≤ 1000000) (hL : Liv live) (hp : anyB p = true) :
    Calls Try.prog 23 #[v, u, .func (.func 24) #[] #[]] w fun e w' => (∃ q : Bool, e = .returned (.tuple #[.int .i64 (cntM live p : Int), .bool q])) ∧ Below w.heap.size w w' := by
  obtain ⟨ao, cap, rfl⟩ := hv.shape
  obtain ⟨uo, uc, rfl⟩ := hu.shape
  obtain ⟨n, hn⟩ : ∃ n, n = live.length := ⟨_, rfl⟩
  have HV : Hid (∀ W : World, Below w.heap.size w W → OpL W (.slice ao live.length cap) live) := fun W h => hv.keeps h
  have HN := Lib.hid hn
  have S1 : Hid (∀ (x : Opn) (y : Value) (W : World), x ∈ live → Runs W y x.pl → Below w.heap.size w W → Calls Try.prog 24 #[opv x y, .slice uo p.length uc] W fun e w' => e = .returned (.int .i64 (cmpH x p)) ∧ Below W.heap.size W w') := fun x y W hm hy h => hOf1_any hy (hu.keeps h) (hL.may x hm).1 hp
  have HLT : Hid (∀ (j : Nat) (h : j < live.length), cmpH (live[j]'h) p < 0 → j < cntM live p) := fun j h hc => by
    refine (nb_iff hL j h).1 ?_
    unfold cmpH at hc
    split at hc
    · assumption
    · omega
  have HGE : Hid (∀ (j : Nat) (h : j < live.length), ¬ cmpH (live[j]'h) p < 0 → cntM live p ≤ j) := fun j h hc => by
    refine Nat.le_of_not_lt fun h2 => hc ?_
    unfold cmpH
    rw [if_pos ((nb_iff hL j h).2 h2)]
    decide
  have HK := cntM_le live p
  have HC0 : Hid (∀ x : Opn, (cmpH x p == 0) = false) := fun x => by
    unfold cmpH
    split <;> rfl
  obtain ⟨K, hK⟩ : ∃ K, cntM live p = K := ⟨_, rfl⟩
  rw [hK] at HLT HGE HK ⊢
  obtain ⟨np, hnp⟩ : ∃ n, p.length = n := ⟨_, rfl⟩
  rw [hnp] at S1 ⊢
  rw [← hn] at hl HK ⊢
  clear hv hn hu hL hp hK hnp
  have eg := enters_of Try.func24 (by kernel_rfl) rfl
  have B0 : Hid (Below w.heap.size w w) := Below.refl _ _
  go_enter Try.func23, Try.ntmps23
  go_wp2
  go_loopw [9, 10] (fun x y wr => ∃ lo hi : Nat, x = .int .i64 (lo : Int) ∧ y = .int .i64 (hi : Int) ∧ lo ≤ hi ∧ hi ≤ n ∧ lo ≤ K ∧ K ≤ hi ∧ Hid (Below w.heap.size w wr)) (fun x y _ => (intOf y - intOf x).toNat)
  case atStart => exact ⟨0, n, rfl, rfl, by omega, by omega, by omega, HK, B0⟩
  case round =>
    clear B0
    obtain ⟨lo, hi, rfl, rfl, hlh, hhn, hlow, hhigh, hbel⟩ := hrel
    by_cases hlt : lo < hi
    · obtain ⟨m, hm⟩ : ∃ m, m = (lo + hi) / 2 := ⟨_, rfl⟩
      have em : ((lo : Int) + (hi : Int)) / 2 = (m : Int) := by omega
      have m1 : lo ≤ m := by omega
      have m2 : m < hi := by omega
      have q4 : (0 : Int) ≤ (m : Int) := by omega
      have q5 : (m : Int) < (n : Int) := by omega
      have hml : m < live.length := by rw [← HN.out]; omega
      clear hm
      obtain ⟨bb, oo, u, e, hbb, hru, h0, h1, h2, h3, h4⟩ := opl_at (HV.out wr hbel.out) m hml
      subst e
      obtain ⟨x, hx⟩ : ∃ x, x = live[m]'hml := ⟨_, rfl⟩
      rw [← hx] at hru h0 h1 h2 h4
      have HO : Hid (∀ v : Value, opv x v = .agg #[.int .u8 (x.k : Int), .int .u32 (x.t : Int), .int .u8 (x.r : Int), v, .int .i64 x.p]) := fun v => rfl
      obtain ⟨uo, uc, rfl⟩ := hru.shape
      obtain ⟨nu, hnu⟩ : ∃ n, n = x.pl.length := ⟨_, rfl⟩
      have HNU := Lib.hid hnu
      rw [← hnu] at hru h3
      clear hnu
      have hxm : x ∈ live := by rw [hx]; exact List.getElem_mem _
      have SX := Lib.hid (S1.out x _ wr hxm hru hbel.out)
      obtain ⟨c, hc⟩ : ∃ c, cmpH x p = c := ⟨_, rfl⟩
      rw [hc] at SX
      have HLO : Hid (c < 0 → m + 1 ≤ K) := fun h => HLT.out m hml (by rw [← hx, hc]; exact h)
      have HHI : Hid (¬ c < 0 → K ≤ m) := fun h => HGE.out m hml (by rw [← hx, hc]; omega)
      clear hru hx hc hxm
      obtain ⟨k, hk⟩ : ∃ z, x.k = z := ⟨_, rfl⟩
      obtain ⟨t, ht⟩ : ∃ z, x.t = z := ⟨_, rfl⟩
      obtain ⟨r, hr⟩ : ∃ z, x.r = z := ⟨_, rfl⟩
      obtain ⟨p, hp⟩ : ∃ z, x.p = z := ⟨_, rfl⟩
      rw [hk, ht, hr, hp] at HO
      rw [hk] at h0
      rw [ht] at h1
      rw [hr] at h2
      rw [hp] at h4
      simp only [HO.out] at SX
      clear hk ht hr hp HO S1 HLT HGE HC0 HV hbb
      by_cases hc0 : c < 0
      · have d1 : decide (c < 0) = true := decide_eq_true hc0
        have HN2 := HLO.out hc0
        clear HLO HHI
        go_wp2_with fail
        refine SX.out.mono ?_
        rintro e w1 ⟨rfl, b1⟩
        have BW := Lib.hid (bt hbel.out b1)
        clear b1 SX h0 h1 h2 h3 h4
        go_wp2
        go_roundw
        case rel => exact ⟨m + 1, hi, by go_num, rfl, by omega, hhn, HN2, hhigh, BW⟩
        case measure => simp [intOf]; omega
      · have d1 : decide (c < 0) = false := decide_eq_false hc0
        have HN2 := HHI.out hc0
        clear HLO HHI
        go_wp2_with fail
        refine SX.out.mono ?_
        rintro e w1 ⟨rfl, b1⟩
        have BW := Lib.hid (bt hbel.out b1)
        clear b1 SX h0 h1 h2 h3 h4
        go_wp2
        go_roundw
        case rel => exact ⟨lo, m, rfl, rfl, by omega, by omega, hlow, HN2, BW⟩
        case measure => simp [intOf]; omega
    · obtain rfl : hi = lo := by omega
      obtain rfl : K = hi := by omega
      by_cases hkn : K < n
      rotate_left
      · have q8 : decide (K < n) = false := by simpa using hkn
        clear S1 HLT HGE HC0 HV
        go_wp2
        go_ret2
        exact ⟨⟨_, rfl⟩, hbel.out⟩
      have q8 : decide (K < n) = true := by simpa using hkn
      have q4 : (0 : Int) ≤ (K : Int) := by omega
      have q5 : (K : Int) < (n : Int) := by omega
      have hml : K < live.length := by rw [← HN.out]; exact hkn
      obtain ⟨bb, oo, u, e, hbb, hru, h0, h1, h2, h3, h4⟩ := opl_at (HV.out wr hbel.out) K hml
      subst e
      obtain ⟨x, hx⟩ : ∃ x, x = live[K]'hml := ⟨_, rfl⟩
      rw [← hx] at hru h0 h1 h2 h4
      have HO : Hid (∀ v : Value, opv x v = .agg #[.int .u8 (x.k : Int), .int .u32 (x.t : Int), .int .u8 (x.r : Int), v, .int .i64 x.p]) := fun v => rfl
      obtain ⟨uo, uc, rfl⟩ := hru.shape
      obtain ⟨nu, hnu⟩ : ∃ n, n = x.pl.length := ⟨_, rfl⟩
      have HNU := Lib.hid hnu
      rw [← hnu] at hru h3
      clear hnu
      have hxm : x ∈ live := by rw [hx]; exact List.getElem_mem _
      have SX := Lib.hid (S1.out x _ wr hxm hru hbel.out)
      have d1 := HC0.out x
      obtain ⟨c, hc⟩ : ∃ c, cmpH x p = c := ⟨_, rfl⟩
      rw [hc] at SX d1
      have d2 : ¬ c = 0 := by simpa using d1
      clear hru hx hc hxm
      obtain ⟨k, hk⟩ : ∃ z, x.k = z := ⟨_, rfl⟩
      obtain ⟨t, ht⟩ : ∃ z, x.t = z := ⟨_, rfl⟩
      obtain ⟨r, hr⟩ : ∃ z, x.r = z := ⟨_, rfl⟩
      obtain ⟨p, hp⟩ : ∃ z, x.p = z := ⟨_, rfl⟩
      rw [hk, ht, hr, hp] at HO
      rw [hk] at h0
      rw [ht] at h1
      rw [hr] at h2
      rw [hp] at h4
      simp only [HO.out] at SX
      clear hk ht hr hp HO S1 HLT HGE HC0 HV hbb
      go_wp2_with fail
      refine SX.out.mono ?_
      rintro e w1 ⟨rfl, b1⟩
      have BW := Lib.hid (bt hbel.out b1)
      clear b1 SX h0 h1 h2 h3 h4
      go_wp2
      go_ret2
      exact ⟨⟨_, rfl⟩, BW.out⟩
end Go.Proofs.Ytdackenaknieaaa.Homes
