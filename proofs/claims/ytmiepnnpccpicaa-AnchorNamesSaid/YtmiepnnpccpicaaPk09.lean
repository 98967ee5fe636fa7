/- octavo/cover.section.counts: what it answers. Conditions: content of a bag; a section of it. math/bits.Len of numbers up to 1024: how many digits they have. Conditions: as said. octavo/cover.chosen, Homed, Counts, Version: what each answers. Conditions: the slice's cells are operations. octavo/view.Elements: what it answers. Conditions: the slice's cells are operations. -/
import Derived.Test.YtmiepnnpccpicaaChecked
import Derived.WalkKit
import Derived.WalkSpells
import Derived.WalkLawsBesides
import Derived.Laws.BytesArg
import Derived.Lib.Hide
import Derived.Deep.LoopGhost
import Derived.Laws.AppendOwnNone
import Derived.Laws.OwnMore
import Derived.WideShapes
import Derived.Maps.AppendAt
import Derived.RegionTactic
import Derived.Deep.RegionHeld3
import Derived.Deep.DrawnRows
import Derived.Deep.QuietTactic
import Derived.BigQuiet
import Derived.IntWalk
import Derived.Deep.DeepCutAuto
import Derived.ScopeJumps
import Derived.Test.YtmiepnnpccpicaaProg
import Derived.LoopTactic
import Derived.Laws.EntriesVeiled
import Derived.RowKit
import Derived.Maps.Own
import Derived.Maps.OwnOps
import Derived.Maps.OwnSet
import Derived.Maps.Views
import Derived.DeepKeys4
import Derived.Scope
import Derived.Lib.Tables
import Derived.Shelf.Abstract
import Derived.Shelf.SlSortCmp.InsertionK
import Derived.Calls
import Derived.StepT
import Derived.Below
import Derived.Sort.Grow
import Derived.Deep.Draws
import Derived.Shelf.SlLaysF0
import Derived.Shelf.SlSortCmp.NoneTotal
import Derived.RangeFuncBox
import Derived.RangeFuncLeaves
import Derived.RangeFuncNested
import Derived.RangeFuncBound
import Derived.RangeFuncCalls
import Derived.OwnWalkIn
import Derived.TacticsInMore
import Derived.LoopNIn
import Derived.LoopIn
import Derived.Laws.Bits64
import Derived.Lib.DecodeN
import Derived.Lib.RuneBytes
import Derived.Test.YtmiepnnpccpicaaRw
import Derived.Test.YtmiepnnpccpicaaPk08
import Derived.Test.YtmiepnnpccpicaaPk04
import Derived.Test.YtmiepnnpccpicaaPk03
import Derived.Test.YtmiepnnpccpicaaPk02
import Derived.Test.YtmiepnnpccpicaaPk01
import Derived.Test.YtmiepnnpccpicaaPk06
import Derived.Test.YtmiepnnpccpicaaPk07
import Derived.Test.YtmiepnnpccpicaaPk05

namespace Go.Proofs.Ytmiepnnpccpicaa.Covers
open Go.RowKit Go.WideShapes Stamp Go.Proofs.Ytmiepnnpccpicaa.Place Ops Codes Bags Marks Homes
attribute [local go_sem ↓] Go.wp_at_zero Go.wp_at_succ
attribute [local go_sem] yielded_undef
theorem nl_all : ∀ p : List Run, nl p = (all p).length
  | [] => rfl
  | x :: p => by
    show x.m.toNat + nl p = (up x.t x.r x.m.toNat ++ all p).length
    rw [List.length_append, up_len, nl_all p]
set_option maxRecDepth 100000 in
set_option maxHeartbeats 4000000 in
theorem counts_any {va vb u : Value} {l : List Opn} {s : Id} {o : Opn} {g b n0 : Nat} {w : World} (hE : spanE l s = 0) (ho : o ∈ l) (ha : Runs w va (fromL l s)) (hb : Runs w vb (toL l s)) (hu : Runs w u o.pl) (hs : SetI w b n0 (hasO l)) (hc : w.cell? ⟨g, 0, none⟩ = some (.map (some b))) (hg : g < w.heap.size) :
    Calls Try.prog 46 #[.agg #[va, vb, .func (.func 86) #[] #[.pointer (some ⟨g, 0, none⟩)]], opv o u] w fun e w' => e = .returned (.bool (homB (fromL l s) (toL l s) o.pl && isB l (livesM l l) s o)) ∧ Below w.heap.size w w' := by
  have hO := (spanE_zero.1 hE).1.2.1 o ho
  have hm := (mayO_parts hO).2.1
  have hM := (mayB_iff o.pl).1 hm
  have HM : Hid (∀ W : World, Below w.heap.size w W → Calls Try.prog 59 #[.agg #[va, vb, .func (.func 86) #[] #[.pointer (some ⟨g, 0, none⟩)]], opv o u] W fun e w' => e = .returned (.bool (homB (fromL l s) (toL l s) o.pl)) ∧ Below W.heap.size W w') := fun W h => homes_any (ha.keeps h) (hb.keeps h) (hu.keeps h) ⟨_, _, _, rfl⟩
  have TW : Hid (∀ W : World, Below w.heap.size w W → Calls Try.prog 51 #[u] W fun e w' => ∃ ao cap, e = .returned (.slice ao o.pl.length cap) ∧ w'.ownsRow W.heap.size 42 3 (.slice ao o.pl.length cap) o.pl.length (runs o.pl) ∧ Below W.heap.size W w') := fun W h => by
    refine (ptwin_any (hu.keeps h) (by have := hM.2.1; omega)).mono ?_
    rintro e w' ⟨v', rfl, h1, h2⟩
    obtain ⟨ao, cap, rfl⟩ : ∃ ao cap, v' = .slice ao o.pl.length cap := Sees.shape (Sees.own h1)
    exact ⟨ao, cap, rfl, h1, h2⟩
  have TR : Hid (∀ (W : World) (a : Id), Below w.heap.size w W → Calls Try.prog 86 #[.agg #[.int .u32 (a.t : Int), .int .u8 (a.r : Int)], .pointer (some ⟨g, 0, none⟩)] W fun e w' => e = .returned (.bool (hasO l a)) ∧ Below W.heap.size W w') := fun W a h => there_any a (hs.keeps h) ((h.cell (p := ⟨g, 0, none⟩) hg).trans hc) (Nat.lt_of_lt_of_le hg h.size)
  have CP : Hid (∀ (W : World) (v : Value) (P : List Run), Below w.heap.size w W → Runs W v P → Calls Try.prog 21 #[v, va] W fun e w' => e = .returned (.int .i64 (cmp P (fromL l s))) ∧ Below W.heap.size W w') := fun W v P h h2 => pCompare_any h2 (ha.keeps h)
  obtain ⟨N, hN⟩ : ∃ N, (all o.pl).length = N := ⟨_, rfl⟩
  have hcut : ∀ k, k < N → mayB (cutN o.pl (k + 1)) = true ∧ lastV (cutN o.pl (k + 1)) = ((((all o.pl).getD k zid).t : Int), (((all o.pl).getD k zid).r : Int)) ∧ cutN o.pl k = downL (cutN o.pl (k + 1)) ∧ nl (cutN o.pl (k + 1)) = k + 1 := fun k hk => by
    rw [← hN] at hk
    refine ⟨may_cutN hm (by omega), last_cutN hm hk, cut_down hm hk, ?_⟩
    rw [nl_all, all_cutN hM.2.2.1, List.length_take]
    omega
  have HC := Lib.hid hcut
  have hall : cutN o.pl N = o.pl := by rw [← hN]; exact cutN_all hM.2.2.1
  have OK0 : Hid (okN l s o N) := by rw [← hN]; exact ok_end l s o
  obtain ⟨z, hz⟩ : ∃ z, homB (fromL l s) (toL l s) o.pl = z := ⟨_, rfl⟩
  obtain ⟨q, hq⟩ : ∃ q, isB l (livesM l l) s o = q := ⟨_, rfl⟩
  have ZE : Hid (okN l s o 0 → q = true) := fun h => by rw [← hq]; exact ok_zero h
  have ZB : Hid (∀ k, okN l s o k → cmp (cutN o.pl k) (fromL l s) < 0 → q = true) := fun k h h2 => by rw [← hq]; exact ok_break hE ho h h2
  have ZN : Hid (z = true → ∀ k, k < N → ¬ cmp (cutN o.pl (k + 1)) (fromL l s) < 0 → hasO l ((all o.pl).getD k zid) = false → q = false) := fun h k h1 h2 h3 => by rw [← hq]; exact ok_no hE ho (hz.trans h) (by rw [hN]; exact h1) h2 h3
  have ZS : Hid (∀ k, okN l s o (k + 1) → hasO l ((all o.pl).getD k zid) = true → okN l s o k) := fun k h h2 => ok_step h h2
  have Z00 : Hid (cutN o.pl 0 = []) := cutN_zero _
  rw [hz] at HM ⊢
  rw [hq]
  obtain ⟨F, hF⟩ : ∃ F, fromL l s = F := ⟨_, rfl⟩
  obtain ⟨T, hT⟩ : ∃ F, toL l s = F := ⟨_, rfl⟩
  rw [hF] at ha CP ZB ZN
  rw [hT] at hb
  obtain ⟨C, hC⟩ : ∃ C, cutN o.pl = C := ⟨_, rfl⟩
  simp only [hC] at HC hall ZB ZN Z00
  obtain ⟨A, hA⟩ : ∃ A, (fun k => (all o.pl).getD k zid) = A := ⟨_, rfl⟩
  have hA' : ∀ k, (all o.pl).getD k zid = A k := fun k => by rw [← hA]
  simp only [hA'] at HC ZN ZS
  obtain ⟨ok, hok⟩ : ∃ ok, okN l s o = ok := ⟨_, rfl⟩
  simp only [hok] at OK0 ZE ZB ZS
  obtain ⟨ao, ac, rfl⟩ := ha.shape
  obtain ⟨bo, bc, rfl⟩ := hb.shape
  obtain ⟨uo, uc, rfl⟩ := hu.shape
  obtain ⟨nf, hnf⟩ : ∃ n, F.length = n := ⟨_, rfl⟩
  obtain ⟨nt, hnt⟩ : ∃ n, T.length = n := ⟨_, rfl⟩
  obtain ⟨nu, hnu⟩ : ∃ n, o.pl.length = n := ⟨_, rfl⟩
  have hnum : nu ≤ 64 := by rw [← hnu]; exact hM.2.1
  rw [hnf] at HM CP ⊢
  rw [hnt] at HM ⊢
  rw [hnu] at HM TW ⊢
  have R0 : Hid (nu = (C N).length) := by rw [hall, hnu]; exact rfl
  unfold opv at HM ⊢
  rw [show runs o.pl = runs (C N) by rw [hall]] at TW
  clear ha hb hu hs hc hE ho hO hm hM hN hcut hall hz hq hF hT hC hA hA' hok hnf hnt hnu hg
  obtain ⟨k, t, r, pl, p, hk, ht, hr, hp⟩ := o
  simp only at HM ⊢
  clear hk ht hr hp
  obtain ⟨wl, hwl⟩ : ∃ wl, (w.alloc (.cells #[.slice ao nf ac, .slice bo nt bc, .func (.func 86) #[] #[.pointer (some ⟨g, 0, none⟩)]] 88)).alloc (.cells #[.int .u8 (k : Int), .int .u32 (t : Int), .int .u8 (r : Int), .slice uo nu uc, .int .i64 p] 36) = wl := ⟨_, rfl⟩
  have hsz : wl.heap.size = w.heap.size + 2 := by rw [← hwl]; simp
  have B0 : Hid (Below w.heap.size w wl) := by rw [← hwl]; exact ((Below.refl _ _).alloc (Nat.le_refl _) _).alloc (by simp) _
  have SK : Hid (∀ W : World, Below wl.heap.size wl W → W.cell? ⟨w.heap.size, 0, none⟩ = some (.slice ao nf ac) ∧ W.cell? ⟨w.heap.size, 1, none⟩ = some (.slice bo nt bc) ∧ W.cell? ⟨w.heap.size, 2, none⟩ = some (.func (.func 86) #[] #[.pointer (some ⟨g, 0, none⟩)]) ∧ W.cell? ⟨w.heap.size + 1, 3, none⟩ = some (.slice uo nu uc)) := fun W h => by
    have g1 : W.heap[w.heap.size]? = some (.cells #[.slice ao nf ac, .slice bo nt bc, .func (.func 86) #[] #[.pointer (some ⟨g, 0, none⟩)]] 88) := blk_below h (by rw [← hwl]; exact blk_old (blk_new rfl))
    have g2 : W.heap[w.heap.size + 1]? = some (.cells #[.int .u8 (k : Int), .int .u32 (t : Int), .int .u8 (r : Int), .slice uo nu uc, .int .i64 p] 36) := blk_below h (by rw [← hwl]; exact blk_new (by simp))
    exact ⟨cell_of_row _ _ 0 _ _ _ g1, cell_of_row _ _ 1 _ _ _ g1, cell_of_row _ _ 2 _ _ _ g1, cell_of_row _ _ 3 _ _ _ g2⟩
  have BL : Hid (∀ W : World, Below wl.heap.size wl W → Below w.heap.size w W) := fun W h => bt B0.out h
  have HW := Lib.hid hwl
  have HSZ := Lib.hid hsz
  clear hwl hsz
  cases z
  · clear ZE ZB ZN ZS OK0 HC TW TR CP SK BL Z00 R0
    go_enter Try.func46, Try.ntmps46
    go_wp2
    refine wp_scope_straight ?_
    go_wp2_with fail
    rw [HW.out]
    refine (HM.out _ B0.out).mono ?_
    rintro e w1 ⟨rfl, b1⟩
    have B1 := Lib.hid (bt B0.out b1)
    clear b1 HM B0
    go_wp2
    (first | go_ret | (rw [Exit.noGoto_ret]; go_ret))
    exact ⟨rfl, B1.out⟩
  rw [Bool.true_and]
  have ZN2 := Lib.hid (ZN.out rfl)
  clear ZN
  go_enter Try.func46, Try.ntmps46
  go_wp2
  refine wp_scope_straight ?_
  go_wp2_with fail
  rw [HW.out]
  refine (HM.out _ B0.out).mono ?_
  rintro e w1 ⟨rfl, b1⟩
  have B1 := Lib.hid b1
  obtain ⟨c0, c1, c2, c3⟩ := SK.out _ b1
  clear b1 HM
  go_wp2_with fail
  refine (TW.out _ (BL.out _ B1.out)).mono ?_
  rintro e w2 ⟨ao2, ca2, rfl, o2, b2⟩
  have B2 := Lib.hid (bt B1.out b2)
  have O2 : Hid (w2.ownsRow wl.heap.size 42 3 (.slice ao2 nu ca2) nu (runs (C N))) := op_base o2 B1.out.size
  rw [R0.out] at O2 hnum ⊢
  clear b2 o2 TW B1 c0 c1 c2 c3 B0 HW R0
  go_wp2
  go_step3
  go_wp2
  go_loopw [5] (fun v wr => ∃ k ao cap, v = .slice ao (C k).length cap ∧ k ≤ N ∧ Hid (wr.ownsRow wl.heap.size 42 3 (.slice ao (C k).length cap) (C k).length (runs (C k))) ∧ Hid (ok k) ∧ (C k).length ≤ 64 ∧ Hid (Below wl.heap.size wl wr)) (fun v wr => totV wr v)
  case atStart => exact ⟨N, _, _, rfl, Nat.le_refl _, O2, OK0, hnum, B2⟩
  case round =>
    clear O2 OK0 hnum B2
    obtain ⟨k, ao2, ca2, rfl, hkN, hown, hok, hln, hbel⟩ := hrel
    cases k with
    | zero =>
      have hq := ZE.out hok.out
      have h0 : (C 0).length = 0 := by rw [Z00.out]; rfl
      rw [h0]
      subst hq
      clear hown hok hln ZB ZN2 ZS HC TR CP ZE Z00
      go_wp2
      (first | go_ret | (rw [Exit.noGoto_ret]; go_ret))
      exact ⟨rfl, BL.out _ hbel.out⟩
    | succ k =>
    obtain ⟨m1, m2, m3, m4⟩ := HC.out k (by omega)
    obtain ⟨hp1, hp2, hp3, _⟩ := (mayB_iff _).1 m1
    have ST := Lib.hid (ZS.out k hok.out)
    have NO := Lib.hid (ZN2.out k (by omega))
    have BR := Lib.hid (ZB.out (k + 1) hok.out)
    obtain ⟨P, hP⟩ : ∃ P, C (k + 1) = P := ⟨_, rfl⟩
    obtain ⟨a, ha⟩ : ∃ a, A k = a := ⟨_, rfl⟩
    rw [hP] at m1 m2 m3 m4 hp1 hp2 hp3 hown hln NO BR ⊢
    rw [ha] at m2 ST NO
    have HQL : Hid ((C k).length ≤ 64) := by
      unfold Hid
      have := down_len hp1
      rw [m3, this]
      split <;> omega
    have LS : Hid (∀ (W : World) (v : Value), Runs W v P → Calls Try.prog 47 #[v] W fun e w' => e = .returned (.agg #[.int .u32 (a.t : Int), .int .u8 (a.r : Int)]) ∧ Below W.heap.size W w') := fun W v h => by
      have := pLast_any h
      rwa [m2] at this
    have CU : Hid (∀ (W : World) (v : Value), W.ownsRow wl.heap.size 42 3 v P.length (runs P) → Calls Try.prog 60 #[v] W fun e w' => (∃ ao cap, e = .returned (.slice ao (C k).length cap) ∧ w'.ownsRow wl.heap.size 42 3 (.slice ao (C k).length cap) (C k).length (runs (C k))) ∧ Below wl.heap.size W w') := fun W v h => by
      have := vcut_any h hp1 (by omega) hp3
      rwa [← m3] at this
    have CC := Lib.hid (fun (W : World) (v : Value) h1 h2 => CP.out W v P h1 h2)
    have TT := Lib.hid (fun (W : World) h => TR.out W a h)
    have MS : Hid (totV wr (.slice ao2 P.length ca2) = k + 1) := (totV_runs (Runs.own hown.out)).trans m4
    have MS2 : Hid (∀ (W : World) (v : Value), W.ownsRow wl.heap.size 42 3 v (C k).length (runs (C k)) → totV W v = k) := fun W v h => by
      rw [totV_runs (Runs.own h)]
      cases k with
      | zero => rw [Z00.out]; rfl
      | succ k' => exact (HC.out k' (by omega)).2.2.2
    obtain ⟨c, hcc⟩ : ∃ c, cmp P F = c := ⟨_, rfl⟩
    simp only [hcc] at CC NO BR
    obtain ⟨hh, hhh⟩ : ∃ h, hasO l a = h := ⟨_, rfl⟩
    rw [hhh] at TT ST NO
    have RR : Hid (∀ W : World, Below wr.heap.size wr W → W.ownsRow wl.heap.size 42 3 (.slice ao2 P.length ca2) P.length (runs P)) := fun W h => own_stays hown.out h
    obtain ⟨n, hn⟩ : ∃ n, P.length = n := ⟨_, rfl⟩
    simp only [hn] at hown RR MS CU hp1 hp2 hln ⊢
    have HN := Lib.hid hn
    have t1 : decide ((0 : Int) < (n : Int)) = true := decide_eq_true (by omega)
    have t2 : decide (0 < n) = true := decide_eq_true hp1
    have s0 := SK.out _ hbel.out
    obtain ⟨c0, c1, c2, c3⟩ := s0
    clear ZB ZN2 ZS HC TR CP hok Z00 ZE m1 m2 m3 m4 hP ha hcc hhh hn hp3
    have D0 : Hid (∀ W : World, Below wr.heap.size wr W → Below w.heap.size w W) := fun W h => BL.out _ (bt hbel.out h)
    go_wp2_with fail
    refine (CC.out _ _ (D0.out _ (Below.refl _ _)) (by rw [← HN.out]; exact Runs.own (by rw [HN.out]; exact hown.out))).mono ?_
    rintro e w3 ⟨rfl, b3⟩
    have B3 := Lib.hid b3
    have KK : Hid (∀ W : World, Below w3.heap.size w3 W → Below w3.heap.size w3 W ∧ W.cell? ⟨w.heap.size, 2, none⟩ = some (.func (.func 86) #[] #[.pointer (some ⟨g, 0, none⟩)])) := fun W h => ⟨h, (SK.out W (bt hbel.out (bt B3.out h))).2.2.1⟩
    clear b3 CC c0 c1 c2 c3
    by_cases hlt : c < 0
    · have q1 : decide (c < 0) = true := decide_eq_true hlt
      have hq := BR.out hlt
      subst hq
      have BE := Lib.hid (BL.out _ (bt hbel.out B3.out))
      clear BR NO ST CU TT LS RR KK MS MS2 D0
      go_wp2
      (first | go_ret | (rw [Exit.noGoto_ret]; go_ret))
      exact ⟨rfl, BE.out⟩
    have q1 : decide (c < 0) = false := decide_eq_false hlt
    have NO2 := Lib.hid (NO.out (by first | exact hlt | omega))
    have LL : Hid (∀ W : World, Below wr.heap.size wr W → Calls Try.prog 47 #[.slice ao2 n ca2] W fun e w' => e = .returned (.agg #[.int .u32 (a.t : Int), .int .u8 (a.r : Int)]) ∧ Below W.heap.size W w') := fun W h => LS.out W _ (by rw [← HN.out]; exact Runs.own (by rw [HN.out]; exact RR.out W h))
    have TX : Hid (∀ W : World, Below w3.heap.size w3 W → Calls Try.prog 86 #[.agg #[.int .u32 (a.t : Int), .int .u8 (a.r : Int)], .pointer (some ⟨g, 0, none⟩)] W fun e w' => e = .returned (.bool hh) ∧ Below W.heap.size W w') := fun W h => TT.out W (D0.out W (bt B3.out h))
    have LX : Hid (∀ W : World, Below w3.heap.size w3 W → Calls Try.prog 47 #[.slice ao2 n ca2] W fun e w' => e = .returned (.agg #[.int .u32 (a.t : Int), .int .u8 (a.r : Int)]) ∧ Below W.heap.size W w') := fun W h => LL.out W (bt B3.out h)
    clear NO BR LS LL TT hlt
    go_wp2
    refine wp_region_held_drew (S := fun w' => Below w3.heap.size w3 w' ∧ w'.cell? ⟨w.heap.size, 2, none⟩ = some (.func (.func 86) #[] #[.pointer (some ⟨g, 0, none⟩)])) (by kernel_rfl) (KK.out _ (drew1 _)) (fun hHeld => ?_)
    refine rN 0 ?_
    refine rN 1 ?_
    refine rN 2 ?_
    refine wpAnyH_ready (rs := [3]) (by kernel_rfl) (by simp) ?_
    refine AllReadyH.cons rfl (fun K hK => ?_) ?za3
    case za3 => exact AllReadyH.nil
    go_simp
    refine (LX.out _ hHeld.1).mono ?_
    rintro e w9a3 ⟨rfl, b9⟩
    refine hK.out _ _ (KK.out _ (bt hHeld.1 b9)) (fun hNew => ?_)
    clear hHeld
    have hHeld := hNew
    clear hNew hK K
    refine rX ?_
    refine wpAnyH_ready (rs := [4]) (by kernel_rfl) (by simp) ?_
    refine AllReadyH.cons rfl (fun K hK => ?_) ?za4
    case za4 => exact AllReadyH.nil
    go_simp
    refine (TX.out _ hHeld.1).mono ?_
    rintro e w9a4 ⟨rfl, b9⟩
    refine hK.out _ _ (KK.out _ (bt hHeld.1 b9)) (fun hNew => ?_)
    clear hHeld
    have hHeld := hNew
    clear hNew hK K
    refine rX ?_
    refine rN 5 ?_
    refine rN 6 ?_
    refine wpAnyH_done (by kernel_rfl) ?_ _
    have b4 := hHeld.1
    have B4 := Lib.hid (bt B3.out b4)
    clear b4 hHeld KK LX TX
    cases hh
    · have hq := NO2.out rfl
      subst hq
      have BE := Lib.hid (BL.out _ (bt hbel.out B4.out))
      clear NO2 ST CU RR MS MS2 D0 B3
      go_wp2
      (first | go_ret | (rw [Exit.noGoto_ret]; go_ret))
      exact ⟨rfl, BE.out⟩
    have OKK := Lib.hid (ST.out rfl)
    have CX := Lib.hid (CU.out _ _ (RR.out _ B4.out))
    clear NO2 ST CU RR D0 B3
    go_wp2_with fail
    refine CX.out.mono ?_
    rintro e w6 ⟨⟨ao6, ca6, rfl, o6⟩, b6⟩
    have O6 := Lib.hid o6
    have B6 : Hid (Below wl.heap.size wl w6) := (bt hbel.out B4.out).trans b6
    have M6 := Lib.hid (MS2.out _ _ o6)
    clear o6 b6 CX B4 MS2
    go_wp2
    go_roundw
    case rel => exact ⟨k, _, _, rfl, by omega, O6, OKK, HQL.out, B6⟩
    case measure =>
      have h1 := MS.out
      have h2 := M6.out
      first | omega | (rw [h1, h2]; omega) | (simp only [h1, h2]; omega)
end Go.Proofs.Ytmiepnnpccpicaa.Covers

namespace Go.Proofs.Ytmiepnnpccpicaa.Srt
open Go.RowKit
attribute [local go_sem ↓] Go.wp_at_zero Go.wp_at_succ
/-- k is how many binary digits x has. -/
def Dig (x k : Nat) : Prop := k ≤ 11 ∧ x < 2 ^ k ∧ (1 ≤ x → 2 ^ k ≤ 2 * x)
instance (x k : Nat) : Decidable (Dig x k) := inferInstanceAs (Decidable (_ ∧ _ ∧ _))
end Go.Proofs.Ytmiepnnpccpicaa.Srt

namespace Go.Proofs.Ytmiepnnpccpicaa.Covers
open Go.RowKit Go.WideShapes Stamp Go.Proofs.Ytmiepnnpccpicaa.Place Ops Codes Bags Marks Homes
attribute [local go_sem ↓] Go.wp_at_zero Go.wp_at_succ
attribute [local go_sem] yielded_undef
/-- What a choice answers, asked of content of the bag. -/
def Asks (f : Nat) (l : List Opn) (s : Id) (Q : Opn → Bool) : Prop := ∀ (W : World) (va vb u : Value) (g b n : Nat) (o : Opn), o ∈ l → Runs W va (fromL l s) → Runs W vb (toL l s) → Runs W u o.pl → SetI W b n (hasO l) → W.cell? ⟨g, 0, none⟩ = some (.map (some b)) → g < W.heap.size →
  Calls Try.prog f #[.agg #[va, vb, .func (.func 86) #[] #[.pointer (some ⟨g, 0, none⟩)]], opv o u] W fun e w' => e = .returned (.bool (Q o)) ∧ Below W.heap.size W w'
set_option maxRecDepth 100000 in
set_option maxHeartbeats 8000000 in
theorem chosen_any {v0 : Value} {l : List Opn} (s : Id) (f : Nat) (eg : ∀ args w, (callFunc f args).run Try.prog w = .ok (.enter f args) w) (Q : Opn → Bool) {w : World} (hv : OpL w v0 l) (hQ : spanE l s = 0 → Asks f l s Q) :
    Calls Try.prog 45 #[v0, .agg #[.int .u32 (s.t : Int), .int .u8 (s.r : Int)], .func (.func f) #[] #[]] w (DoneN (if spanE l s = 0 then l.filter (fun o => contB o && Q o) else []) (spanE l s) w) := by
  obtain ⟨ao, cap, rfl⟩ := hv.shape
  obtain ⟨n, hn⟩ : ∃ n, n = l.length := ⟨_, rfl⟩
  have HV : Hid (∀ W : World, Below w.heap.size w W → OpL W (.slice ao l.length cap) l) := fun W h => hv.keeps h
  have HN := Lib.hid hn
  have B0 : Hid (Below w.heap.size w (w.alloc (.cells #[.int .u32 (s.t : Int), .int .u8 (s.r : Int)] 30))) := (Below.refl _ _).alloc (Nat.le_refl _) _
  have SP : Hid (Calls Try.prog 56 #[.slice ao n cap, .agg #[.int .u32 (s.t : Int), .int .u8 (s.r : Int)]] (w.alloc (.cells #[.int .u32 (s.t : Int), .int .u8 (s.r : Int)] 30)) (TwoR (fromL l s) (toL l s) (spanE l s) (w.alloc (.cells #[.int .u32 (s.t : Int), .int .u8 (s.r : Int)] 30)))) := by
    have := hSpan_any s (hv.keeps B0.out)
    rwa [← hn] at this
  have hcs := spanE_cases l s
  by_cases hE : spanE l s = 0
  rotate_left
  · obtain ⟨c, hc⟩ : ∃ c, spanE l s = c := ⟨_, rfl⟩
    rw [hc] at hE hcs SP ⊢
    rw [if_neg hE, ← hn]
    have q1 : (c != 0) = true := by simpa using hE
    have q2 : decide (c = 0) = false := decide_eq_false hE
    obtain ⟨st, sr, hst, hsr⟩ := s
    simp only at SP B0 ⊢
    clear hv hn HV HN hcs hQ hc
    go_enter Try.func45, Try.ntmps45
    go_wp2_with fail
    refine SP.out.mono ?_
    rintro e w1 ⟨va, vb, rfl, h1, h2, b1⟩
    have B1 := Lib.hid (bt B0.out b1)
    clear h1 h2 b1 SP B0
    go_wp2
    go_ret2
    exact ⟨_, rfl, OwnL.nil _ _, B1.out⟩
  have hbag := (spanE_zero.1 hE).1
  have ASK : Hid (Asks f l s Q) := hQ hE
  rw [if_pos hE]
  rw [hE] at SP ⊢
  have hnm : n ≤ 1024 := by rw [hn]; exact hbag.1
  have HP : Hid (∀ o ∈ l, o.pl.length ≤ 8796093022208) := (bag_fits hbag).2
  have AS : Hid (∀ W : World, Below w.heap.size w W → Calls Try.prog 57 #[.slice ao n cap] W fun e w' => ∃ g b n, e = .returned (.func (.func 86) #[] #[.pointer (some ⟨g, 0, none⟩)]) ∧ g < w'.heap.size ∧ w'.cell? ⟨g, 0, none⟩ = some (.map (some b)) ∧ SetI w' b n (hasO l) ∧ Below W.heap.size W w') := fun W h => by
    have := asking_any (hv.keeps h) hbag.1
    rwa [← hn] at this
  rw [← hn]
  obtain ⟨st, sr, hst, hsr⟩ := s
  simp only at SP B0 ⊢
  obtain ⟨F, hF⟩ : ∃ F, fromL l ⟨st, sr, hst, hsr⟩ = F := ⟨_, rfl⟩
  obtain ⟨T, hT⟩ : ∃ T, toL l ⟨st, sr, hst, hsr⟩ = T := ⟨_, rfl⟩
  have AK : Hid (∀ (W : World) (va vb u : Value) (g b n : Nat) (o : Opn), o ∈ l → Runs W va F → Runs W vb T → Runs W u o.pl → SetI W b n (hasO l) → W.cell? ⟨g, 0, none⟩ = some (.map (some b)) → g < W.heap.size →
      Calls Try.prog f #[.agg #[va, vb, .func (.func 86) #[] #[.pointer (some ⟨g, 0, none⟩)]], opv o u] W fun e w' => e = .returned (.bool (Q o)) ∧ Below W.heap.size W w') := by
    have := ASK.out
    unfold Asks at this
    rw [hF, hT] at this
    exact this
  rw [hF, hT] at SP
  clear hv hn hcs hQ hbag ASK hE hF hT
  go_enter Try.func45, Try.ntmps45
  go_wp2_with fail
  refine SP.out.mono ?_
  rintro e w1 ⟨va, vb, rfl, h1, h2, b1⟩
  have R1 : Hid (Runs w1 va F) := Runs.own h1
  have R2 : Hid (Runs w1 vb T) := Runs.own h2
  obtain ⟨fo, fc, rfl⟩ := Runs.shape R1.out
  obtain ⟨to', tc, rfl⟩ := Runs.shape R2.out
  obtain ⟨nf, hnf⟩ : ∃ n, F.length = n := ⟨_, rfl⟩
  obtain ⟨nt, hnt⟩ : ∃ n, T.length = n := ⟨_, rfl⟩
  rw [hnf] at R1 ⊢
  rw [hnt] at R2 ⊢
  have B1 := Lib.hid (bt B0.out b1)
  clear h1 h2 b1 SP B0 hnf hnt
  go_wp2_with fail
  refine (AS.out _ B1.out).mono ?_
  rintro e w2 ⟨g, b, n0, rfl, hg, hc, hs, b2⟩
  have R3 := Lib.hid (R1.out.keeps b2)
  have R4 := Lib.hid (R2.out.keeps b2)
  have B2 := Lib.hid (bt B1.out b2)
  obtain ⟨wm, hwm⟩ : ∃ wm, w2.alloc (.cells #[.slice fo nf fc, .slice to' nt tc, .func (.func 86) #[] #[.pointer (some ⟨g, 0, none⟩)]] 88) = wm := ⟨_, rfl⟩
  have BM : Hid (Below w2.heap.size w2 wm) := by rw [← hwm]; exact (Below.refl _ _).alloc (Nat.le_refl _) _
  have XM : Hid (wm.heap[w2.heap.size]? = some (.cells #[.slice fo nf fc, .slice to' nt tc, .func (.func 86) #[] #[.pointer (some ⟨g, 0, none⟩)]] 88)) := by rw [← hwm]; exact blk_new rfl
  have HWM := Lib.hid hwm
  have S0 : Hid (SetI wm b n0 (hasO l)) := hs.keeps BM.out
  have C0 : Hid (wm.cell? ⟨g, 0, none⟩ = some (.map (some b))) := (BM.out.cell (p := ⟨g, 0, none⟩) hg).trans hc
  have G0 : Hid (g < wm.heap.size) := Nat.lt_of_lt_of_le hg BM.out.size
  have AX : Hid (∀ (W : World) (u : Value) (o : Opn), Below wm.heap.size wm W → o ∈ l → Runs W u o.pl → Calls Try.prog f #[.agg #[.slice fo nf fc, .slice to' nt tc, .func (.func 86) #[] #[.pointer (some ⟨g, 0, none⟩)]], opv o u] W fun e w' => e = .returned (.bool (Q o)) ∧ Below W.heap.size W w') := fun W u o h1 h2 h3 =>
    AK.out W _ _ u g b n0 o h2 (R3.out.keeps (bt BM.out h1)) (R4.out.keeps (bt BM.out h1)) h3 (S0.out.keeps h1) ((h1.cell (p := ⟨g, 0, none⟩) G0.out).trans C0.out) (Nat.lt_of_lt_of_le G0.out h1.size)
  have B3 : Hid (Below w.heap.size w wm) := bt B2.out BM.out
  have HZ : Hid (w2.heap.size < wm.heap.size) := (Array.getElem?_eq_some_iff.1 XM.out).1
  have L2 : Hid (OwnL wm wm.heap.size (.slice none 0 0) ((l.take 0).filter (fun o => contB o && Q o))) := OwnL.nil _ _
  have M2 : Hid (0 = ((l.take 0).filter (fun o => contB o && Q o)).length) := rfl
  have Z2 : Hid (Below wm.heap.size wm wm) := Below.refl _ _
  clear b2 hg hc hs hwm R1 R2 R3 R4 B1 B2 S0 C0 G0 AK AS BM
  go_wp2
  rw [HWM.out]
  go_loopw [12, 32] (fun v i wr => ∃ j m : Nat, j ≤ n ∧ i = .int .i64 (j : Int) ∧ m ≤ j ∧ (∃ ao cap, v = .slice ao m cap) ∧ Hid (m = ((l.take j).filter (fun o => contB o && Q o)).length) ∧ Hid (OwnL wr wm.heap.size v ((l.take j).filter (fun o => contB o && Q o))) ∧ Hid (Below wm.heap.size wm wr)) (fun _ i _ => n - (intOf i).toNat)
  case atStart => exact ⟨0, 0, by omega, rfl, by omega, ⟨none, 0, rfl⟩, M2, L2, Z2⟩
  case round =>
    clear M2 L2 Z2 HWM
    obtain ⟨j, m, hj, rfl, hmj, ⟨aoL, capL, rfl⟩, HM, hown, hbm⟩ := hrel
    have hbel : Hid (Below w.heap.size w wr) := bt B3.out hbm.out
    by_cases hjn : j < n
    rotate_left
    · have q3 : decide (j < n) = false := by simpa using hjn
      have hkk : l.take j = l := List.take_of_length_le (by have := HN.out; omega)
      rw [hkk] at hown
      clear hkk
      go_wp2
      go_ret2
      exact ⟨_, rfl, hown.out.base B3.out.size, hbel.out⟩
    have q3 : decide (j < n) = true := by simpa using hjn
    have q4 : (0 : Int) ≤ (j : Int) := by omega
    have q5 : (j : Int) < (n : Int) := by omega
    have hjl : j < l.length := by rw [← HN.out]; exact hjn
    obtain ⟨bb, oo, u, e, hbb, hru, h0, h1, h2, h3, h4⟩ := opl_at (HV.out wr hbel.out) j hjl
    subst e
    obtain ⟨x, hx⟩ : ∃ x, x = l[j]'hjl := ⟨_, rfl⟩
    rw [← hx] at hru h0 h1 h2 h4
    have HO : Hid (∀ v : Value, opv x v = .agg #[.int .u8 (x.k : Int), .int .u32 (x.t : Int), .int .u8 (x.r : Int), v, .int .i64 x.p]) := fun v => rfl
    obtain ⟨uo, uc, rfl⟩ := hru.shape
    obtain ⟨nu, hnu⟩ : ∃ n, n = x.pl.length := ⟨_, rfl⟩
    have HNU := Lib.hid hnu
    rw [← hnu] at hru h3
    clear hnu
    have hxl : x ∈ l := by rw [hx]; exact List.getElem_mem hjl
    have hpx : x.pl.length ≤ 8796093022208 := HP.out x hxl
    have FT : Hid ((l.take (j + 1)).filter (fun o => contB o && Q o) = (l.take j).filter (fun o => contB o && Q o) ++ (if (contB x && Q x) = true then [x] else [])) := by
      unfold Hid
      rw [List.take_succ_eq_append_getElem hjl, List.filter_append, hx]
      congr 1
      simp [List.filter_cons]
    obtain ⟨L, hL⟩ : ∃ z, (l.take j).filter (fun o => contB o && Q o) = z := ⟨_, rfl⟩
    rw [hL] at HM hown FT
    have CO : Hid (∀ W : World, Calls Try.prog 58 #[opv x (.slice uo nu uc)] W fun e w' => e = .returned (.bool (contB x)) ∧ Below W.heap.size W w') := fun W => oContent_any W
    have CH : Hid (∀ W : World, Below wr.heap.size wr W → Calls Try.prog f #[.agg #[.slice fo nf fc, .slice to' nt tc, .func (.func 86) #[] #[.pointer (some ⟨g, 0, none⟩)]], opv x (.slice uo nu uc)] W fun e w' => e = .returned (.bool (Q x)) ∧ Below W.heap.size W w') := fun W h => AX.out W _ x (bt hbm.out h) hxl (by rw [HNU.out]; rw [HNU.out] at hru; exact hru.keeps h)
    have TW : Hid (∀ W : World, Below wr.heap.size wr W → Calls Try.prog 35 #[opv x (.slice uo nu uc)] W fun e w' => ∃ ao cap, e = .returned (opv x (.slice ao nu cap)) ∧ w'.ownsRow wm.heap.size 42 3 (.slice ao nu cap) x.pl.length (runs x.pl) ∧ Below W.heap.size W w') := fun W hW => by
      refine (oTwin_any (hru.keeps hW) hpx).mono ?_
      rintro e w' ⟨v', rfl, ho, hb⟩
      obtain ⟨ao', cap', rfl⟩ : ∃ ao cap, v' = .slice ao x.pl.length cap := Sees.shape (Sees.own ho)
      rw [← HNU.out] at ho ⊢
      exact ⟨ao', cap', rfl, op_base ho (Nat.le_trans hbm.out.size hW.size), hb⟩
    clear hx hru hpx hL hxl
    obtain ⟨k, hk⟩ : ∃ z, x.k = z := ⟨_, rfl⟩
    obtain ⟨t, ht⟩ : ∃ z, x.t = z := ⟨_, rfl⟩
    obtain ⟨r, hr⟩ : ∃ z, x.r = z := ⟨_, rfl⟩
    obtain ⟨p, hp⟩ : ∃ z, x.p = z := ⟨_, rfl⟩
    rw [hk, ht, hr, hp] at HO
    rw [hk] at h0
    rw [ht] at h1
    rw [hr] at h2
    rw [hp] at h4
    simp only [HO.out] at TW CO CH
    have HFV : Hid (∀ v : Value, [.int .u8 (k : Int), .int .u32 (t : Int), .int .u8 (r : Int), v, .int .i64 p] = [Value.int .u8 (x.k : Int), .int .u32 (x.t : Int), .int .u8 (x.r : Int), v, .int .i64 x.p]) := fun v => by rw [hk, ht, hr, hp]
    obtain ⟨qc, hqc⟩ : ∃ q, contB x = q := ⟨_, rfl⟩
    rw [hqc] at CO FT
    obtain ⟨q, hq⟩ : ∃ q, Q x = q := ⟨_, rfl⟩
    rw [hq] at CH FT
    have BL : Hid (Below wr.heap.size wr (wr.alloc (.cells #[.int .u8 (k : Int), .int .u32 (t : Int), .int .u8 (r : Int), .slice uo nu uc, .int .i64 p] 36))) := (Below.refl _ _).alloc (Nat.le_refl _) _
    have SK : Hid (∀ W : World, Below (wr.alloc (.cells #[.int .u8 (k : Int), .int .u32 (t : Int), .int .u8 (r : Int), .slice uo nu uc, .int .i64 p] 36)).heap.size (wr.alloc (.cells #[.int .u8 (k : Int), .int .u32 (t : Int), .int .u8 (r : Int), .slice uo nu uc, .int .i64 p] 36)) W → (W.cell? ⟨wr.heap.size, 0, none⟩ = some (.int .u8 (k : Int)) ∧ W.cell? ⟨wr.heap.size, 1, none⟩ = some (.int .u32 (t : Int)) ∧ W.cell? ⟨wr.heap.size, 2, none⟩ = some (.int .u8 (r : Int)) ∧ W.cell? ⟨wr.heap.size, 3, none⟩ = some (.slice uo nu uc) ∧ W.cell? ⟨wr.heap.size, 4, none⟩ = some (.int .i64 p)) ∧ W.cell? ⟨w2.heap.size, 0, none⟩ = some (.slice fo nf fc) ∧ W.cell? ⟨w2.heap.size, 1, none⟩ = some (.slice to' nt tc) ∧ W.cell? ⟨w2.heap.size, 2, none⟩ = some (.func (.func 86) #[] #[.pointer (some ⟨g, 0, none⟩)])) := fun W h => by
      have g1 := blk_below h (blk_below BL.out (blk_below hbm.out XM.out))
      exact ⟨five_cells h, cell_of_row _ _ 0 _ _ _ g1, cell_of_row _ _ 1 _ _ _ g1, cell_of_row _ _ 2 _ _ _ g1⟩
    clear hk ht hr hp HO hqc hq
    cases qc
    · have FT2 : Hid ((l.take (j + 1)).filter (fun o => contB o && Q o) = L) := by unfold Hid; rw [FT.out]; simp
      clear FT TW HFV SK CH
      go_wp2_with fail
      refine (CO.out _).mono ?_
      rintro e w5 ⟨rfl, b5⟩
      have B5 := Lib.hid (bt BL.out b5)
      clear b5
      have L5 := Lib.hid (hown.out.keeps B5.out)
      have B6 := Lib.hid (bt hbm.out B5.out)
      rw [← FT2.out] at L5 HM
      clear hown
      go_wp2
      go_roundw
      case rel => exact ⟨j + 1, m, by omega, by go_num, by omega, ⟨aoL, capL, rfl⟩, HM, L5, B6⟩
      case measure => simp [intOf]; omega
    cases q
    · have FT2 : Hid ((l.take (j + 1)).filter (fun o => contB o && Q o) = L) := by unfold Hid; rw [FT.out]; simp
      clear FT TW HFV
      go_wp2_with fail
      refine (CO.out _).mono ?_
      rintro e w4 ⟨rfl, b4⟩
      have B4 := Lib.hid (bt BL.out b4)
      obtain ⟨⟨g0, g1, g2, g3, g4⟩, f0, f1, f2⟩ := SK.out _ b4
      clear b4 SK h0 h1 h2 h3 h4
      go_wp2_with fail
      refine (CH.out _ B4.out).mono ?_
      rintro e w5 ⟨rfl, b5⟩
      have B5 := Lib.hid (bt B4.out b5)
      clear b5 g0 g1 g2 g3 g4 f0 f1 f2
      have L5 := Lib.hid (hown.out.keeps B5.out)
      have B6 := Lib.hid (bt hbm.out B5.out)
      rw [← FT2.out] at L5 HM
      clear hown
      go_wp2
      go_roundw
      case rel => exact ⟨j + 1, m, by omega, by go_num, by omega, ⟨aoL, capL, rfl⟩, HM, L5, B6⟩
      case measure => simp [intOf]; omega
    have FT2 : Hid ((l.take (j + 1)).filter (fun o => contB o && Q o) = L ++ [x]) := by unfold Hid; rw [FT.out]; simp
    clear FT
    go_wp2_with fail
    refine (CO.out _).mono ?_
    rintro e w3 ⟨rfl, b3⟩
    have B3' := Lib.hid (bt BL.out b3)
    have BX3 := Lib.hid b3
    obtain ⟨⟨g0, g1, g2, g3, g4⟩, f0, f1, f2⟩ := SK.out _ b3
    clear b3 h0 h1 h2 h3 h4
    go_wp2_with fail
    refine (CH.out _ B3'.out).mono ?_
    rintro e w4 ⟨rfl, b4⟩
    have B4 := Lib.hid (bt B3'.out b4)
    clear g0 g1 g2 g3 g4 f0 f1 f2
    obtain ⟨⟨g0, g1, g2, g3, g4⟩, f0, f1, f2⟩ := SK.out _ (bt BX3.out b4)
    clear b4 SK f0 f1 f2 BX3 B3'
    go_wp2_with fail
    refine (TW.out _ B4.out).mono ?_
    rintro e w5 ⟨aoO, capO, rfl, o5, b5⟩
    have B5 := Lib.hid (bt B4.out b5)
    have BW5 := Lib.hid (bt hbel.out B5.out)
    have BM5 := Lib.hid (bt hbm.out B5.out)
    have LL := Lib.hid (hown.out.keeps B5.out)
    obtain ⟨cs, lo, lh⟩ := LL.out
    rw [← HM.out] at lo
    have LO := Lib.hid lo
    have LH := Lib.hid lh
    have PO : Hid (w5.ownsRow wm.heap.size 42 3 (.slice aoO nu capO) x.pl.length (runs x.pl)) := o5
    have SE : Hid (Sees (w5.alloc (.cells #[.int .u8 (k : Int), .int .u32 (t : Int), .int .u8 (r : Int), .slice aoO nu capO, .int .i64 p] 36)) (.slice (some ⟨w5.heap.size, 0, none⟩) 1 1) 5 1 [.int .u8 (k : Int), .int .u32 (t : Int), .int .u8 (r : Int), .slice aoO nu capO, .int .i64 p]) := sees_new w5 [.int .u8 (k : Int), .int .u32 (t : Int), .int .u8 (r : Int), .slice aoO nu capO, .int .i64 p] 5 1 rfl (by omega) 36 (0, 0)
    have OA : Hid ((w5.alloc (.cells #[.int .u8 (k : Int), .int .u32 (t : Int), .int .u8 (r : Int), .slice aoO nu capO, .int .i64 p] 36)).ownsRow wm.heap.size 36 5 (.slice aoL m capL) m cs) := own_stays LO.out ((Below.refl _ _).alloc (Nat.le_refl _) _)
    have FO2 : Hid (∀ z ∈ ([.int .u8 (k : Int), .int .u32 (t : Int), .int .u8 (r : Int), .slice aoO nu capO, .int .i64 p] : List Value), z.oneCell' = true) := by unfold Hid; rw [HFV.out]; exact five_one x _ ⟨_, _, _, rfl⟩
    have bz : Hid (wm.heap.size ≤ (w5.alloc (.cells #[.int .u8 (k : Int), .int .u32 (t : Int), .int .u8 (r : Int), .slice aoO nu capO, .int .i64 p] 36)).heap.size) := by have := BM5.out.size; unfold Hid; simp; omega
    clear o5 b5 lo lh hown hbel LL g0 g1 g2 g3 g4
    go_wp2_with (at_builtin; refine wpList_append_sees rfl (.tmp 44) (.tmp 47) 26 36 rfl Try.underlying26 op_info rfl (by decide) wm.heap.size _ m cs rfl OA.out _ 1 [.int .u8 (k : Int), .int .u32 (t : Int), .int .u8 (r : Int), .slice aoO nu capO, .int .i64 p] rfl SE.out FO2.out ?k1 ?k2 ?k3 ?_)
    case k1 => omega
    case k2 => omega
    case k3 => exact bz.out
    rintro v6 w6 o6 g6 b6
    have L6 : Hid (OwnL w6 wm.heap.size v6 ((l.take (j + 1)).filter (fun o => contB o && Q o))) := by
      have lo2 := LO.out
      have o7 := o6
      rw [HFV.out] at o7
      have po := own_stays PO.out ((Below.refl _ _).alloc (Nat.le_refl _) (.cells #[.int .u8 (k : Int), .int .u32 (t : Int), .int .u8 (r : Int), .slice aoO nu capO, .int .i64 p] 36))
      have gx := g6
      unfold Hid
      rw [FT2.out]
      rw [HM.out] at lo2 gx
      refine OwnL.snoc (W := w5) (W8 := w5.alloc (.cells #[.int .u8 (k : Int), .int .u32 (t : Int), .int .u8 (r : Int), .slice aoO nu capO, .int .i64 p] 36)) (m := m + 1) lo2 LH.out ((Below.refl _ _).alloc (Nat.le_refl _) _) po gx o7 (by rw [HM.out])
    have M6 : Hid (m + 1 = ((l.take (j + 1)).filter (fun o => contB o && Q o)).length) := by unfold Hid; rw [FT2.out, List.length_append, ← HM.out]; rfl
    have B6 : Hid (Below wm.heap.size wm w6) := (BM5.out.alloc BM5.out.size _).trans b6
    obtain ⟨va, vc, rfl⟩ : ∃ ao cap, v6 = .slice ao (m + 1) cap := Sees.shape (Sees.own o6)
    clear o6 g6 b6 OA SE LO LH PO bz
    go_wp2
    go_roundw
    case rel => exact ⟨j + 1, m + 1, by omega, by go_num, by omega, ⟨va, vc, rfl⟩, M6, L6, B6⟩
    case measure => simp [intOf]; omega
theorem homed_filter {l : List Opn} {s : Id} (hE : spanE l s = 0) : l.filter (fun o => contB o && homB (fromL l s) (toL l s) o.pl) = inL l (livesM l l) s := by
  unfold inL
  refine List.filter_congr fun o ho => ?_
  rw [homB_is hE (anyB_may (mayO_parts ((spanE_zero.1 hE).1.2.1 o ho)).2.1)]
theorem counts_filter {l : List Opn} {s : Id} (hE : spanE l s = 0) : l.filter (fun o => contB o && (homB (fromL l s) (toL l s) o.pl && isB l (livesM l l) s o)) = countL l (livesM l l) s := by
  unfold countL
  rw [← homed_filter hE, List.filter_filter]
  refine List.filter_congr fun o ho => ?_
  cases contB o <;> cases homB (fromL l s) (toL l s) o.pl <;> cases isB l (livesM l l) s o <;> rfl
set_option maxRecDepth 100000 in
set_option maxHeartbeats 4000000 in
theorem cCounts_any {v : Value} {l : List Opn} (s : Id) {w : World} (hv : OpL w v l) : Calls Try.prog 28 #[v, .agg #[.int .u32 (s.t : Int), .int .u8 (s.r : Int)]] w (DoneN (countsL l s) (spanE l s) w) := by
  have B0 : Hid (Below w.heap.size w (w.alloc (.cells #[.int .u32 (s.t : Int), .int .u8 (s.r : Int)] 30))) := (Below.refl _ _).alloc (Nat.le_refl _) _
  have CH : Hid (Calls Try.prog 45 #[v, .agg #[.int .u32 (s.t : Int), .int .u8 (s.r : Int)], .func (.func 46) #[] #[]] (w.alloc (.cells #[.int .u32 (s.t : Int), .int .u8 (s.r : Int)] 30)) (DoneN (countsL l s) (spanE l s) (w.alloc (.cells #[.int .u32 (s.t : Int), .int .u8 (s.r : Int)] 30)))) := by
    have h := chosen_any s 46 (enters_of Try.func46 (by kernel_rfl) rfl) (fun o => homB (fromL l s) (toL l s) o.pl && isB l (livesM l l) s o) (hv.keeps B0.out) (fun hE => fun W va vb u g b n o ho ha hb hu hs hc hg => counts_any hE ho ha hb hu hs hc hg)
    have e : (if spanE l s = 0 then l.filter (fun o => contB o && (fun o => homB (fromL l s) (toL l s) o.pl && isB l (livesM l l) s o) o) else []) = countsL l s := by
      unfold countsL
      by_cases hE : spanE l s = 0
      · rw [if_pos hE, if_pos hE]; exact counts_filter hE
      · rw [if_neg hE, if_neg hE]
    rwa [e] at h
  obtain ⟨ao, cap, rfl⟩ := hv.shape
  obtain ⟨n, hn⟩ : ∃ n, n = l.length := ⟨_, rfl⟩
  rw [← hn] at CH ⊢
  obtain ⟨R, hR⟩ : ∃ R, countsL l s = R := ⟨_, rfl⟩
  obtain ⟨c, hc⟩ : ∃ c, spanE l s = c := ⟨_, rfl⟩
  rw [hR, hc] at CH ⊢
  obtain ⟨st, sr, hst, hsr⟩ := s
  simp only at CH B0 ⊢
  clear hv hn hR hc
  go_enter Try.func28, Try.ntmps28
  go_wp2_with fail
  refine CH.out.mono ?_
  rintro e w1 ⟨va, rfl, o1, b1⟩
  have B1 := Lib.hid (bt B0.out b1)
  have O1 : Hid (OwnL w1 w.heap.size va R) := o1.base B0.out.size
  clear b1 o1 CH B0
  go_wp2
  go_ret2
  exact ⟨_, rfl, O1.out, B1.out⟩
theorem bag_count {l : List Opn} (h : Bag l) (live : List Opn) (s : Id) : Bag (countL l live s) := ⟨Nat.le_trans (countL_sub l live s).length_le h.1, fun o ho => h.2.1 o ((countL_sub l live s).subset ho), h.2.2.sublist (countL_sub l live s)⟩
end Go.Proofs.Ytmiepnnpccpicaa.Covers

namespace Go.Proofs.Ytmiepnnpccpicaa.Views
open Go.RowKit Go.WideShapes Stamp Go.Proofs.Ytmiepnnpccpicaa.Place Ops Codes Bags Marks Homes Covers
attribute [local go_sem ↓] Go.wp_at_zero Go.wp_at_succ
attribute [local go_sem] yielded_undef
theorem ownL_place {w : World} {base n cap bb oo : Nat} {v u : Value} {l : List Opn} (hv : OwnL w base v l) (k : Nat) (h : k < l.length) (e : v = .slice (some ⟨bb, oo, none⟩) n cap) (hc : w.cell? ⟨bb, oo + k * 5 + 3, none⟩ = some u) : w.ownsRow base 42 3 u (l[k]'h).pl.length (runs (l[k]'h).pl) := by
  obtain ⟨g, c2, y, e2, h3, ho⟩ := ownL_at hv k h
  rw [e] at e2
  injection e2 with e2 _ _
  injection e2 with e2
  injection e2 with e3 e4 _
  subst e3 e4
  rw [Nat.zero_add] at hc
  rw [hc] at h3
  injection h3 with h3
  subst h3
  exact ho
set_option maxRecDepth 100000 in
set_option maxHeartbeats 16000000 in
theorem vElements_any {v : Value} {l : List Opn} (s : Id) {w : World} (hv : OpL w v l) : Calls Try.prog 17 #[v, .agg #[.int .u32 (s.t : Int), .int .u8 (s.r : Int)]] w (DoneOE (elmL l s) (spanE l s) w) := by
  have B0 : Hid (Below w.heap.size w (w.alloc (.cells #[.int .u32 (s.t : Int), .int .u8 (s.r : Int)] 30))) := (Below.refl _ _).alloc (Nat.le_refl _) _
  have CC : Hid (Calls Try.prog 28 #[v, .agg #[.int .u32 (s.t : Int), .int .u8 (s.r : Int)]] (w.alloc (.cells #[.int .u32 (s.t : Int), .int .u8 (s.r : Int)] 30)) (DoneN (countsL l s) (spanE l s) (w.alloc (.cells #[.int .u32 (s.t : Int), .int .u8 (s.r : Int)] 30)))) := cCounts_any s (hv.keeps B0.out)
  obtain ⟨ao, cap, rfl⟩ := hv.shape
  obtain ⟨n0, hn0⟩ : ∃ n, n = l.length := ⟨_, rfl⟩
  rw [← hn0] at CC ⊢
  by_cases hE : spanE l s = 0
  rotate_left
  · have e1 : elmL l s = [] := elm_no hE
    rw [e1]
    obtain ⟨c, hc⟩ : ∃ c, spanE l s = c := ⟨_, rfl⟩
    obtain ⟨R, hR⟩ : ∃ R, countsL l s = R := ⟨_, rfl⟩
    rw [hc] at hE CC ⊢
    rw [hR] at CC
    have q1 : (c != 0) = true := by simpa using hE
    have q2 : decide (c = 0) = false := decide_eq_false hE
    obtain ⟨st, sr, hst, hsr⟩ := s
    simp only at CC B0 ⊢
    clear hv hn0 hc hR e1
    go_enter Try.func17, Try.ntmps17
    go_wp2_with fail
    refine CC.out.mono ?_
    rintro e w1 ⟨va, rfl, o1, b1⟩
    have B1 := Lib.hid (bt B0.out b1)
    clear o1 b1 CC B0
    go_wp2
    go_ret2
    exact ⟨_, rfl, OwnE.nil _ _, B1.out⟩
  have hbag : Bag (countsL l s) := by
    unfold countsL
    rw [if_pos hE]
    exact bag_count (spanE_zero.1 hE).1 _ _
  rw [hE] at CC ⊢
  unfold elmL
  obtain ⟨C, hC⟩ : ∃ C, countsL l s = C := ⟨_, rfl⟩
  rw [hC] at CC hbag ⊢
  have TA : Hid (∀ (W : World) (y : Value), OpL W y C → Calls Try.prog 29 #[y] W fun e w' => e = .returned (.map (some W.heap.size)) ∧ SetI w' W.heap.size C.length (goneM C) ∧ Below W.heap.size W w') := fun W y h => takenAway_any h hbag.2.1 hbag.1
  have SO : Hid (∀ (W : World) (v : Value) (base : Nat), OwnE W base v (pickE C C) → Calls Try.prog 30 #[v, .func (.func 31) #[] #[]] W fun e w' => e = .returned (.tuple #[]) ∧ OwnE w' base v (seenM C) ∧ Below base W w') := fun W v base h => by
    refine (sortE_any h (fun o ho => anyB_may (mayO_parts (hbag.2.1 o (mem_pickE.1 ho).1)).2.1) (by have h1 := hbag.1; have h2 : (pickE C C).length ≤ C.length := List.length_filter_le _ _; omega)).mono ?_
    rintro e w' ⟨rfl, l', h1, h2, h3, h4⟩
    rw [pickE_is hbag.2.1 hbag.2.2 h1 h2]
    exact ⟨rfl, h3, h4⟩
  obtain ⟨R, hR⟩ : ∃ z, seenM C = z := ⟨_, rfl⟩
  rw [hR] at SO ⊢
  have hnm : C.length ≤ 1024 := hbag.1
  obtain ⟨n, hn⟩ : ∃ n, n = C.length := ⟨_, rfl⟩
  have HN := Lib.hid hn
  rw [← hn] at hnm TA
  obtain ⟨st, sr, hst, hsr⟩ := s
  simp only at CC B0 ⊢
  clear hv hn0 hbag hE hC hR hn
  go_enter Try.func17, Try.ntmps17
  go_wp2_with fail
  refine CC.out.mono ?_
  rintro e w1 ⟨va, rfl, o1, b1⟩
  have B1 := Lib.hid (bt B0.out b1)
  have O1 : Hid (OwnL w1 w.heap.size va C) := o1.base B0.out.size
  obtain ⟨va0, vc0, rfl⟩ := O1.out.opl.shape
  rw [← HN.out] at O1 ⊢
  clear o1 b1 CC B0
  go_wp2_with fail
  refine (TA.out _ _ O1.out.opl).mono ?_
  rintro e w2 ⟨rfl, s2, b2⟩
  obtain ⟨N, hN⟩ : ∃ N, w1.heap.size = N := ⟨_, rfl⟩
  have hNw : w.heap.size ≤ N := by rw [← hN]; exact B1.out.size
  rw [hN] at s2
  have SM : Hid (∀ W : World, Below w2.heap.size w2 W → SetI W N n (goneM C)) := fun W h => s2.keeps h
  have HV : Hid (∀ W : World, Below w2.heap.size w2 W → OwnL W w.heap.size (.slice va0 n vc0) C) := fun W h => (O1.out.keeps b2).keeps h
  have B2 := Lib.hid (bt B1.out b2)
  have HNW : Hid (w.heap.size ≤ w2.heap.size) := B2.out.size
  have L2 : Hid (TwE w2 w2.heap.size w.heap.size (.slice none 0 0) (pickE C (C.take 0))) := TwE.nil _ _ _
  have M2 : Hid (0 = (pickE C (C.take 0)).length) := rfl
  have Z2 : Hid (Below w2.heap.size w2 w2) := Below.refl _ _
  rw [hN]
  clear s2 b2 hN O1 B1 TA hNw
  go_wp2
  go_loopw [9, 27] (fun v i wr => ∃ j m : Nat, j ≤ n ∧ i = .int .i64 (j : Int) ∧ m ≤ j ∧ (∃ ao cap, v = .slice ao m cap) ∧ Hid (m = (pickE C (C.take j)).length) ∧ Hid (TwE wr w2.heap.size w.heap.size v (pickE C (C.take j))) ∧ Hid (Below w2.heap.size w2 wr)) (fun _ i _ => n - (intOf i).toNat)
  case atStart => exact ⟨0, 0, by omega, rfl, by omega, ⟨none, 0, rfl⟩, M2, L2, Z2⟩
  case round =>
    clear M2 L2 Z2
    obtain ⟨j, m, hj, rfl, hmj, ⟨aoL, capL, rfl⟩, HM, hown, hbm⟩ := hrel
    have hbel : Hid (Below w.heap.size w wr) := bt B2.out hbm.out
    by_cases hjn : j < n
    rotate_left
    · have q3 : decide (j < n) = false := by simpa using hjn
      have hkk : C.take j = C := List.take_of_length_le (by have := HN.out; omega)
      rw [hkk] at hown
      have SX := Lib.hid (SO.out _ _ _ (hown.out.own HNW.out))
      clear hkk SO HV SM hown HM
      go_wp2_with fail
      refine SX.out.mono ?_
      rintro e w3 ⟨rfl, o3, b3⟩
      have O3 := Lib.hid o3
      have B3 : Hid (Below w.heap.size w w3) := hbel.out.trans b3
      clear o3 b3 SX
      go_wp2
      go_ret2
      exact ⟨_, rfl, O3.out, B3.out⟩
    have q3 : decide (j < n) = true := by simpa using hjn
    have q4 : (0 : Int) ≤ (j : Int) := by omega
    have q5 : (j : Int) < (n : Int) := by omega
    have hjl : j < C.length := by rw [← HN.out]; exact hjn
    have OV := HV.out wr hbm.out
    obtain ⟨bb, oo, u, e, hbb, hru, h0, h1, h2, h3, h4⟩ := opl_at (ao := va0) (m := n) (cap := vc0) OV.opl j hjl
    have hrow := ownL_place OV j hjl (by rw [e]) h3
    subst e
    obtain ⟨x, hx⟩ : ∃ x, x = C[j]'hjl := ⟨_, rfl⟩
    rw [← hx] at hru h0 h1 h2 h4 hrow
    obtain ⟨uo, uc, rfl⟩ := hru.shape
    obtain ⟨nu, hnu⟩ : ∃ n, n = x.pl.length := ⟨_, rfl⟩
    have HNU := Lib.hid hnu
    rw [← hnu] at h3 hrow
    clear hnu
    have hst2 : C.take (j + 1) = C.take j ++ [x] := by rw [List.take_succ_eq_append_getElem hjl, hx]
    have FY : Hid (x.k = 1 → goneM C (idO x) = false → pickE C (C.take (j + 1)) = pickE C (C.take j) ++ [x]) := fun h h2 => by rw [hst2]; exact pickE_yes h h2
    have FN : Hid (¬ (x.k = 1 ∧ goneM C (idO x) = false) → pickE C (C.take (j + 1)) = pickE C (C.take j)) := fun h => by rw [hst2]; exact pickE_no h
    have BL : Hid (Below wr.heap.size wr (wr.alloc (.cells #[.int .u8 (x.k : Int), .int .u32 (x.t : Int), .int .u8 (x.r : Int), .slice uo nu uc, .int .i64 x.p] 36))) := (Below.refl _ _).alloc (Nat.le_refl _) _
    obtain ⟨D, d1, d2⟩ := SM.out _ (bt hbm.out BL.out)
    obtain ⟨vv, ps, hrun, hvv⟩ := d1.look_ok idLaw Try.underlying64 (Covers.ZU _) unitElem_mk (key_of (idO x))
    obtain ⟨rfl, _⟩ := unitElem_inv hvv
    rw [d2 (idO x)] at hrun
    unfold idv at hrun
    obtain ⟨q, hq⟩ : ∃ q, goneM C (idO x) = q := ⟨_, rfl⟩
    rw [hq] at hrun FY FN
    rw [show (idO x).t = x.t from rfl, show (idO x).r = x.r from rfl] at hrun
    have HRW := Lib.hid hrow
    clear hru hx hrow d1 d2 hvv hst2 hq
    obtain ⟨k, hk⟩ : ∃ z, x.k = z := ⟨_, rfl⟩
    obtain ⟨t, ht⟩ : ∃ z, x.t = z := ⟨_, rfl⟩
    obtain ⟨r, hr⟩ : ∃ z, x.r = z := ⟨_, rfl⟩
    obtain ⟨p, hp⟩ : ∃ z, x.p = z := ⟨_, rfl⟩
    have HFV : Hid (∀ v : Value, [.int .u32 (t : Int), .int .u8 (r : Int), v, .int .i64 p] = [Value.int .u32 (x.t : Int), .int .u8 (x.r : Int), v, .int .i64 x.p]) := fun v => by rw [ht, hr, hp]
    rw [hk, ht, hr, hp] at hrun BL
    rw [hk] at h0 FY FN
    rw [ht] at h1
    rw [hr] at h2
    rw [hp] at h4
    have BM : Hid (Below wr.heap.size wr ((wr.alloc (.cells #[.int .u8 (k : Int), .int .u32 (t : Int), .int .u8 (r : Int), .slice uo nu uc, .int .i64 p] 36)).alloc (.cells #[] 66))) := BL.out.alloc (by simp) _
    have L5 := Lib.hid (hown.out.keeps BM.out)
    have B5 := Lib.hid (bt hbm.out BM.out)
    clear hk ht hr hp BL
    by_cases hk1 : k = 1
    rotate_left
    · have qk : ((k : Int) == 1) = false := by simp; omega
      have qk2 : decide ((k : Int) = 1) = false := decide_eq_false (by omega)
      have FT := Lib.hid (FN.out (fun h => hk1 h.1))
      rw [← FT.out] at L5 HM
      clear FY FN FT hk1 SO HV SM HRW HFV hown hbel hbb
      go_wp2
      go_roundw
      case rel => exact ⟨j + 1, m, by omega, by go_num, by omega, ⟨aoL, capL, rfl⟩, HM, L5, B5⟩
      case measure => simp [intOf]; omega
    subst hk1
    have e1 : ((1 : Nat) : Int) = 1 := rfl
    rw [e1] at h0 hrun BM L5 B5
    clear e1
    cases q
    rotate_left
    · have FT := Lib.hid (FN.out (by simp))
      rw [← FT.out] at L5 HM
      clear FY FN FT SO HV SM HRW HFV hown hbel hbb
      go_wp2
      go_roundw
      case rel => exact ⟨j + 1, m, by omega, by go_num, by omega, ⟨aoL, capL, rfl⟩, HM, L5, B5⟩
      case measure => simp [intOf]; omega
    have FT := Lib.hid (FY.out (by first | trivial | rfl) (by first | trivial | rfl))
    clear FY FN L5 B5 SO HV SM hbel
    obtain ⟨WM, hWM⟩ : ∃ z, (wr.alloc (.cells #[.int .u8 1, .int .u32 (t : Int), .int .u8 (r : Int), .slice uo nu uc, .int .i64 p] 36)).alloc (.cells #[] 66) = z := ⟨_, rfl⟩
    have hsz : WM.heap.size = wr.heap.size + 1 + 1 := by rw [← hWM]; simp
    rw [hWM] at BM
    have BE : Hid (Below wr.heap.size wr (WM.alloc (.cells #[.int .u32 (t : Int), .int .u8 (r : Int), .slice uo nu uc, .int .i64 p] 38))) := BM.out.alloc (by omega) _
    have SE : Hid (Sees (WM.alloc (.cells #[.int .u32 (t : Int), .int .u8 (r : Int), .slice uo nu uc, .int .i64 p] 38)) (.slice (some ⟨wr.heap.size + 1 + 1, 0, none⟩) 1 1) 4 1 [.int .u32 (t : Int), .int .u8 (r : Int), .slice uo nu uc, .int .i64 p]) := by
      have := sees_new WM [.int .u32 (t : Int), .int .u8 (r : Int), .slice uo nu uc, .int .i64 p] 4 1 rfl (by omega) 38 (0, 0)
      rwa [hsz] at this
    have HW3 : Hid (∃ z, WM.alloc (.cells #[.int .u32 (t : Int), .int .u8 (r : Int), .slice uo nu uc, .int .i64 p] 38) = z) := ⟨_, rfl⟩
    obtain ⟨cs, lo, lh⟩ := hown.out
    rw [← HM.out] at lo
    have LO := Lib.hid lo
    have LH := Lib.hid lh
    have OA : Hid ((WM.alloc (.cells #[.int .u32 (t : Int), .int .u8 (r : Int), .slice uo nu uc, .int .i64 p] 38)).ownsRow w2.heap.size 38 4 (.slice aoL m capL) m cs) := own_stays LO.out BE.out
    have PO : Hid ((WM.alloc (.cells #[.int .u32 (t : Int), .int .u8 (r : Int), .slice uo nu uc, .int .i64 p] 38)).ownsRow w.heap.size 42 3 (.slice uo nu uc) x.pl.length (runs x.pl)) := by unfold Hid; rw [← HNU.out]; exact own_stays HRW.out BE.out
    have FO2 : Hid (∀ z ∈ ([.int .u32 (t : Int), .int .u8 (r : Int), .slice uo nu uc, .int .i64 p] : List Value), z.oneCell' = true) := by unfold Hid; rw [HFV.out]; exact four_one x _ ⟨_, _, _, rfl⟩
    have bz : Hid (w2.heap.size ≤ (WM.alloc (.cells #[.int .u32 (t : Int), .int .u8 (r : Int), .slice uo nu uc, .int .i64 p] 38)).heap.size) := Nat.le_trans hbm.out.size BE.out.size
    subst hWM
    clear lo lh hown HW3 HRW hsz hbb BM
    go_wp2_with (at_builtin; refine wpList_append_sees rfl (.tmp 45) (.tmp 53) 49 38 rfl Try.underlying49 elm_info rfl (by decide) w2.heap.size _ m cs rfl OA.out _ 1 [.int .u32 (t : Int), .int .u8 (r : Int), .slice uo nu uc, .int .i64 p] rfl SE.out FO2.out ?k1 ?k2 ?k3 ?_)
    case k1 => omega
    case k2 => omega
    case k3 => exact bz.out
    rintro v6 w6 o6 g6 b6
    have L6 : Hid (TwE w6 w2.heap.size w.heap.size v6 (pickE C (C.take (j + 1)))) := by
      have lo2 := LO.out
      have o7 := o6
      rw [HFV.out] at o7
      have gx := g6
      unfold Hid
      rw [FT.out]
      rw [HM.out] at lo2 gx
      exact TwE.snoc (m := m + 1) lo2 LH.out BE.out PO.out gx o7 (by rw [HM.out])
    have M6 : Hid (m + 1 = (pickE C (C.take (j + 1))).length) := by unfold Hid; rw [FT.out, List.length_append, ← HM.out]; rfl
    have B6 : Hid (Below w2.heap.size w2 w6) := (bt hbm.out BE.out).trans b6
    obtain ⟨va, vc, rfl⟩ : ∃ ao cap, v6 = .slice ao (m + 1) cap := Sees.shape (Sees.own o6)
    clear o6 g6 b6 OA SE LO LH PO bz
    go_wp2
    go_roundw
    case rel => exact ⟨j + 1, m + 1, by omega, by go_num, by omega, ⟨va, vc, rfl⟩, M6, L6, B6⟩
    case measure => simp [intOf]; omega
end Go.Proofs.Ytmiepnnpccpicaa.Views
