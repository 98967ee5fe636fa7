/- octavoref14.Is: what it answers. Conditions: an operation that may be; live marks that may be. octavoref14.Counting, asked, Homed, Counts, Known, Version: what each answers. Conditions: the slices' cells are operations. octavoref15.Of, Elements, Before, Offset, At: what each answers. Conditions: the slices' cells are operations, runs. What the calls of anchor answer. Conditions: none. What calls of home answer. Conditions: none. octavoref15.At: what it answers. Conditions: the slice's cells are operations; the number is one. -/
import Derived.Test.YtmiepnnpccpicaaGreatChecked
import Derived.WalkKit
import Derived.WalkSpells
import Derived.WalkLawsBesides
import Derived.Laws.BytesArg
import Derived.Lib.Hide
import Derived.Deep.LoopGhost
import Derived.Laws.AppendOwnNone
import Derived.Laws.OwnMore
import Derived.WideShapes
import Derived.Maps.AppendAt
import Derived.RegionTactic
import Derived.Deep.RegionHeld3
import Derived.Deep.DrawnRows
import Derived.Deep.QuietTactic
import Derived.BigQuiet
import Derived.IntWalk
import Derived.Deep.DeepCutAuto
import Derived.ScopeJumps
import Derived.Test.YtmiepnnpccpicaaGreatProg
import Derived.LoopTactic
import Derived.Laws.EntriesVeiled
import Derived.RowKit
import Derived.Lib.DecodeN
import Derived.Lib.RuneBytes
import Derived.Test.YtmiepnnpccpicaaGreatRw
import Derived.Test.YtmiepnnpccpicaaGreatPk20
import Derived.Test.YtmiepnnpccpicaaGreatPk05
import Derived.Test.YtmiepnnpccpicaaGreatPk17
import Derived.Test.YtmiepnnpccpicaaGreatPk04
import Derived.Test.YtmiepnnpccpicaaGreatPk16
import Derived.Test.YtmiepnnpccpicaaGreatPk03
import Derived.Test.YtmiepnnpccpicaaGreatPk02
import Derived.Test.YtmiepnnpccpicaaGreatPk15
import Derived.Test.YtmiepnnpccpicaaGreatPk01
import Derived.Test.YtmiepnnpccpicaaGreatPk18
import Derived.Test.YtmiepnnpccpicaaGreatPk19
import Derived.Test.YtmiepnnpccpicaaGreatPk10

namespace Go.Proofs.YtmiepnnpccpicaaGreat.Covers
open Go.RowKit Go.WideShapes Stamp Go.Proofs.YtmiepnnpccpicaaGreat.Place Ops Codes Bags Marks Homes
attribute [local go_sem ↓] Go.wp_at_zero Go.wp_at_succ
attribute [local go_sem] yielded_undef
theorem refFinal_may {v : Value} {q : List Run} {w : World} (hv : Runs w v q) (hm : mayB q = true) :
    Calls Tryz.prog 99 #[v] w fun e w' => e = .returned (.agg #[.int .u32 (lastV q).1, .int .u8 (lastV q).2]) ∧ Below w.heap.size w w' := by
  have hM := (mayB_iff q).1 hm
  have h1 := chain_one hM.2.2.1 (k := q.length - 1) (by have := hM.1; omega)
  have := final_any hv (k := q.length - 1) (by have := hM.1; omega) rfl h1 (by have := hM.2.1; omega)
  unfold lastV
  rw [if_pos hm]
  exact this
set_option maxRecDepth 100000 in
set_option maxHeartbeats 16000000 in
theorem refIs14_any {v u0 y : Value} {l live : List Opn} (s : Id) {o : Opn} {w : World} (hv : OpL w v l) (hu : OpL w u0 live) (hy : Runs w y o.pl) (ho : mayO o = true) (hmm : ∀ o ∈ live, mayO o = true) :
    Calls Tryz.prog 107 #[v, u0, .agg #[.int .u32 (s.t : Int), .int .u8 (s.r : Int)], opv o y] w fun e w' => e = .returned (.bool (isB l live s o)) ∧ Below w.heap.size w w' := by
  have hmo := (mayO_parts ho).2.1
  have hMo := (mayB_iff _).1 hmo
  obtain ⟨wb, hwb⟩ : ∃ x, x = w.alloc (.cells #[.int .u32 (s.t : Int), .int .u8 (s.r : Int)] 25) := ⟨_, rfl⟩
  obtain ⟨wl, hwl⟩ : ∃ x, x = wb.alloc (.cells #[.int .u8 (o.k : Int), .int .u32 (o.t : Int), .int .u8 (o.r : Int), y, .int .i64 o.p] 47) := ⟨_, rfl⟩
  have hsz : wb.heap.size = w.heap.size + 1 := by rw [hwb]; exact Array.size_push _
  have Bb : Below w.heap.size w wb := by rw [hwb]; exact (Below.refl _ _).alloc (Nat.le_refl _) _
  have Bbl : Below wb.heap.size wb wl := by rw [hwl]; exact (Below.refl _ _).alloc (Nat.le_refl _) _
  have B0 : Hid (Below w.heap.size w wl) := bt Bb Bbl
  have P0 : Hid (Pair wl w.heap.size (.int .u32 (s.t : Int)) (.int .u8 (s.r : Int))) := by
    have : Pair wb w.heap.size (.int .u32 (s.t : Int)) (.int .u8 (s.r : Int)) := by rw [hwb]; exact pair_new _ _ _ _
    exact this.keeps Bbl
  have O0 : Hid (wl.heap[w.heap.size + 1]? = some (.cells #[.int .u8 (o.k : Int), .int .u32 (o.t : Int), .int .u8 (o.r : Int), y, .int .i64 o.p] 47)) := by rw [hwl, ← hsz]; exact blk_new rfl
  have HW : Hid (wl = (w.alloc (.cells #[.int .u32 (s.t : Int), .int .u8 (s.r : Int)] 25)).alloc (.cells #[.int .u8 (o.k : Int), .int .u32 (o.t : Int), .int .u8 (o.r : Int), y, .int .i64 o.p] 47)) := by rw [hwl, hwb]; rfl
  have MA : Hid (∀ W : World, Below wl.heap.size wl W → Calls Tryz.prog 127 #[opv o y] W fun e w' => e = .returned (.int .i64 ((manyN o : Nat) : Int)) ∧ Below W.heap.size W w') := fun W h => refMany_any (hy.keeps (bt B0.out h)) hmo
  have CU : Hid (∀ (W : World) (j : Nat), Below wl.heap.size wl W → j ≤ 5000 → Calls Tryz.prog 128 #[y, .int .i64 (j : Int)] W fun e w' => ∃ v', e = .returned v' ∧ Runs w' v' (cutN o.pl j) ∧ Below W.heap.size W w') := fun W j h hj => refCut_any (hy.keeps (bt B0.out h)) hMo.2.2.1 (by have := hMo.2.1; omega) j hj
  have HO0 : Hid (∀ (W : World) (z : Value) (j : Nat), Below wl.heap.size wl W → Runs W z (cutN o.pl j) → Calls Tryz.prog 29 #[u0, z] W fun e w' => e = .returned (.agg #[.int .u32 ((homeM live (cutN o.pl j)).t : Int), .int .u8 ((homeM live (cutN o.pl j)).r : Int)]) ∧ Below W.heap.size W w') := fun W z j h hz => refHome_any (hu.keeps (bt B0.out h)) hz hmm (any_cutN hmo)
  have FI : Hid (∀ (W : World) (z : Value) (j : Nat), j < manyN o → Runs W z (cutN o.pl (j + 1)) → Calls Tryz.prog 99 #[z] W fun e w' => e = .returned (.agg #[.int .u32 (((all o.pl).getD j zid).t : Int), .int .u8 (((all o.pl).getD j zid).r : Int)]) ∧ Below W.heap.size W w') := fun W z j hj hz => by
    have := refFinal_may hz (may_cutN hmo (by omega))
    rw [last_cutN hmo (by unfold manyN at hj; omega)] at this
    exact this
  have HA : Hid (∀ (W : World) (a : Id), Below wl.heap.size wl W → Calls Tryz.prog 129 #[v, .agg #[.int .u32 (a.t : Int), .int .u8 (a.r : Int)]] W fun e w' => e = .returned (.bool (hasO l a)) ∧ Below W.heap.size W w') := fun W a h => refHasO_any a (hv.keeps (bt B0.out h))
  have HI : Hid (isB l live s o = true ↔ ∀ k, k < manyN o → homeM live (cutN o.pl (k + 1)) = s → hasO l ((all o.pl).getD k zid) = true) := isB_iff
  have hmn : manyN o ≤ 4096 := Nat.le_trans (Nat.sub_le _ _) (all_pos hmo).2.1
  obtain ⟨ao, cap, rfl⟩ := hv.shape
  obtain ⟨au, cu, rfl⟩ := hu.shape
  obtain ⟨yo, yc, rfl⟩ := hy.shape
  have HOV : Hid (∀ v : Value, opv o v = .agg #[.int .u8 (o.k : Int), .int .u32 (o.t : Int), .int .u8 (o.r : Int), v, .int .i64 o.p]) := fun v => rfl
  obtain ⟨n, hn⟩ : ∃ n, l.length = n := ⟨_, rfl⟩
  obtain ⟨nl, hnl⟩ : ∃ n, live.length = n := ⟨_, rfl⟩
  obtain ⟨ny, hny⟩ : ∃ n, o.pl.length = n := ⟨_, rfl⟩
  obtain ⟨M, hM⟩ : ∃ M, manyN o = M := ⟨_, rfl⟩
  rw [hn] at HA ⊢
  rw [hnl] at HO0 ⊢
  rw [hny] at MA CU O0 HW ⊢
  rw [hM] at MA FI HI hmn
  obtain ⟨I, hI⟩ : ∃ I, isB l live s o = I := ⟨_, rfl⟩
  rw [hI] at HI ⊢
  obtain ⟨hf, hhf⟩ : ∃ hf : Nat → Id, hf = fun j => homeM live (cutN o.pl j) := ⟨_, rfl⟩
  have HO1 : Hid (∀ (W : World) (z : Value) (j : Nat), Below wl.heap.size wl W → Runs W z (cutN o.pl j) → Calls Tryz.prog 29 #[.slice au nl cu, z] W fun e w' => e = .returned (.agg #[.int .u32 ((hf j).t : Int), .int .u8 ((hf j).r : Int)]) ∧ Below W.heap.size W w') := by rw [hhf]; exact HO0.out
  have HI1 : Hid (I = true ↔ ∀ k, k < M → ((hf (k + 1)).t = s.t ∧ (hf (k + 1)).r = s.r) → hasO l ((all o.pl).getD k zid) = true) := by
    unfold Hid
    rw [HI.out, hhf]
    constructor
    · intro h k hk e; exact h k hk (Id.eq_iff.2 e)
    · intro h k hk e; exact h k hk (Id.eq_iff.1 e)
  obtain ⟨af, haf⟩ : ∃ af : Nat → Id, af = fun k => (all o.pl).getD k zid := ⟨_, rfl⟩
  have FI1 : Hid (∀ (W : World) (z : Value) (j : Nat), j < M → Runs W z (cutN o.pl (j + 1)) → Calls Tryz.prog 99 #[z] W fun e w' => e = .returned (.agg #[.int .u32 ((af j).t : Int), .int .u8 ((af j).r : Int)]) ∧ Below W.heap.size W w') := by rw [haf]; exact FI.out
  have HI2 : Hid (I = true ↔ ∀ k, k < M → ((hf (k + 1)).t = s.t ∧ (hf (k + 1)).r = s.r) → hasO l (af k) = true) := by rw [haf]; exact HI1.out
  rw [HOV.out] at MA ⊢
  obtain ⟨ts, rs, hts, hrs⟩ := s
  simp only at P0 HI2 HW ⊢
  clear hv hu hy ho hmm hmo hMo hwb hwl hsz Bb Bbl hn hnl hny hM hI hhf haf HO0 HI HI1 FI
  obtain ⟨k, hk⟩ : ∃ z, o.k = z := ⟨_, rfl⟩
  obtain ⟨t, ht⟩ : ∃ z, o.t = z := ⟨_, rfl⟩
  obtain ⟨r, hr⟩ : ∃ z, o.r = z := ⟨_, rfl⟩
  obtain ⟨p, hp⟩ : ∃ z, o.p = z := ⟨_, rfl⟩
  rw [hk, ht, hr, hp] at MA O0 HW ⊢
  clear hk ht hr hp HOV
  have Z0 : Hid (Below wl.heap.size wl wl) := Below.refl _ _
  have hb0 : Hid (∀ i, i + 1 < 1 → ((hf (i + 1)).t = ts ∧ (hf (i + 1)).r = rs) → hasO l (af i) = true) := fun i hi => by omega
  go_enter Tryz.func107, Tryz.ntmps107
  go_wp2
  rw [← HW.out]
  go_loopw [9] (fun i wr => ∃ j : Nat, 1 ≤ j ∧ j ≤ M + 1 ∧ i = .int .i64 (j : Int) ∧ Hid (∀ i, i + 1 < j → ((hf (i + 1)).t = ts ∧ (hf (i + 1)).r = rs) → hasO l (af i) = true) ∧ Hid (Below wl.heap.size wl wr)) (fun i _ => M + 1 - (intOf i).toNat)
  case atStart => exact ⟨1, by omega, by omega, rfl, hb0, Z0⟩
  case round =>
    clear Z0 hb0
    obtain ⟨j, hj1, hj, rfl, hall, hbel⟩ := hrel
    have O1 := blk_below hbel.out O0.out
    obtain ⟨x0, x1, x2, x3, x4⟩ := cells5 O1
    clear O1
    go_wp2_with fail
    refine (MA.out _ hbel.out).mono ?_
    rintro e w1 ⟨rfl, b1⟩
    have B1 := Lib.hid (bt hbel.out b1)
    clear b1 x0 x1 x2 x3 x4 hbel
    by_cases hjM : j ≤ M
    rotate_left
    · have q3 : decide ((j : Int) ≤ (M : Int)) = false := decide_eq_false (by omega)
      have q3' : decide (j ≤ M) = false := decide_eq_false hjM
      obtain rfl : I = true := HI2.out.2 (fun i hi => hall.out i (by omega))
      have BE := Lib.hid (bt B0.out B1.out)
      clear HI2 hall MA CU HO1 FI1 HA
      go_wp2
      go_ret
      exact ⟨rfl, BE.out⟩
    have q3 : decide ((j : Int) ≤ (M : Int)) = true := decide_eq_true (by omega)
    have q3' : decide (j ≤ M) = true := decide_eq_true hjM
    obtain ⟨x0, x1, x2, x3, x4⟩ := cells5 (blk_below B1.out O0.out)
    go_wp2_with fail
    refine (CU.out _ j B1.out (by omega)).mono ?_
    rintro e w2 ⟨vp, rfl, r2, b2⟩
    obtain ⟨i, rfl⟩ : ∃ i, j = i + 1 := ⟨j - 1, by omega⟩
    have B2 := Lib.hid (bt B1.out b2)
    have R2 : Hid (∀ W : World, Below w2.heap.size w2 W → Runs W vp (cutN o.pl (i + 1))) := fun W h => r2.keeps h
    have HX : Hid (∀ W : World, Below w2.heap.size w2 W → Calls Tryz.prog 29 #[.slice au nl cu, vp] W fun e w' => e = .returned (.agg #[.int .u32 ((hf (i + 1)).t : Int), .int .u8 ((hf (i + 1)).r : Int)]) ∧ Below W.heap.size W w') := fun W h => HO1.out W vp (i + 1) (bt B2.out h) (R2.out W h)
    have FX : Hid (∀ W : World, Below w2.heap.size w2 W → Calls Tryz.prog 99 #[vp] W fun e w' => e = .returned (.agg #[.int .u32 ((af i).t : Int), .int .u8 ((af i).r : Int)]) ∧ Below W.heap.size W w') := fun W h => FI1.out W vp i (by omega) (R2.out W h)
    have AX : Hid (∀ W : World, Below w2.heap.size w2 W → Calls Tryz.prog 129 #[.slice ao n cap, .agg #[.int .u32 ((af i).t : Int), .int .u8 ((af i).r : Int)]] W fun e w' => e = .returned (.bool (hasO l (af i))) ∧ Below W.heap.size W w') := fun W h => HA.out W (af i) (bt B2.out h)
    obtain ⟨vpo, vpc, rfl⟩ := r2.shape
    obtain ⟨np, hnp⟩ : ∃ n, (cutN o.pl (i + 1)).length = n := ⟨_, rfl⟩
    rw [hnp] at HX FX ⊢
    have SK : Hid (∀ w' : World, Below w2.heap.size w2 w' → Below w2.heap.size w2 w' ∧ w'.cell? ⟨w.heap.size, 0, none⟩ = some (.int .u32 (ts : Int)) ∧ w'.cell? ⟨w.heap.size, 1, none⟩ = some (.int .u8 (rs : Int))) := fun W h => by
      have a2 := P0.out.keeps (bt B2.out h)
      exact ⟨h, a2.2.1, a2.2.2⟩
    have HST : Hid (((hf (i + 1)).t = ts ∧ (hf (i + 1)).r = rs → hasO l (af i) = true) → ∀ i2, i2 + 1 < i + 1 + 1 → ((hf (i2 + 1)).t = ts ∧ (hf (i2 + 1)).r = rs) → hasO l (af i2) = true) := fun h i2 h2 h3 => by
      by_cases e : i2 = i
      · subst e; exact h h3
      · exact hall.out i2 (by omega) h3
    have HNO : Hid ((hf (i + 1)).t = ts → (hf (i + 1)).r = rs → hasO l (af i) = false → I = false) := fun h1 h2 h3 => by
      cases hI : I
      · rfl
      · have := HI2.out.1 hI i (by omega) ⟨h1, h2⟩
        rw [h3] at this
        cases this
    obtain ⟨⟨T, R, hT, hR⟩, hh⟩ : ∃ z, hf (i + 1) = z := ⟨_, rfl⟩
    rw [hh] at HX HST HNO
    obtain ⟨⟨fT, fR, hfT, hfR⟩, hfa⟩ : ∃ z, af i = z := ⟨_, rfl⟩
    rw [hfa] at FX AX HST HNO
    simp only at HX FX AX HST HNO
    obtain ⟨b, hb⟩ : ∃ b, hasO l ⟨fT, fR, hfT, hfR⟩ = b := ⟨_, rfl⟩
    rw [hb] at AX HNO
    have HB := Lib.hid hb
    have ei : ((i + 1 : Nat) : Int) = (i : Int) + 1 := by omega
    clear b2 r2 x0 x1 x2 x3 x4 hall HI2 MA CU HO1 FI1 HA hh hfa hb R2 hnp
    have hne : ¬ T = ts ∨ (T = ts ∧ ¬ R = rs) ∨ (T = ts ∧ R = rs) := by
      by_cases h : T = ts
      · by_cases h2 : R = rs
        · exact .inr (.inr ⟨h, h2⟩)
        · exact .inr (.inl ⟨h, h2⟩)
      · exact .inl h
    rcases hne with hne | ⟨rfl, hne⟩ | ⟨rfl, rfl⟩
    · have hi : ¬ ((T : Int) = (ts : Int)) := by omega
      have NO := Lib.hid (HST.out (fun h => absurd h.1 hne))
      clear HST HNO HB FX AX
      go_wp2
      refine wp_region_held_drew (S := fun w' => Below w2.heap.size w2 w' ∧ w'.cell? ⟨w.heap.size, 0, none⟩ = some (.int .u32 (ts : Int)) ∧ w'.cell? ⟨w.heap.size, 1, none⟩ = some (.int .u8 (rs : Int))) (by kernel_rfl) (SK.out _ (drew1 _)) (fun hHeld => ?_)
      refine rN 0 ?_
      refine rN 1 ?_
      refine rN 3 ?_
      refine wpAnyH_ready (rs := [2]) (by kernel_rfl) (by simp) ?_
      refine AllReadyH.cons rfl (fun K hK => ?_) ?za2
      case za2 => exact AllReadyH.nil
      go_simp
      refine (HX.out _ hHeld.1).mono ?_
      rintro e w9a2 ⟨rfl, b9⟩
      refine hK.out _ _ (SK.out _ (bt hHeld.1 b9)) (fun hNew => ?_)
      clear hHeld
      have hHeld := hNew
      clear hNew hK K
      refine rX ?_
      refine rN 4 ?_
      refine rN 5 ?_
      refine rV 6 ?_
      refine rV 7 ?_
      refine rV 8 ?_
      refine rV 9 ?_
      refine rV 10 ?_
      refine rN 11 ?_
      refine wpAnyH_done (by kernel_rfl) ?_ _
      have BD := Lib.hid (bt B2.out hHeld.1)
      clear hHeld
      go_wp2
      go_roundw
      case rel => exact ⟨i + 1 + 1, by omega, by omega, by go_num, NO, BD⟩
      case measure => simp [intOf]; omega
    · have hi : ¬ ((R : Int) = (rs : Int)) := by omega
      have NO := Lib.hid (HST.out (fun h => absurd h.2 hne))
      clear HST HNO HB FX AX
      go_wp2
      refine wp_region_held_drew (S := fun w' => Below w2.heap.size w2 w' ∧ w'.cell? ⟨w.heap.size, 0, none⟩ = some (.int .u32 (T : Int)) ∧ w'.cell? ⟨w.heap.size, 1, none⟩ = some (.int .u8 (rs : Int))) (by kernel_rfl) (SK.out _ (drew1 _)) (fun hHeld => ?_)
      refine rN 0 ?_
      refine rN 1 ?_
      refine rN 3 ?_
      refine wpAnyH_ready (rs := [2]) (by kernel_rfl) (by simp) ?_
      refine AllReadyH.cons rfl (fun K hK => ?_) ?zb2
      case zb2 => exact AllReadyH.nil
      go_simp
      refine (HX.out _ hHeld.1).mono ?_
      rintro e w9b2 ⟨rfl, b9⟩
      refine hK.out _ _ (SK.out _ (bt hHeld.1 b9)) (fun hNew => ?_)
      clear hHeld
      have hHeld := hNew
      clear hNew hK K
      refine rX ?_
      refine rN 4 ?_
      refine rN 5 ?_
      refine rV 6 ?_
      refine rV 7 ?_
      refine rV 8 ?_
      refine rV 9 ?_
      refine rV 10 ?_
      refine rN 11 ?_
      refine wpAnyH_done (by kernel_rfl) ?_ _
      have BD := Lib.hid (bt B2.out hHeld.1)
      clear hHeld
      go_wp2
      go_roundw
      case rel => exact ⟨i + 1 + 1, by omega, by omega, by go_num, NO, BD⟩
      case measure => simp [intOf]; omega
    cases b
    · obtain rfl := HNO.out rfl rfl rfl
      clear HST HNO HB
      go_wp2
      refine wp_region_held_drew (S := fun w' => Below w2.heap.size w2 w' ∧ w'.cell? ⟨w.heap.size, 0, none⟩ = some (.int .u32 (T : Int)) ∧ w'.cell? ⟨w.heap.size, 1, none⟩ = some (.int .u8 (R : Int))) (by kernel_rfl) (SK.out _ (drew1 _)) (fun hHeld => ?_)
      refine rN 0 ?_
      refine rN 1 ?_
      refine rN 3 ?_
      refine wpAnyH_ready (rs := [2]) (by kernel_rfl) (by simp) ?_
      refine AllReadyH.cons rfl (fun K hK => ?_) ?zc2
      case zc2 => exact AllReadyH.nil
      go_simp
      refine (HX.out _ hHeld.1).mono ?_
      rintro e w9c2 ⟨rfl, b9⟩
      refine hK.out _ _ (SK.out _ (bt hHeld.1 b9)) (fun hNew => ?_)
      clear hHeld
      have hHeld := hNew
      clear hNew hK K
      refine rX ?_
      refine rN 4 ?_
      refine rN 5 ?_
      refine rN 6 ?_
      refine rN 7 ?_
      refine wpAnyH_ready (rs := [8]) (by kernel_rfl) (by simp) ?_
      refine AllReadyH.cons rfl (fun K hK => ?_) ?zc8
      case zc8 => exact AllReadyH.nil
      go_simp
      refine (FX.out _ hHeld.1).mono ?_
      rintro e w9c8 ⟨rfl, b9⟩
      refine hK.out _ _ (SK.out _ (bt hHeld.1 b9)) (fun hNew => ?_)
      clear hHeld
      have hHeld := hNew
      clear hNew hK K
      refine rX ?_
      refine wpAnyH_ready (rs := [9]) (by kernel_rfl) (by simp) ?_
      refine AllReadyH.cons rfl (fun K hK => ?_) ?zc9
      case zc9 => exact AllReadyH.nil
      go_simp
      refine (AX.out _ hHeld.1).mono ?_
      rintro e w9c9 ⟨rfl, b9⟩
      refine hK.out _ _ (SK.out _ (bt hHeld.1 b9)) (fun hNew => ?_)
      clear hHeld
      have hHeld := hNew
      clear hNew hK K
      refine rX ?_
      refine rN 10 ?_
      refine rN 11 ?_
      refine wpAnyH_done (by kernel_rfl) ?_ _
      have BE := Lib.hid (bt B0.out (bt B2.out hHeld.1))
      clear hHeld
      go_wp2
      go_ret
      exact ⟨rfl, BE.out⟩
    have NO := Lib.hid (HST.out (fun _ => HB.out))
    clear HST HNO HB
    go_wp2
    refine wp_region_held_drew (S := fun w' => Below w2.heap.size w2 w' ∧ w'.cell? ⟨w.heap.size, 0, none⟩ = some (.int .u32 (T : Int)) ∧ w'.cell? ⟨w.heap.size, 1, none⟩ = some (.int .u8 (R : Int))) (by kernel_rfl) (SK.out _ (drew1 _)) (fun hHeld => ?_)
    refine rN 0 ?_
    refine rN 1 ?_
    refine rN 3 ?_
    refine wpAnyH_ready (rs := [2]) (by kernel_rfl) (by simp) ?_
    refine AllReadyH.cons rfl (fun K hK => ?_) ?zd2
    case zd2 => exact AllReadyH.nil
    go_simp
    refine (HX.out _ hHeld.1).mono ?_
    rintro e w9d2 ⟨rfl, b9⟩
    refine hK.out _ _ (SK.out _ (bt hHeld.1 b9)) (fun hNew => ?_)
    clear hHeld
    have hHeld := hNew
    clear hNew hK K
    refine rX ?_
    refine rN 4 ?_
    refine rN 5 ?_
    refine rN 6 ?_
    refine rN 7 ?_
    refine wpAnyH_ready (rs := [8]) (by kernel_rfl) (by simp) ?_
    refine AllReadyH.cons rfl (fun K hK => ?_) ?zd8
    case zd8 => exact AllReadyH.nil
    go_simp
    refine (FX.out _ hHeld.1).mono ?_
    rintro e w9d8 ⟨rfl, b9⟩
    refine hK.out _ _ (SK.out _ (bt hHeld.1 b9)) (fun hNew => ?_)
    clear hHeld
    have hHeld := hNew
    clear hNew hK K
    refine rX ?_
    refine wpAnyH_ready (rs := [9]) (by kernel_rfl) (by simp) ?_
    refine AllReadyH.cons rfl (fun K hK => ?_) ?zd9
    case zd9 => exact AllReadyH.nil
    go_simp
    refine (AX.out _ hHeld.1).mono ?_
    rintro e w9d9 ⟨rfl, b9⟩
    refine hK.out _ _ (SK.out _ (bt hHeld.1 b9)) (fun hNew => ?_)
    clear hHeld
    have hHeld := hNew
    clear hNew hK K
    refine rX ?_
    refine rN 10 ?_
    refine rN 11 ?_
    refine wpAnyH_done (by kernel_rfl) ?_ _
    have BD := Lib.hid (bt B2.out hHeld.1)
    clear hHeld
    go_wp2
    go_roundw
    case rel => exact ⟨i + 1 + 1, by omega, by omega, by go_num, NO, BD⟩
    case measure => simp [intOf]; omega
end Go.Proofs.YtmiepnnpccpicaaGreat.Covers

namespace Go.Proofs.YtmiepnnpccpicaaGreat.Covers
open Go.RowKit Go.WideShapes Stamp Go.Proofs.YtmiepnnpccpicaaGreat.Place Ops Codes Bags Marks Homes
attribute [local go_sem ↓] Go.wp_at_zero Go.wp_at_succ
attribute [local go_sem] yielded_undef
set_option maxRecDepth 100000 in
set_option maxHeartbeats 16000000 in
theorem refCounting_any {v u0 : Value} {l live : List Opn} (s : Id) {w : World} (hv : OpL w v l) (hu : OpL w u0 live) (hl : l.length ≤ 1000000) (hm : ∀ o ∈ l, mayO o = true) (hmm : ∀ o ∈ live, mayO o = true) :
    Calls Tryz.prog 69 #[v, u0, .agg #[.int .u32 (s.t : Int), .int .u8 (s.r : Int)]] w fun e w' => ∃ v', e = .returned v' ∧ OpL w' v' (countL l live s) ∧ Below w.heap.size w w' := by
  obtain ⟨ao, cap, rfl⟩ := hv.shape
  obtain ⟨wl, hwl⟩ : ∃ x, x = w.alloc (.cells #[.int .u32 (s.t : Int), .int .u8 (s.r : Int)] 25) := ⟨_, rfl⟩
  have B0 : Hid (Below w.heap.size w wl) := by rw [hwl]; exact (Below.refl _ _).alloc (Nat.le_refl _) _
  have P0 : Hid (Pair wl w.heap.size (.int .u32 (s.t : Int)) (.int .u8 (s.r : Int))) := by rw [hwl]; exact pair_new _ _ _ _
  have HW := Lib.hid hwl
  have IN : Hid (Calls Tryz.prog 106 #[.slice ao l.length cap, u0, .agg #[.int .u32 (s.t : Int), .int .u8 (s.r : Int)]] wl fun e w' => ∃ v', e = .returned v' ∧ OpL w' v' (inL l live s) ∧ Below wl.heap.size wl w') := refIn14_any s (hv.keeps B0.out) (hu.keeps B0.out) hl hm hmm
  have hal : (inL l live s).length ≤ 1000000 := Nat.le_trans (inL_sub l live s).length_le hl
  have IS : Hid (∀ (x : Opn) (y : Value) (W : World), x ∈ inL l live s → Runs W y x.pl → Below w.heap.size w W → Calls Tryz.prog 107 #[.slice ao l.length cap, u0, .agg #[.int .u32 (s.t : Int), .int .u8 (s.r : Int)], opv x y] W fun e w' => e = .returned (.bool (isB l live s x)) ∧ Below W.heap.size W w') := fun x y W hx hy h => refIs14_any s (hv.keeps h) (hu.keeps h) hy (hm x (mem_inL.1 hx).1) hmm
  obtain ⟨au, cu, rfl⟩ := hu.shape
  unfold countL
  obtain ⟨PB, hPB⟩ : ∃ PB : Opn → Bool, isB l live s = PB := ⟨_, rfl⟩
  rw [hPB] at IS ⊢
  obtain ⟨A, hA⟩ : ∃ A, inL l live s = A := ⟨_, rfl⟩
  rw [hA] at IN IS hal ⊢
  have M0 : Hid (0 = ((A.take 0).filter PB).length) := rfl
  obtain ⟨ts, rs, hts, hrs⟩ := s
  simp only at P0 HW IN IS ⊢
  obtain ⟨nl, hnl⟩ : ∃ nl, live.length = nl := ⟨_, rfl⟩
  obtain ⟨n0, hn0⟩ : ∃ n0, l.length = n0 := ⟨_, rfl⟩
  rw [hnl, hn0] at IN IS ⊢
  obtain ⟨n, hn⟩ : ∃ n, n = A.length := ⟨_, rfl⟩
  have hnm : n ≤ 1000000 := by omega
  have HN := Lib.hid hn
  clear hv hu hl hm hmm hwl hPB hA hnl hn0 hal hn
  go_enter Tryz.func69, Tryz.ntmps69
  obtain ⟨_, d0, d1⟩ := P0.out
  go_wp2_with fail
  rw [← HW.out]
  refine IN.out.mono ?_
  rintro e wk ⟨va, rfl, ol, bk⟩
  have BK := Lib.hid (bt B0.out bk)
  have PK := Lib.hid (P0.out.keeps bk)
  have HV : Hid (∀ W : World, Below wk.heap.size wk W → OpL W va A) := fun W h => ol.keeps h
  obtain ⟨aa, ca, rfl⟩ := ol.shape
  have S0 : Hid (Shr opE 47 wk wk (.slice none 0 0) ((A.take 0).filter PB)) := Shr.nil _ _ _ _
  have Z0 : Hid (Below wk.heap.size wk wk) := Below.refl _ _
  rw [← HN.out]
  clear d0 d1 IN HW B0 P0 bk ol
  go_wp2
  go_loopw [7, 9] (fun v i wr => ∃ j m : Nat, j ≤ n ∧ i = .int .i64 (j : Int) ∧ (∃ ao cap, v = .slice ao m cap) ∧ Hid (m = ((A.take j).filter PB).length) ∧ Hid (Shr opE 47 wk wr v ((A.take j).filter PB)) ∧ Hid (Below wk.heap.size wk wr)) (fun _ i _ => n - (intOf i).toNat)
  case atStart => exact ⟨0, 0, by omega, rfl, ⟨none, 0, rfl⟩, M0, S0, Z0⟩
  case round =>
    clear S0 M0 Z0
    obtain ⟨j, m, hj, rfl, ⟨aoL, capL, rfl⟩, HM, hshr, hbel⟩ := hrel
    by_cases hjn : j < n
    rotate_left
    · have q3 : decide (j < n) = false := by simpa using hjn
      have hkk : A.take j = A := List.take_of_length_le (by have := HN.out; omega)
      rw [hkk] at hshr
      have BE := Lib.hid (bt BK.out hbel.out)
      have SE := Lib.hid (hshr.out.seq hbel.out)
      clear hkk
      go_wp2
      go_ret
      exact ⟨_, rfl, SE.out, BE.out⟩
    have q3 : decide (j < n) = true := by simpa using hjn
    have q4 : (0 : Int) ≤ (j : Int) := by omega
    have q5 : (j : Int) < (n : Int) := by omega
    have hjl : j < A.length := by rw [← HN.out]; exact hjn
    obtain ⟨bb, oo, u, e, hbb, hru, h0, h1, h2, h3, h4⟩ := opl_at (HV.out wk (Below.refl _ _)) j hjl
    subst e
    obtain ⟨x, hx⟩ : ∃ x, x = A[j]'hjl := ⟨_, rfl⟩
    rw [← hx] at hru h0 h1 h2 h4
    have HO : Hid (∀ v : Value, opv x v = .agg #[.int .u8 (x.k : Int), .int .u32 (x.t : Int), .int .u8 (x.r : Int), v, .int .i64 x.p]) := fun v => rfl
    replace h0 := ((hbel.out).cell (p := ⟨bb, oo + j * 5, none⟩) hbb).trans h0
    replace h1 := ((hbel.out).cell (p := ⟨bb, oo + j * 5 + 1, none⟩) hbb).trans h1
    replace h2 := ((hbel.out).cell (p := ⟨bb, oo + j * 5 + 2, none⟩) hbb).trans h2
    replace h3 := ((hbel.out).cell (p := ⟨bb, oo + j * 5 + 3, none⟩) hbb).trans h3
    replace h4 := ((hbel.out).cell (p := ⟨bb, oo + j * 5 + 4, none⟩) hbb).trans h4
    have hbo := hbb
    replace hbb := Nat.lt_of_lt_of_le hbb (hbel.out).size
    obtain ⟨uo, uc, rfl⟩ := hru.shape
    obtain ⟨nu, hnu⟩ : ∃ n, n = x.pl.length := ⟨_, rfl⟩
    have HNU := Lib.hid hnu
    rw [← hnu] at hru h3
    clear hnu
    have hxm : x ∈ A := by rw [hx]; exact List.getElem_mem _
    have INN : Hid (opE.inn wk [.int .u8 (x.k : Int), .int .u32 (x.t : Int), .int .u8 (x.r : Int), .slice uo nu uc, .int .i64 x.p] x) := ⟨_, rfl, hru⟩
    have CX : Hid (∀ W : World, Below wr.heap.size wr W → Calls Tryz.prog 107 #[.slice ao n0 cap, .slice au nl cu, .agg #[.int .u32 (ts : Int), .int .u8 (rs : Int)], opv x (.slice uo nu uc)] W fun e w' => e = .returned (.bool (PB x)) ∧ Below W.heap.size W w') := fun W h => IS.out x _ W hxm (hru.keeps (bt hbel.out h)) (bt BK.out (bt hbel.out h))
    have FT := Lib.hid (filter_take (P := PB) hjl)
    rw [← hx] at FT
    obtain ⟨q, hq⟩ : ∃ b, PB x = b := ⟨_, rfl⟩
    rw [hq] at CX FT
    clear hx hru hq hxm
    obtain ⟨k, hk⟩ : ∃ z, x.k = z := ⟨_, rfl⟩
    obtain ⟨t, ht⟩ : ∃ z, x.t = z := ⟨_, rfl⟩
    obtain ⟨r, hr⟩ : ∃ z, x.r = z := ⟨_, rfl⟩
    obtain ⟨p, hp⟩ : ∃ z, x.p = z := ⟨_, rfl⟩
    rw [hk, ht, hr, hp] at HO
    rw [hk] at h0
    rw [ht] at h1
    rw [hr] at h2
    rw [hp] at h4
    simp only [HO.out] at CX
    rw [hk, ht, hr, hp] at INN
    have F1 : Hid (FiveAt wr bb (oo + j * 5) (.int .u8 (k : Int)) (.int .u32 (t : Int)) (.int .u8 (r : Int)) (.slice uo nu uc) (.int .i64 p)) := ⟨hbb, h0, h1, h2, h3, h4⟩
    have SK : Hid (∀ w' : World, Below wr.heap.size wr w' → Below wr.heap.size wr w' ∧ w'.cell? ⟨bb, oo + j * 5, none⟩ = some (.int .u8 (k : Int)) ∧ w'.cell? ⟨bb, oo + j * 5 + 1, none⟩ = some (.int .u32 (t : Int)) ∧ w'.cell? ⟨bb, oo + j * 5 + 2, none⟩ = some (.int .u8 (r : Int)) ∧ w'.cell? ⟨bb, oo + j * 5 + 3, none⟩ = some (.slice uo nu uc) ∧ w'.cell? ⟨bb, oo + j * 5 + 4, none⟩ = some (.int .i64 p) ∧ w'.cell? ⟨w.heap.size, 0, none⟩ = some (.int .u32 (ts : Int)) ∧ w'.cell? ⟨w.heap.size, 1, none⟩ = some (.int .u8 (rs : Int))) := fun W h => by
      have a1 := (F1.out.keeps h).2
      have a2 := PK.out.keeps (bt hbel.out h)
      exact ⟨h, a1.1, a1.2.1, a1.2.2.1, a1.2.2.2.1, a1.2.2.2.2, a2.2.1, a2.2.2⟩
    clear hk ht hr hp HO h0 h1 h2 h3 h4 HV IS PK
    cases q
    · have FN : Hid ((if false = true then [x] else []) = []) := rfl
      go_wp2
      refine wp_region_held_drew (S := fun w' => Below wr.heap.size wr w' ∧ w'.cell? ⟨bb, oo + j * 5, none⟩ = some (.int .u8 (k : Int)) ∧ w'.cell? ⟨bb, oo + j * 5 + 1, none⟩ = some (.int .u32 (t : Int)) ∧ w'.cell? ⟨bb, oo + j * 5 + 2, none⟩ = some (.int .u8 (r : Int)) ∧ w'.cell? ⟨bb, oo + j * 5 + 3, none⟩ = some (.slice uo nu uc) ∧ w'.cell? ⟨bb, oo + j * 5 + 4, none⟩ = some (.int .i64 p) ∧ w'.cell? ⟨w.heap.size, 0, none⟩ = some (.int .u32 (ts : Int)) ∧ w'.cell? ⟨w.heap.size, 1, none⟩ = some (.int .u8 (rs : Int))) (by kernel_rfl) (SK.out _ (drew1 _)) (fun hHeld => ?_)
      refine rN 0 ?_
      refine rN 1 ?_
      refine rN 2 ?_
      refine rN 3 ?_
      refine rN 4 ?_
      refine rN 5 ?_
      refine rN 6 ?_
      refine wpAnyH_ready (rs := [7]) (by kernel_rfl) (by simp) ?_
      refine AllReadyH.cons rfl (fun K hK => ?_) ?za7
      case za7 => exact AllReadyH.nil
      go_simp
      refine (CX.out _ hHeld.1).mono ?_
      rintro e w9a7 ⟨rfl, b9⟩
      refine hK.out _ _ (SK.out _ (bt hHeld.1 b9)) (fun hNew => ?_)
      clear hHeld
      have hHeld := hNew
      clear hNew hK K
      refine rX ?_
      refine wpAnyH_done (by kernel_rfl) ?_ _
      rw [FN.out, List.append_nil] at FT
      rw [← FT.out] at HM
      have S2 := Lib.hid (hshr.out.keeps hHeld.1)
      rw [← FT.out] at S2
      have B2 := Lib.hid (bt hbel.out hHeld.1)
      clear hHeld hshr hbel F1 SK
      go_wp2
      go_roundw
      case rel => exact ⟨j + 1, m, by omega, by go_num, ⟨aoL, capL, rfl⟩, HM, S2, B2⟩
      case measure => simp [intOf]; omega
    have FN : Hid ((if true = true then [x] else []) = [x]) := rfl
    go_wp2
    refine wp_region_held_drew (S := fun w' => Below wr.heap.size wr w' ∧ w'.cell? ⟨bb, oo + j * 5, none⟩ = some (.int .u8 (k : Int)) ∧ w'.cell? ⟨bb, oo + j * 5 + 1, none⟩ = some (.int .u32 (t : Int)) ∧ w'.cell? ⟨bb, oo + j * 5 + 2, none⟩ = some (.int .u8 (r : Int)) ∧ w'.cell? ⟨bb, oo + j * 5 + 3, none⟩ = some (.slice uo nu uc) ∧ w'.cell? ⟨bb, oo + j * 5 + 4, none⟩ = some (.int .i64 p) ∧ w'.cell? ⟨w.heap.size, 0, none⟩ = some (.int .u32 (ts : Int)) ∧ w'.cell? ⟨w.heap.size, 1, none⟩ = some (.int .u8 (rs : Int))) (by kernel_rfl) (SK.out _ (drew1 _)) (fun hHeld => ?_)
    refine rN 0 ?_
    refine rN 1 ?_
    refine rN 2 ?_
    refine rN 3 ?_
    refine rN 4 ?_
    refine rN 5 ?_
    refine rN 6 ?_
    refine wpAnyH_ready (rs := [7]) (by kernel_rfl) (by simp) ?_
    refine AllReadyH.cons rfl (fun K hK => ?_) ?zb7
    case zb7 => exact AllReadyH.nil
    go_simp
    refine (CX.out _ hHeld.1).mono ?_
    rintro e w9b7 ⟨rfl, b9⟩
    refine hK.out _ _ (SK.out _ (bt hHeld.1 b9)) (fun hNew => ?_)
    clear hHeld
    have hHeld := hNew
    clear hNew hK K
    refine rX ?_
    refine wpAnyH_done (by kernel_rfl) ?_ _
    rw [FN.out] at FT
    have S2 := Lib.hid (hshr.out.keeps hHeld.1)
    have B2 := Lib.hid (bt hbel.out hHeld.1)
    have HZ := Lib.hid B2.out.size
    have hll := filter_take_len (P := PB) (l := A) j
    have HMM := Lib.hid (show (m + 1) * 48 ≤ 140737488355328 ∧ m ≤ 1000000000000 by have := HM.out; have := HN.out; omega)
    obtain ⟨h0, h1, h2, h3, h4⟩ := (F1.out.keeps hHeld.1).2
    clear hHeld hshr hll F1 SK
    go_wp2_with (at_builtin; refine wpList_append_enc (E := opE) Tryz.underlying22 op_info rfl (w0 := wk) (wp := w9b7) (by rfl) (.tmp 28) (.tmp 33) (by rfl) (by rfl) S2.out (G := w9b7.heap.size) (by rfl) rfl (c := #[.int .u8 (k : Int), .int .u32 (t : Int), .int .u8 (r : Int), .slice uo nu uc, .int .i64 p]) INN.out HM.out HMM.out.1 HMM.out.2 HZ.out ?_)
    rintro v6 w6 s6 va vc rfl b6
    have S6 := Lib.hid s6
    rw [← FT.out] at S6
    have M6 : Hid (m + 1 = ((A.take (j + 1)).filter PB).length) := by unfold Hid; rw [FT.out, List.length_append, ← HM.out]; rfl
    have B6 := Lib.hid (B2.out.trans b6)
    clear s6 b6 S2 B2 h0 h1 h2 h3 h4 FT HM FN hbel
    go_wp2
    go_roundw
    case rel => exact ⟨j + 1, m + 1, by omega, by go_num, ⟨va, vc, rfl⟩, M6, S6, B6⟩
    case measure => simp [intOf]; omega
end Go.Proofs.YtmiepnnpccpicaaGreat.Covers

namespace Go.Proofs.YtmiepnnpccpicaaGreat.Views
open Go.RowKit Go.WideShapes Stamp Go.Proofs.YtmiepnnpccpicaaGreat.Place Ops Codes Bags Marks Homes Covers
attribute [local go_sem ↓] Go.wp_at_zero Go.wp_at_succ
attribute [local go_sem] yielded_undef
set_option maxRecDepth 100000 in
set_option maxHeartbeats 8000000 in
theorem refOf15_any {v u0 : Value} {l live : List Opn} (s : Id) {w : World} (hv : OpL w v l) (hu : OpL w u0 live) (hl : l.length ≤ 1000000) (hm : ∀ o ∈ l, mayO o = true) (hmm : ∀ o ∈ live, mayO o = true) :
    Calls Tryz.prog 31 #[v, u0, .agg #[.int .u32 (s.t : Int), .int .u8 (s.r : Int)]] w fun e w' => ∃ v', e = .returned v' ∧ ElL w' v' (seenM (countL l live s)) ∧ Below w.heap.size w w' := by
  obtain ⟨wl, hwl⟩ : ∃ x, x = w.alloc (.cells #[.int .u32 (s.t : Int), .int .u8 (s.r : Int)] 25) := ⟨_, rfl⟩
  have B0 : Hid (Below w.heap.size w wl) := by rw [hwl]; exact (Below.refl _ _).alloc (Nat.le_refl _) _
  have Y0 : Hid (wl.heap[w.heap.size]? = some (.cells #[.int .u32 (s.t : Int), .int .u8 (s.r : Int)] 25)) := by rw [hwl]; exact blk_new rfl
  have HW := Lib.hid hwl
  have CT : Hid (Calls Tryz.prog 69 #[v, u0, .agg #[.int .u32 (s.t : Int), .int .u8 (s.r : Int)]] wl fun e w' => ∃ v', e = .returned v' ∧ OpL w' v' (countL l live s) ∧ Below wl.heap.size wl w') := refCounting_any s (hv.keeps B0.out) (hu.keeps B0.out) hl hm hmm
  have SN : Hid (∀ (W : World) (y : Value), OpL W y (countL l live s) → Calls Tryz.prog 68 #[y] W fun e w' => ∃ v', e = .returned v' ∧ ElL w' v' (seenM (countL l live s)) ∧ Below W.heap.size W w') := fun W y h => refSeen_any h (fun o ho => hm o (mem_countL.1 ho).1.1) (Nat.le_trans (countL_sub l live s).length_le hl)
  obtain ⟨C, hC⟩ : ∃ C, countL l live s = C := ⟨_, rfl⟩
  rw [hC] at CT SN ⊢
  clear hv hu hl hm hmm hwl hC
  obtain ⟨ts, rs, hts, hrs⟩ := s
  simp only at Y0 HW CT ⊢
  have d0 := cell_of_row _ _ 0 _ _ _ Y0.out
  have d1 := cell_of_row _ _ 1 _ _ _ Y0.out
  go_enter Tryz.func31, Tryz.ntmps31
  go_wp2_with fail
  rw [← HW.out]
  refine CT.out.mono ?_
  rintro e w1 ⟨v1, rfl, o1, b1⟩
  have O1 := Lib.hid o1
  have B1 := Lib.hid (bt B0.out b1)
  clear b1 o1 Y0 B0 HW CT d0 d1
  go_wp2_with fail
  refine (SN.out _ _ O1.out).mono ?_
  rintro e w2 ⟨v2, rfl, o2, b2⟩
  have O2 := Lib.hid o2
  have B2 := Lib.hid (bt B1.out b2)
  clear b2 o2 O1 B1 SN
  go_wp2
  go_ret
  exact ⟨_, rfl, O2.out, B2.out⟩
/-- Elements, and an error. -/
def DoneE (L : List Opn) (x : Int) (w : World) (e : Ending) (w' : World) : Prop := ∃ v, e = .returned (.tuple #[v, .int .i64 x]) ∧ ElL w' v L ∧ Below w.heap.size w w'
set_option maxRecDepth 100000 in
set_option maxHeartbeats 8000000 in
theorem refElements_any {v : Value} {l : List Opn} (s : Id) {w : World} (hv : OpL w v l) : Calls Tryz.prog 52 #[v, .agg #[.int .u32 (s.t : Int), .int .u8 (s.r : Int)]] w (DoneE (elmL l s) (spanE l s) w) := by
  obtain ⟨wl, hwl⟩ : ∃ x, x = w.alloc (.cells #[.int .u32 (s.t : Int), .int .u8 (s.r : Int)] 25) := ⟨_, rfl⟩
  have B0 : Hid (Below w.heap.size w wl) := by rw [hwl]; exact (Below.refl _ _).alloc (Nat.le_refl _) _
  have Y0 : Hid (wl.heap[w.heap.size]? = some (.cells #[.int .u32 (s.t : Int), .int .u8 (s.r : Int)] 25)) := by rw [hwl]; exact blk_new rfl
  have HW := Lib.hid hwl
  have ML : Hid (Calls Tryz.prog 26 #[v] wl fun e w' => e = .returned (.bool (bagB l)) ∧ Below wl.heap.size wl w') := refMayL_any (hv.keeps B0.out)
  have LV : Hid (Bag l → ∀ W : World, Below w.heap.size w W → Calls Tryz.prog 28 #[v] W fun e w' => ∃ v', e = .returned v' ∧ OpL w' v' (livesM l l) ∧ Below W.heap.size W w') := fun hb W h => refLives_any (hv.keeps h) hb.2.1 hb.1
  have WH : Hid (Bag l → ∀ (W : World) (y : Value), OpL W y (livesM l l) → Calls Tryz.prog 91 #[y, .agg #[.int .u32 (s.t : Int), .int .u8 (s.r : Int)]] W fun e w' => e = .returned (.int .i64 (whereM (livesM l l) s)) ∧ Below W.heap.size W w') := fun hb W y h => refWhere_any s h (by have := (lives_fits hb).1; omega)
  have OF : Hid (Bag l → ∀ (W : World) (y : Value), Below w.heap.size w W → OpL W y (livesM l l) → Calls Tryz.prog 31 #[v, y, .agg #[.int .u32 (s.t : Int), .int .u8 (s.r : Int)]] W fun e w' => ∃ v', e = .returned v' ∧ ElL w' v' (seenM (countL l (livesM l l) s)) ∧ Below W.heap.size W w') := fun hb W y h hy => refOf15_any s (hv.keeps h) hy (by have := hb.1; omega) hb.2.1 (lives_fits hb).2
  clear hv hwl
  by_cases hb : Bag l
  rotate_left
  · have e3 : spanE l s = 8 := by unfold spanE; rw [bagB_no hb]; rfl
    have e4 : elmL l s = [] := elm_no (by rw [e3]; decide)
    rw [bagB_no hb] at ML
    rw [e3, e4]
    clear LV WH OF hb e3 e4
    go_enter Tryz.func52, Tryz.ntmps52
    go_wp2_with fail
    rw [← HW.out]
    refine ML.out.mono ?_
    rintro e w1 ⟨rfl, b1⟩
    have B1 := Lib.hid (bt B0.out b1)
    clear b1 Y0 B0 HW ML
    go_wp2
    exact bodyPost_ret (v := .tuple #[.slice none 0 0, .int .i64 8]) (by simp [results, Tryz.results52, go_sem]) rfl ⟨_, rfl, Seq.nil _ _, B1.out⟩
  rw [(bagB_iff l).2 hb] at ML
  have LV2 := Lib.hid (LV.out hb)
  have WH2 := Lib.hid (WH.out hb)
  have OF2 := Lib.hid (OF.out hb)
  have aE : spanE l s = if 0 ≤ whereM (livesM l l) s then 0 else 130 := by unfold spanE; rw [(bagB_iff l).2 hb]; simp
  have aL : elmL l s = if 0 ≤ whereM (livesM l l) s then seenM (countL l (livesM l l) s) else [] := by
    by_cases h : 0 ≤ whereM (livesM l l) s
    · rw [if_pos h]
      exact elm_yes (by rw [aE, if_pos h])
    · rw [if_neg h]
      exact elm_no (by rw [aE, if_neg h]; decide)
  rw [aE, aL]
  clear LV WH OF hb aE aL
  obtain ⟨x, hx⟩ : ∃ x, whereM (livesM l l) s = x := ⟨_, rfl⟩
  rw [hx] at WH2 ⊢
  obtain ⟨V, hV⟩ : ∃ V, livesM l l = V := ⟨_, rfl⟩
  rw [hV] at LV2 WH2 OF2 ⊢
  obtain ⟨R, hR⟩ : ∃ R, seenM (countL l V s) = R := ⟨_, rfl⟩
  rw [hR] at OF2 ⊢
  clear hx hV hR
  obtain ⟨ts, rs, hts, hrs⟩ := s
  simp only at Y0 HW WH2 OF2 ⊢
  by_cases hx : 0 ≤ x
  rotate_left
  · rw [if_neg hx, if_neg hx]
    have q : decide (x < 0) = true := decide_eq_true (by omega)
    go_enter Tryz.func52, Tryz.ntmps52
    go_wp2_with fail
    rw [← HW.out]
    refine ML.out.mono ?_
    rintro e w1 ⟨rfl, b1⟩
    have B1 := Lib.hid (bt B0.out b1)
    have Y1 := Lib.hid (blk_below b1 Y0.out)
    clear b1 Y0 B0 HW ML
    go_wp2_with fail
    refine (LV2.out _ B1.out).mono ?_
    rintro e w2 ⟨v2, rfl, o2, b2⟩
    have B2 := Lib.hid (bt B1.out b2)
    have Y2 := Lib.hid (blk_below b2 Y1.out)
    have O2 := Lib.hid o2
    clear b2 o2 Y1 B1 LV2
    have d0 := cell_of_row _ _ 0 _ _ _ Y2.out
    have d1 := cell_of_row _ _ 1 _ _ _ Y2.out
    go_wp2_with fail
    refine (WH2.out _ _ O2.out).mono ?_
    rintro e w3 ⟨rfl, b3⟩
    have B3 := Lib.hid (bt B2.out b3)
    have Y3 := Lib.hid (blk_below b3 Y2.out)
    have O3 := Lib.hid (O2.out.keeps b3)
    clear b3 d0 d1 Y2 B2 O2 WH2
    clear OF2 O3 Y3
    go_wp2
    exact bodyPost_ret (v := .tuple #[.slice none 0 0, .int .i64 130]) (by simp [results, Tryz.results52, go_sem]) rfl ⟨_, rfl, Seq.nil _ _, B3.out⟩
  rw [if_pos hx, if_pos hx]
  have q : decide (x < 0) = false := decide_eq_false (by omega)
  go_enter Tryz.func52, Tryz.ntmps52
  go_wp2_with fail
  rw [← HW.out]
  refine ML.out.mono ?_
  rintro e w1 ⟨rfl, b1⟩
  have B1 := Lib.hid (bt B0.out b1)
  have Y1 := Lib.hid (blk_below b1 Y0.out)
  clear b1 Y0 B0 HW ML
  go_wp2_with fail
  refine (LV2.out _ B1.out).mono ?_
  rintro e w2 ⟨v2, rfl, o2, b2⟩
  have B2 := Lib.hid (bt B1.out b2)
  have Y2 := Lib.hid (blk_below b2 Y1.out)
  have O2 := Lib.hid o2
  clear b2 o2 Y1 B1 LV2
  have d0 := cell_of_row _ _ 0 _ _ _ Y2.out
  have d1 := cell_of_row _ _ 1 _ _ _ Y2.out
  go_wp2_with fail
  refine (WH2.out _ _ O2.out).mono ?_
  rintro e w3 ⟨rfl, b3⟩
  have B3 := Lib.hid (bt B2.out b3)
  have Y3 := Lib.hid (blk_below b3 Y2.out)
  have O3 := Lib.hid (O2.out.keeps b3)
  clear b3 d0 d1 Y2 B2 O2 WH2
  have d0 := cell_of_row _ _ 0 _ _ _ Y3.out
  have d1 := cell_of_row _ _ 1 _ _ _ Y3.out
  go_wp2_with fail
  refine (OF2.out _ _ B3.out O3.out).mono ?_
  rintro e w4 ⟨v4, rfl, o4, b4⟩
  have O4 := Lib.hid o4
  have B4 := Lib.hid (bt B3.out b4)
  clear b4 o4 d0 d1 Y3 O3 B3 OF2
  go_wp2
  exact bodyPost_ret (v := .tuple #[v4, .int .i64 0]) (by simp [results, Tryz.results52, go_sem]) rfl ⟨_, rfl, O4.out, B4.out⟩
theorem befM_snoc {c : List Opn} {p : List Run} {j : Nat} (h : j < c.length) : befM (c.take (j + 1)) p = befM (c.take j) p + (if Go.Proofs.YtmiepnnpccpicaaGreat.Place.hold (all (c[j]'h).pl) (all p) < 0 then 1 else 0) := by
  unfold befM
  rw [List.take_succ_eq_append_getElem h, List.filter_append, List.length_append]
  congr 1
  by_cases hh : Go.Proofs.YtmiepnnpccpicaaGreat.Place.hold (all (c[j]'h).pl) (all p) < 0
  · rw [if_pos hh, List.filter_cons_of_pos (by simpa using hh)]; rfl
  · rw [if_neg hh, List.filter_cons_of_neg (by simpa using hh)]; rfl
set_option maxRecDepth 100000 in
set_option maxHeartbeats 8000000 in
theorem refBefore_any {v u : Value} {c : List Opn} {p : List Run} {w : World} (hv : ElL w v c) (hu : Runs w u p) (hm : ∀ o ∈ c, mayO o = true) (hp : anyB p = true) (hl : c.length ≤ 1000000) :
    Calls Tryz.prog 30 #[v, u] w fun e w' => e = .returned (.int .i64 ((befM c p : Nat) : Int)) ∧ Below w.heap.size w w' := by
  obtain ⟨ao, cap, rfl⟩ := hv.shape
  obtain ⟨n, hn⟩ : ∃ n, n = c.length := ⟨_, rfl⟩
  have hnm : n ≤ 1000000 := by omega
  have HV : Hid (∀ W : World, Below w.heap.size w W → ElL W (.slice ao c.length cap) c) := fun W h => hv.keeps h
  have HN := Lib.hid hn
  have AP := (anyB_iff p).1 hp
  have HE : Hid (∀ (x : Opn) (y : Value) (W : World), x ∈ c → Runs W y x.pl → Below w.heap.size w W → Calls Tryz.prog 67 #[y, u] W fun e w' => e = .returned (.int .i64 (Go.Proofs.YtmiepnnpccpicaaGreat.Place.hold (all x.pl) (all p))) ∧ Below W.heap.size W w') := fun x y W hx hy h => by
    have M := (mayB_iff _).1 (mayO_parts (hm x hx)).2.1
    have hlp : p.length ≤ 100 := by
      rcases AP with rfl | h
      · simp
      · exact Nat.le_trans h.2.1 (by decide)
    exact held_any hy (hu.keeps h) M.2.2.1 AP.chain (Nat.le_trans M.2.1 (by decide)) hlp
  rw [← hn]
  have B0 : Hid (Below w.heap.size w w) := Below.refl _ _
  have M0 : Hid (0 = befM (c.take 0) p) := rfl
  obtain ⟨R, hR⟩ : ∃ R, befM c p = R := ⟨_, rfl⟩
  have HR := Lib.hid hR
  rw [hR]
  clear hv hn hl hm hp AP hR
  obtain ⟨uo, uc, rfl⟩ := hu.shape
  obtain ⟨np, hnp⟩ : ∃ n, p.length = n := ⟨_, rfl⟩
  rw [hnp] at HE ⊢
  clear hu hnp
  go_enter Tryz.func30, Tryz.ntmps30
  go_wp2
  go_loopw [5, 6] (fun y i wr => ∃ j m : Nat, j ≤ n ∧ m ≤ j ∧ y = .int .i64 (m : Int) ∧ i = .int .i64 (j : Int) ∧ Hid (m = befM (c.take j) p) ∧ Hid (Below w.heap.size w wr)) (fun _ i _ => n - (intOf i).toNat)
  case atStart => exact ⟨0, 0, by omega, by omega, rfl, rfl, M0, B0⟩
  case round =>
    clear B0 M0
    obtain ⟨j, m, hj, hmj, rfl, rfl, hM, hbel⟩ := hrel
    by_cases hjn : j < n
    rotate_left
    · have q3 : decide (j < n) = false := by simpa using hjn
      have hkk : c.take j = c := List.take_of_length_le (by have := HN.out; omega)
      obtain rfl : R = m := by rw [hM.out, hkk]; exact HR.out.symm
      clear hkk hM
      go_wp2
      go_ret
      exact ⟨rfl, hbel.out⟩
    have q3 : decide (j < n) = true := by simpa using hjn
    have q4 : (0 : Int) ≤ (j : Int) := by omega
    have q5 : (j : Int) < (n : Int) := by omega
    have hjl : j < c.length := by rw [← HN.out]; exact hjn
    obtain ⟨bb, oo, y, e, hbb, hru, h0, h1, h2, h3⟩ := el_at (HV.out wr hbel.out) j hjl
    cases e
    have HX := HE.out _ y wr (List.getElem_mem hjl) hru hbel.out
    have ST := befM_snoc (p := p) hjl
    rw [← hM.out] at ST
    obtain ⟨h, hh⟩ : ∃ z, Go.Proofs.YtmiepnnpccpicaaGreat.Place.hold (all (c[j]'hjl).pl) (all p) = z := ⟨_, rfl⟩
    rw [hh] at HX ST
    have HX2 := Lib.hid HX
    obtain ⟨yo, yc, rfl⟩ := hru.shape
    obtain ⟨ny, hny⟩ : ∃ z, (c[j]'hjl).pl.length = z := ⟨_, rfl⟩
    rw [hny] at HX2 h2
    have HST := Lib.hid ST
    clear HX hh hru hny h0 h1 h3 hM hbb ST HV HE
    go_wp2_with fail
    refine HX2.out.mono ?_
    rintro e w1 ⟨rfl, b1⟩
    have B1 := Lib.hid (bt hbel.out b1)
    clear b1 h2 HX2 hbel
    by_cases hlt : h < 0
    · have d1 : decide (h < 0) = true := decide_eq_true hlt
      have M1 : Hid (m + 1 = befM (c.take (j + 1)) p) := by unfold Hid; rw [HST.out, if_pos hlt]
      clear HST
      go_wp2
      go_roundw
      case rel => exact ⟨j + 1, m + 1, by omega, by omega, by go_num, by go_num, M1, B1⟩
      case measure => simp [intOf]; omega
    · have d1 : decide (h < 0) = false := decide_eq_false hlt
      have M1 : Hid (m = befM (c.take (j + 1)) p) := by unfold Hid; rw [HST.out, if_neg hlt]; rfl
      clear HST
      go_wp2
      go_roundw
      case rel => exact ⟨j + 1, m, by omega, by omega, rfl, by go_num, M1, B1⟩
      case measure => simp [intOf]; omega
end Go.Proofs.YtmiepnnpccpicaaGreat.Views

namespace Go.Proofs.YtmiepnnpccpicaaGreat.Anchors
open Go.RowKit Go.WideShapes Stamp Go.Proofs.YtmiepnnpccpicaaGreat.Place Ops Codes Bags Marks Homes Covers Views
theorem makeP_fits (l : List Opn) (s : Id) (k : Int) : (makeP l s k).length ≤ 64 := by
  by_cases h : atE l s k = 0
  · exact ((mayB_iff _).1 (make_yes h).2.2.2.2.1).2.1
  · rw [make_no h]; simp
end Go.Proofs.YtmiepnnpccpicaaGreat.Anchors

namespace Go.Proofs.YtmiepnnpccpicaaGreat.Homes
open Go.RowKit Go.WideShapes Stamp Go.Proofs.YtmiepnnpccpicaaGreat.Place Ops Codes Bags Marks
/-- A slice value whose cells may be written over: its block lies from base on. -/
def Wk (w : World) (base : Nat) (ao : Option Addr) (n : Nat) : Prop := n = 0 ∨ ∃ g cur, ao = some ⟨g, 0, none⟩ ∧ base ≤ g ∧ w.heap[g]? = some (.cells cur 40 (0, 0)) ∧ n * 3 ≤ cur.size
theorem Wk.of {w : World} {base n cap : Nat} {ao : Option Addr} {cs : List Value} (h : w.ownsRow base 40 3 (.slice ao n cap) n cs) : Wk w base ao n := by
  rcases h.2 with ⟨hv, h0⟩ | ⟨g, c2, cur, hv, hb, h1, h2, h3, h4, h5⟩
  · exact .inl h0
  · obtain ⟨rfl, -, rfl⟩ := Value.slice.inj hv
    exact .inr ⟨g, cur, rfl, hb, h1, by rw [h4]; exact Nat.mul_le_mul_right 3 h2⟩
theorem Wk.keeps {w w' : World} {base n : Nat} {ao : Option Addr} (h : Wk w base ao n) (hb : Below w.heap.size w w') : Wk w' base ao n :=
  h.imp id fun ⟨g, cur, h1, h2, h3, h4⟩ => ⟨g, cur, h1, h2, blk_below hb h3, h4⟩
theorem Wk.set {w : World} {base n g j : Nat} {ao : Option Addr} {u : Value} (h : Wk w base ao n) : Wk (w.setCell ⟨g, j, none⟩ u) base ao n := by
  refine h.imp id fun ⟨q, cur, h1, h2, h3, h4⟩ => ?_
  by_cases e : q = g
  · subst e
    exact ⟨q, _, h1, h2, heap_setCell_same w q j cur _ u h3, by rw [Array.size_setIfInBounds]; exact h4⟩
  · exact ⟨q, cur, h1, h2, (heap_setCell_other w ⟨g, j, none⟩ q u e).trans h3, h4⟩
theorem Wk.at {w : World} {base n k : Nat} {ao : Option Addr} (h : Wk w base ao n) (hk : k < n) : ∃ g u, ao = some ⟨g, 0, none⟩ ∧ base ≤ g ∧ w.cell? ⟨g, k * 3 + 2, none⟩ = some u ∧ w.frozen? ⟨g, k * 3 + 2, none⟩ = false := by
  rcases h with h | ⟨g, cur, h1, h2, h3, h4⟩
  · omega
  · have hj : k * 3 + 2 < cur.size := by omega
    exact ⟨g, cur[k * 3 + 2]'hj, h1, h2, (cell_of_row _ g (k * 3 + 2) cur _ _ h3).trans (Array.getElem?_eq_getElem hj), by simp [World.frozen?, h3]⟩
end Go.Proofs.YtmiepnnpccpicaaGreat.Homes

namespace Go.Proofs.YtmiepnnpccpicaaGreat.Views
open Go.RowKit Go.WideShapes Stamp Go.Proofs.YtmiepnnpccpicaaGreat.Place Ops Codes Bags Marks Homes Covers
attribute [local go_sem ↓] Go.wp_at_zero Go.wp_at_succ
attribute [local go_sem] yielded_undef
theorem put4_size {X : World} {g : Nat} (d0 d1 d2 d3 : Value) : (put4 X g d0 d1 d2 d3).heap.size = X.heap.size := by unfold put4; simp
/-- Runs stay so where an element's block is written. -/
theorem runs_put4 {X : World} {g : Nat} {v : Value} {l : List Run} {a b p : Int} {so : Option Addr} {sn sc : Nat} (d0 d1 d2 d3 : Value) (h : Runs X v l) (hg : X.heap[g]? = some (.cells #[.int .u32 a, .int .u8 b, .slice so sn sc, .int .i64 p] 53)) : Runs (put4 X g d0 d1 d2 d3) v l := by
  obtain ⟨h1, ao, cap, rfl, h2, h3, h4, h5⟩ := h
  refine ⟨h1, ao, cap, rfl, h2, h3, h4, ?_⟩
  rcases h5 with h5 | ⟨q, off, rfl, hlt, hc⟩
  · exact .inl h5
  · refine .inr ⟨q, off, rfl, by rw [put4_size]; exact hlt, fun j u hj => ?_⟩
    have hne : q ≠ g := by
      intro e
      subst e
      cases l with
      | nil => simp [runs] at hj
      | cons x l =>
        have c0 := hc 0 (.int .u32 (x.t : Int)) rfl
        have c1 := hc 1 (.int .u8 (x.r : Int)) rfl
        have c2 := hc 2 (.int .i64 x.m) rfl
        rw [cell_of_row _ q _ _ _ _ hg] at c0 c1 c2
        rcases off with _ | _ | _ | _ | off
        · simp at c2
        · simp at c0
        · simp at c0
        · simp at c0
        · simp at c0
    exact (World.cell?_of_block (by unfold put4; exact (heap_setCell_other _ _ _ _ hne).trans ((heap_setCell_other _ _ _ _ hne).trans ((heap_setCell_other _ _ _ _ hne).trans (heap_setCell_other _ _ _ _ hne))))).trans (hc j u hj)
set_option maxRecDepth 100000 in
set_option maxHeartbeats 8000000 in
theorem refAt15_any {v : Value} {l : List Opn} (s : Id) (k : Int) {w : World} (hv : OpL w v l) : Calls Tryz.prog 20 #[v, .agg #[.int .u32 (s.t : Int), .int .u8 (s.r : Int)], .int .i64 k] w fun e w' => ∃ vt, e = .returned (.tuple #[elv (atL l s k) vt, .int .i64 (atE l s k)]) ∧ Runs w' vt (atL l s k).pl ∧ Below w.heap.size w w' := by
  obtain ⟨wb, hwb⟩ : ∃ x, x = w.alloc (.cells #[.int .u32 (s.t : Int), .int .u8 (s.r : Int)] 25) := ⟨_, rfl⟩
  obtain ⟨wl, hwl⟩ : ∃ x, x = wb.alloc (.cells #[.int .u32 0, .int .u8 0, .slice none 0 0, .int .i64 0] 53) := ⟨_, rfl⟩
  have hsz : wb.heap.size = w.heap.size + 1 := by rw [hwb]; exact Array.size_push _
  have X0 : Hid (wl.heap[w.heap.size + 1]? = some (.cells #[.int .u32 0, .int .u8 0, .slice none 0 0, .int .i64 0] 53)) := by rw [hwl, ← hsz]; exact blk_new rfl
  have Bb : Below w.heap.size w wb := by rw [hwb]; exact (Below.refl _ _).alloc (Nat.le_refl _) _
  have Y0 : Hid (wl.heap[w.heap.size]? = some (.cells #[.int .u32 (s.t : Int), .int .u8 (s.r : Int)] 25)) := by
    have h1 : wb.heap[w.heap.size]? = some (.cells #[.int .u32 (s.t : Int), .int .u8 (s.r : Int)] 25) := by rw [hwb]; exact blk_new rfl
    rw [hwl]
    exact blk_below ((Below.refl _ _).alloc (Nat.le_refl _) _) h1
  have B0 : Hid (Below w.heap.size w wl) := by rw [hwl]; exact Bb.alloc (by omega) _
  have HW : Hid (wl = (w.alloc (.cells #[.int .u32 (s.t : Int), .int .u8 (s.r : Int)] 25)).alloc (.cells #[.int .u32 0, .int .u8 0, .slice none 0 0, .int .i64 0] 53)) := by rw [hwl, hwb]; rfl
  have EL : Hid (Calls Tryz.prog 52 #[v, .agg #[.int .u32 (s.t : Int), .int .u8 (s.r : Int)]] wl (DoneE (elmL l s) (spanE l s) wl)) := refElements_any s (hv.keeps B0.out)
  have hlen := (elm_fits l s).1
  unfold DoneE at EL
  have eE : atE l s k = if spanE l s = 0 then (if 0 ≤ k ∧ k < ((elmL l s).length : Int) then 0 else 2) else spanE l s := rfl
  have eL : atL l s k = if spanE l s = 0 ∧ 0 ≤ k ∧ k < ((elmL l s).length : Int) then (elmL l s).getD k.toNat Codes.zop else Codes.zop := rfl
  rw [eE, eL]
  obtain ⟨L, hL⟩ : ∃ L, elmL l s = L := ⟨_, rfl⟩
  rw [hL] at EL hlen ⊢
  obtain ⟨x, hx⟩ : ∃ x, spanE l s = x := ⟨_, rfl⟩
  rw [hx] at EL ⊢
  clear hv hwl hwb hsz Bb hL hx eE eL
  obtain ⟨ts, rs, hts, hrs⟩ := s
  simp only at Y0 HW EL ⊢
  by_cases h0 : x = 0
  rotate_left
  · rw [if_neg (fun h => h0 h.1), if_neg h0]
    have q0 : (x == 0) = false := by simpa using h0
    have q1 : decide (x = 0) = false := decide_eq_false h0
    have d0 := cell_of_row _ _ 0 _ _ _ Y0.out
    have d1 := cell_of_row _ _ 1 _ _ _ Y0.out
    go_enter Tryz.func20, Tryz.ntmps20
    go_wp2_with fail
    rw [← HW.out]
    refine EL.out.mono ?_
    rintro e w1 ⟨v1, rfl, o1, b1⟩
    obtain ⟨ea, ec, rfl⟩ := o1.shape
    have O1 := Lib.hid o1
    have B1 := Lib.hid (bt B0.out b1)
    have X1 := Lib.hid (blk_below b1 X0.out)
    clear b1 o1 Y0 X0 B0 HW EL d0 d1
    obtain ⟨c0, c1, c2, c3⟩ := cells4 X1.out
    have f0 : ∀ o, w1.frozen? ⟨w.heap.size + 1, o, none⟩ = false := fun o => free4 X1.out o
    have HF := Lib.hid (put4_same (.int .u32 0) (.int .u8 0) (.slice none 0 0) (.int .i64 0) X1.out)
    have BF := Lib.hid (put4_below (.int .u32 0) (.int .u8 0) (.slice none 0 0) (.int .i64 0) (Nat.le_add_right w.heap.size 1) B1.out)
    obtain ⟨WF, hWF⟩ : ∃ WF, put4 w1 (w.heap.size + 1) (.int .u32 0) (.int .u8 0) (.slice none 0 0) (.int .i64 0) = WF := ⟨_, rfl⟩
    rw [hWF] at HF BF
    unfold put4 at hWF
    have HX := Lib.hid hWF
    clear hWF X1 B1 O1
    go_wp2
    rw [HX.out]
    obtain ⟨e0, e1, e2, e3⟩ := cells4 HF.out
    exact bodyPost_ret (v := .tuple #[.agg #[.int .u32 0, .int .u8 0, .slice none 0 0, .int .i64 0], .int .i64 x]) (by simp [results, Tryz.results20, go_sem, e0, e1, e2, e3]) rfl ⟨_, rfl, Sees.nil _ _, BF.out⟩
  subst h0
  obtain ⟨n, hn⟩ : ∃ n, L.length = n := ⟨_, rfl⟩
  have HN := Lib.hid hn
  by_cases hk : 0 ≤ k ∧ k < (L.length : Int)
  rotate_left
  · rw [if_neg (fun h => hk h.2), if_pos rfl, if_neg hk]
    rw [hn] at hk hlen
    by_cases hneg : k < 0
    · have q2 : decide (k < 0) = true := decide_eq_true hneg
      have d0 := cell_of_row _ _ 0 _ _ _ Y0.out
      have d1 := cell_of_row _ _ 1 _ _ _ Y0.out
      go_enter Tryz.func20, Tryz.ntmps20
      go_wp2_with fail
      rw [← HW.out]
      refine EL.out.mono ?_
      rintro e w1 ⟨v1, rfl, o1, b1⟩
      obtain ⟨ea, ec, rfl⟩ := o1.shape
      have O1 := Lib.hid o1
      have B1 := Lib.hid (bt B0.out b1)
      have X1 := Lib.hid (blk_below b1 X0.out)
      clear b1 o1 Y0 X0 B0 HW EL d0 d1
      rw [HN.out]
      obtain ⟨c0, c1, c2, c3⟩ := cells4 X1.out
      have f0 : ∀ o, w1.frozen? ⟨w.heap.size + 1, o, none⟩ = false := fun o => free4 X1.out o
      have HF := Lib.hid (put4_same (.int .u32 0) (.int .u8 0) (.slice none 0 0) (.int .i64 0) X1.out)
      have BF := Lib.hid (put4_below (.int .u32 0) (.int .u8 0) (.slice none 0 0) (.int .i64 0) (Nat.le_add_right w.heap.size 1) B1.out)
      obtain ⟨WF, hWF⟩ : ∃ WF, put4 w1 (w.heap.size + 1) (.int .u32 0) (.int .u8 0) (.slice none 0 0) (.int .i64 0) = WF := ⟨_, rfl⟩
      rw [hWF] at HF BF
      unfold put4 at hWF
      have HX := Lib.hid hWF
      clear hWF X1 B1 O1
      go_wp2
      rw [HX.out]
      obtain ⟨e0, e1, e2, e3⟩ := cells4 HF.out
      exact bodyPost_ret (v := .tuple #[.agg #[.int .u32 0, .int .u8 0, .slice none 0 0, .int .i64 0], .int .i64 2]) (by simp [results, Tryz.results20, go_sem, e0, e1, e2, e3]) rfl ⟨_, rfl, Sees.nil _ _, BF.out⟩
    · have q2 : decide (k < 0) = false := decide_eq_false hneg
      have q3 : decide ((n : Int) ≤ k) = true := decide_eq_true (by omega)
      have d0 := cell_of_row _ _ 0 _ _ _ Y0.out
      have d1 := cell_of_row _ _ 1 _ _ _ Y0.out
      go_enter Tryz.func20, Tryz.ntmps20
      go_wp2_with fail
      rw [← HW.out]
      refine EL.out.mono ?_
      rintro e w1 ⟨v1, rfl, o1, b1⟩
      obtain ⟨ea, ec, rfl⟩ := o1.shape
      have O1 := Lib.hid o1
      have B1 := Lib.hid (bt B0.out b1)
      have X1 := Lib.hid (blk_below b1 X0.out)
      clear b1 o1 Y0 X0 B0 HW EL d0 d1
      rw [HN.out]
      obtain ⟨c0, c1, c2, c3⟩ := cells4 X1.out
      have f0 : ∀ o, w1.frozen? ⟨w.heap.size + 1, o, none⟩ = false := fun o => free4 X1.out o
      have HF := Lib.hid (put4_same (.int .u32 0) (.int .u8 0) (.slice none 0 0) (.int .i64 0) X1.out)
      have BF := Lib.hid (put4_below (.int .u32 0) (.int .u8 0) (.slice none 0 0) (.int .i64 0) (Nat.le_add_right w.heap.size 1) B1.out)
      obtain ⟨WF, hWF⟩ : ∃ WF, put4 w1 (w.heap.size + 1) (.int .u32 0) (.int .u8 0) (.slice none 0 0) (.int .i64 0) = WF := ⟨_, rfl⟩
      rw [hWF] at HF BF
      unfold put4 at hWF
      have HX := Lib.hid hWF
      clear hWF X1 B1 O1
      go_wp2
      rw [HX.out]
      obtain ⟨e0, e1, e2, e3⟩ := cells4 HF.out
      exact bodyPost_ret (v := .tuple #[.agg #[.int .u32 0, .int .u8 0, .slice none 0 0, .int .i64 0], .int .i64 2]) (by simp [results, Tryz.results20, go_sem, e0, e1, e2, e3]) rfl ⟨_, rfl, Sees.nil _ _, BF.out⟩
  rw [if_pos ⟨rfl, hk⟩, if_pos rfl, if_pos hk]
  obtain ⟨j, rfl⟩ : ∃ j : Nat, k = (j : Int) := ⟨k.toNat, by omega⟩
  rw [Int.toNat_natCast]
  have hjl : j < L.length := by omega
  have hg : L.getD j Codes.zop = L[j]'hjl := by rw [List.getD_eq_getElem?_getD, List.getElem?_eq_getElem hjl]; rfl
  rw [hg]
  obtain ⟨y, hy⟩ : ∃ y, L[j]'hjl = y := ⟨_, rfl⟩
  rw [hn] at hk hlen
  rw [hy]
  have HY := Lib.hid hy
  clear hy
  obtain ⟨yk, t, r, yl, p, hyk, ht, hr, hp⟩ := y
  unfold elv
  simp only
  have q2 : decide ((j : Int) < 0) = false := decide_eq_false (by omega)
  have q3 : decide ((n : Int) ≤ (j : Int)) = false := decide_eq_false (by omega)
  have q3' : decide (n ≤ j) = false := decide_eq_false (by omega)
  have q4 : (0 : Int) ≤ (j : Int) := by omega
  have q5 : (j : Int) < (n : Int) := by omega
  clear hg hn
  have d0 := cell_of_row _ _ 0 _ _ _ Y0.out
  have d1 := cell_of_row _ _ 1 _ _ _ Y0.out
  go_enter Tryz.func20, Tryz.ntmps20
  go_wp2_with fail
  rw [← HW.out]
  refine EL.out.mono ?_
  rintro e w1 ⟨v1, rfl, o1, b1⟩
  obtain ⟨ea, ec, rfl⟩ := o1.shape
  have O1 := Lib.hid o1
  have B1 := Lib.hid (bt B0.out b1)
  have X1 := Lib.hid (blk_below b1 X0.out)
  clear b1 o1 Y0 X0 B0 HW EL d0 d1
  obtain ⟨bb, oo, u, e, hbb, hru, h0, h1, h2, h3⟩ := el_at O1.out j hjl
  cases e
  rw [HY.out] at hru h0 h1 h3
  simp only at hru h0 h1 h3
  obtain ⟨uo, uc, rfl⟩ := hru.shape
  have RU := Lib.hid hru
  rw [HN.out]
  obtain ⟨ny, hny⟩ : ∃ z, yl.length = z := ⟨_, rfl⟩
  rw [hny] at RU h2
  clear hru hny HY hbb
  obtain ⟨c0, c1, c2, c3⟩ := cells4 X1.out
  have f0 : ∀ o, w1.frozen? ⟨w.heap.size + 1, o, none⟩ = false := fun o => free4 X1.out o
  have HF := Lib.hid (put4_same (.int .u32 (t : Int)) (.int .u8 (r : Int)) (.slice uo ny uc) (.int .i64 p) X1.out)
  have BF := Lib.hid (put4_below (.int .u32 (t : Int)) (.int .u8 (r : Int)) (.slice uo ny uc) (.int .i64 p) (Nat.le_add_right w.heap.size 1) B1.out)
  have RF := Lib.hid (runs_put4 (.int .u32 (t : Int)) (.int .u8 (r : Int)) (.slice uo ny uc) (.int .i64 p) RU.out X1.out)
  obtain ⟨WF, hWF⟩ : ∃ WF, put4 w1 (w.heap.size + 1) (.int .u32 (t : Int)) (.int .u8 (r : Int)) (.slice uo ny uc) (.int .i64 p) = WF := ⟨_, rfl⟩
  rw [hWF] at HF BF RF
  unfold put4 at hWF
  have HX := Lib.hid hWF
  clear hWF X1 B1 O1
  go_wp2
  rw [HX.out]
  obtain ⟨e0, e1, e2, e3⟩ := cells4 HF.out
  exact bodyPost_ret (v := .tuple #[.agg #[.int .u32 (t : Int), .int .u8 (r : Int), .slice uo ny uc, .int .i64 p], .int .i64 0]) (by simp [results, Tryz.results20, go_sem, e0, e1, e2, e3]) rfl ⟨_, rfl, RF.out, BF.out⟩
end Go.Proofs.YtmiepnnpccpicaaGreat.Views
