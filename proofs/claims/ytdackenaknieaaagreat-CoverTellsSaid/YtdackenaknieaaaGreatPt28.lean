/- octavoref14.Is: what it answers. Conditions: an operation that may be; live marks that may be. -/
import Derived.Test.YtdackenaknieaaaGreatPt26
import Derived.Test.YtdackenaknieaaaGreatPt14
import Derived.Test.YtdackenaknieaaaGreatPt05
import Derived.Test.YtdackenaknieaaaGreatPt12
import Derived.Test.YtdackenaknieaaaGreatPt10

namespace Go.Proofs.YtdackenaknieaaaGreat.Covers
open Go.RowKit Go.WideShapes Stamp Go.Proofs.YtdackenaknieaaaGreat.Place Ops Codes Bags Marks Homes
attribute [local go_sem ↓] Go.wp_at_zero Go.wp_at_succ
attribute [local go_sem] yielded_undef

theorem refFinal_may {v : Value} {q : List Run} {w : World} (hv : Runs w v q) (hm : mayB q = true) :
    Calls Tryz.prog 118 #[v] w fun e w' => e = .returned (.agg #[.int .u32 (lastV q).1, .int .u8 (lastV q).2]) ∧ Below w.heap.size w w' := by
  have hM := (mayB_iff q).1 hm
  have h1 := chain_one hM.2.2.1 (k := q.length - 1) (by have := hM.1; omega)
  have := final_any hv (k := q.length - 1) (by have := hM.1; omega) rfl h1 (by have := hM.2.1; omega)
  unfold lastV
  rw [if_pos hm]
  exact this

set_option maxRecDepth 100000 in
set_option maxHeartbeats 16000000 in
theorem refIs14_any {v u0 y : Value} {l live : List Opn} (s : Id) {o : Opn} {w : World} (hv : OpL w v l) (hu : OpL w u0 live) (hy : Runs w y o.pl) (ho : mayO o = true) (hmm : ∀ o ∈ live, mayO o = true) :
    Calls Tryz.prog 78 #[v, u0, .agg #[.int .u32 (s.t : Int), .int .u8 (s.r : Int)], opv o y] w fun e w' => e = .returned (.bool (isB l live s o)) ∧ Below w.heap.size w w' := by
  have hmo := (mayO_parts ho).2.1
  have hMo := (mayB_iff _).1 hmo
  obtain ⟨wb, hwb⟩ : ∃ x, x = w.alloc (.cells #[.int .u32 (s.t : Int), .int .u8 (s.r : Int)] 28) := ⟨_, rfl⟩
  obtain ⟨wl, hwl⟩ : ∃ x, x = wb.alloc (.cells #[.int .u8 (o.k : Int), .int .u32 (o.t : Int), .int .u8 (o.r : Int), y, .int .i64 o.p] 31) := ⟨_, rfl⟩
  have hsz : wb.heap.size = w.heap.size + 1 := by rw [hwb]; exact Array.size_push _
  have Bb : Below w.heap.size w wb := by rw [hwb]; exact (Below.refl _ _).alloc (Nat.le_refl _) _
  have Bbl : Below wb.heap.size wb wl := by rw [hwl]; exact (Below.refl _ _).alloc (Nat.le_refl _) _
  have B0 : Hid (Below w.heap.size w wl) := bt Bb Bbl
  have P0 : Hid (Pair wl w.heap.size (.int .u32 (s.t : Int)) (.int .u8 (s.r : Int))) := by
    have : Pair wb w.heap.size (.int .u32 (s.t : Int)) (.int .u8 (s.r : Int)) := by rw [hwb]; exact pair_new _ _ _ _
    exact this.keeps Bbl
  have O0 : Hid (wl.heap[w.heap.size + 1]? = some (.cells #[.int .u8 (o.k : Int), .int .u32 (o.t : Int), .int .u8 (o.r : Int), y, .int .i64 o.p] 31)) := by rw [hwl, ← hsz]; exact blk_new rfl
  have HW : Hid (wl = (w.alloc (.cells #[.int .u32 (s.t : Int), .int .u8 (s.r : Int)] 28)).alloc (.cells #[.int .u8 (o.k : Int), .int .u32 (o.t : Int), .int .u8 (o.r : Int), y, .int .i64 o.p] 31)) := by rw [hwl, hwb]; rfl
  have MA : Hid (∀ W : World, Below wl.heap.size wl W → Calls Tryz.prog 116 #[opv o y] W fun e w' => e = .returned (.int .i64 ((manyN o : Nat) : Int)) ∧ Below W.heap.size W w') := fun W h => refMany_any (hy.keeps (bt B0.out h)) hmo
  have CU : Hid (∀ (W : World) (j : Nat), Below wl.heap.size wl W → j ≤ 5000 → Calls Tryz.prog 27 #[y, .int .i64 (j : Int)] W fun e w' => ∃ v', e = .returned v' ∧ Runs w' v' (cutN o.pl j) ∧ Below W.heap.size W w') := fun W j h hj => refCut_any (hy.keeps (bt B0.out h)) hMo.2.2.1 (by have := hMo.2.1; omega) j hj
  have HO0 : Hid (∀ (W : World) (z : Value) (j : Nat), Below wl.heap.size wl W → Runs W z (cutN o.pl j) → Calls Tryz.prog 77 #[u0, z] W fun e w' => e = .returned (.agg #[.int .u32 ((homeM live (cutN o.pl j)).t : Int), .int .u8 ((homeM live (cutN o.pl j)).r : Int)]) ∧ Below W.heap.size W w') := fun W z j h hz => refHome_any (hu.keeps (bt B0.out h)) hz hmm (any_cutN hmo)
  have FI : Hid (∀ (W : World) (z : Value) (j : Nat), j < manyN o → Runs W z (cutN o.pl (j + 1)) → Calls Tryz.prog 118 #[z] W fun e w' => e = .returned (.agg #[.int .u32 (((all o.pl).getD j zid).t : Int), .int .u8 (((all o.pl).getD j zid).r : Int)]) ∧ Below W.heap.size W w') := fun W z j hj hz => by
    have := refFinal_may hz (may_cutN hmo (by omega))
    rw [last_cutN hmo (by unfold manyN at hj; omega)] at this
    exact this
  have HA : Hid (∀ (W : World) (a : Id), Below wl.heap.size wl W → Calls Tryz.prog 117 #[v, .agg #[.int .u32 (a.t : Int), .int .u8 (a.r : Int)]] W fun e w' => e = .returned (.bool (hasO l a)) ∧ Below W.heap.size W w') := fun W a h => refHasO_any a (hv.keeps (bt B0.out h))
  have HI : Hid (isB l live s o = true ↔ ∀ k, k < manyN o → homeM live (cutN o.pl (k + 1)) = s → hasO l ((all o.pl).getD k zid) = true) := isB_iff
  have hmn : manyN o ≤ 4096 := Nat.le_trans (Nat.sub_le _ _) (all_pos hmo).2.1
  obtain ⟨ao, cap, rfl⟩ := hv.shape
  obtain ⟨au, cu, rfl⟩ := hu.shape
  obtain ⟨yo, yc, rfl⟩ := hy.shape
  have HOV : Hid (∀ v : Value, opv o v = .agg #[.int .u8 (o.k : Int), .int .u32 (o.t : Int), .int .u8 (o.r : Int), v, .int .i64 o.p]) := fun v => rfl
  obtain ⟨n, hn⟩ : ∃ n, l.length = n := ⟨_, rfl⟩
  obtain ⟨nl, hnl⟩ : ∃ n, live.length = n := ⟨_, rfl⟩
  obtain ⟨ny, hny⟩ : ∃ n, o.pl.length = n := ⟨_, rfl⟩
  obtain ⟨M, hM⟩ : ∃ M, manyN o = M := ⟨_, rfl⟩
  rw [hn] at HA ⊢
  rw [hnl] at HO0 ⊢
  rw [hny] at MA CU O0 HW ⊢
  rw [hM] at MA FI HI hmn
  obtain ⟨I, hI⟩ : ∃ I, isB l live s o = I := ⟨_, rfl⟩
  rw [hI] at HI ⊢
  obtain ⟨hf, hhf⟩ : ∃ hf : Nat → Id, hf = fun j => homeM live (cutN o.pl j) := ⟨_, rfl⟩
  have HO1 : Hid (∀ (W : World) (z : Value) (j : Nat), Below wl.heap.size wl W → Runs W z (cutN o.pl j) → Calls Tryz.prog 77 #[.slice au nl cu, z] W fun e w' => e = .returned (.agg #[.int .u32 ((hf j).t : Int), .int .u8 ((hf j).r : Int)]) ∧ Below W.heap.size W w') := by rw [hhf]; exact HO0.out
  have HI1 : Hid (I = true ↔ ∀ k, k < M → ((hf (k + 1)).t = s.t ∧ (hf (k + 1)).r = s.r) → hasO l ((all o.pl).getD k zid) = true) := by
    unfold Hid
    rw [HI.out, hhf]
    constructor
    · intro h k hk e; exact h k hk (Id.eq_iff.2 e)
    · intro h k hk e; exact h k hk (Id.eq_iff.1 e)
  obtain ⟨af, haf⟩ : ∃ af : Nat → Id, af = fun k => (all o.pl).getD k zid := ⟨_, rfl⟩
  have FI1 : Hid (∀ (W : World) (z : Value) (j : Nat), j < M → Runs W z (cutN o.pl (j + 1)) → Calls Tryz.prog 118 #[z] W fun e w' => e = .returned (.agg #[.int .u32 ((af j).t : Int), .int .u8 ((af j).r : Int)]) ∧ Below W.heap.size W w') := by rw [haf]; exact FI.out
  have HI2 : Hid (I = true ↔ ∀ k, k < M → ((hf (k + 1)).t = s.t ∧ (hf (k + 1)).r = s.r) → hasO l (af k) = true) := by rw [haf]; exact HI1.out
  rw [HOV.out] at MA ⊢
  obtain ⟨ts, rs, hts, hrs⟩ := s
  simp only at P0 HI2 HW ⊢
  clear hv hu hy ho hmm hmo hMo hwb hwl hsz Bb Bbl hn hnl hny hM hI hhf haf HO0 HI HI1 FI
  obtain ⟨k, hk⟩ : ∃ z, o.k = z := ⟨_, rfl⟩
  obtain ⟨t, ht⟩ : ∃ z, o.t = z := ⟨_, rfl⟩
  obtain ⟨r, hr⟩ : ∃ z, o.r = z := ⟨_, rfl⟩
  obtain ⟨p, hp⟩ : ∃ z, o.p = z := ⟨_, rfl⟩
  rw [hk, ht, hr, hp] at MA O0 HW ⊢
  clear hk ht hr hp HOV
  have Z0 : Hid (Below wl.heap.size wl wl) := Below.refl _ _
  have hb0 : Hid (∀ i, i + 1 < 1 → ((hf (i + 1)).t = ts ∧ (hf (i + 1)).r = rs) → hasO l (af i) = true) := fun i hi => by omega
  go_enter Tryz.func78, Tryz.ntmps78
  go_wp2
  rw [← HW.out]
  go_loopw [9] (fun i wr => ∃ j : Nat, 1 ≤ j ∧ j ≤ M + 1 ∧ i = .int .i64 (j : Int) ∧ Hid (∀ i, i + 1 < j → ((hf (i + 1)).t = ts ∧ (hf (i + 1)).r = rs) → hasO l (af i) = true) ∧ Hid (Below wl.heap.size wl wr)) (fun i _ => M + 1 - (intOf i).toNat)
  case atStart => exact ⟨1, by omega, by omega, rfl, hb0, Z0⟩
  case round =>
    clear Z0 hb0
    obtain ⟨j, hj1, hj, rfl, hall, hbel⟩ := hrel
    have O1 := blk_below hbel.out O0.out
    obtain ⟨x0, x1, x2, x3, x4⟩ := cells5 O1
    clear O1
    go_wp2_with fail
    refine (MA.out _ hbel.out).mono ?_
    rintro e w1 ⟨rfl, b1⟩
    have B1 := Lib.hid (bt hbel.out b1)
    clear b1 x0 x1 x2 x3 x4 hbel
    by_cases hjM : j ≤ M
    rotate_left
    · have q3 : decide ((j : Int) ≤ (M : Int)) = false := decide_eq_false (by omega)
      have q3' : decide (j ≤ M) = false := decide_eq_false hjM
      obtain rfl : I = true := HI2.out.2 (fun i hi => hall.out i (by omega))
      have BE := Lib.hid (bt B0.out B1.out)
      clear HI2 hall MA CU HO1 FI1 HA
      go_wp2
      go_ret
      exact ⟨rfl, BE.out⟩
    have q3 : decide ((j : Int) ≤ (M : Int)) = true := decide_eq_true (by omega)
    have q3' : decide (j ≤ M) = true := decide_eq_true hjM
    obtain ⟨x0, x1, x2, x3, x4⟩ := cells5 (blk_below B1.out O0.out)
    go_wp2_with fail
    refine (CU.out _ j B1.out (by omega)).mono ?_
    rintro e w2 ⟨vp, rfl, r2, b2⟩
    obtain ⟨i, rfl⟩ : ∃ i, j = i + 1 := ⟨j - 1, by omega⟩
    have B2 := Lib.hid (bt B1.out b2)
    have R2 : Hid (∀ W : World, Below w2.heap.size w2 W → Runs W vp (cutN o.pl (i + 1))) := fun W h => r2.keeps h
    have HX : Hid (∀ W : World, Below w2.heap.size w2 W → Calls Tryz.prog 77 #[.slice au nl cu, vp] W fun e w' => e = .returned (.agg #[.int .u32 ((hf (i + 1)).t : Int), .int .u8 ((hf (i + 1)).r : Int)]) ∧ Below W.heap.size W w') := fun W h => HO1.out W vp (i + 1) (bt B2.out h) (R2.out W h)
    have FX : Hid (∀ W : World, Below w2.heap.size w2 W → Calls Tryz.prog 118 #[vp] W fun e w' => e = .returned (.agg #[.int .u32 ((af i).t : Int), .int .u8 ((af i).r : Int)]) ∧ Below W.heap.size W w') := fun W h => FI1.out W vp i (by omega) (R2.out W h)
    have AX : Hid (∀ W : World, Below w2.heap.size w2 W → Calls Tryz.prog 117 #[.slice ao n cap, .agg #[.int .u32 ((af i).t : Int), .int .u8 ((af i).r : Int)]] W fun e w' => e = .returned (.bool (hasO l (af i))) ∧ Below W.heap.size W w') := fun W h => HA.out W (af i) (bt B2.out h)
    obtain ⟨vpo, vpc, rfl⟩ := r2.shape
    obtain ⟨np, hnp⟩ : ∃ n, (cutN o.pl (i + 1)).length = n := ⟨_, rfl⟩
    rw [hnp] at HX FX ⊢
    have SK : Hid (∀ w' : World, Below w2.heap.size w2 w' → Below w2.heap.size w2 w' ∧ w'.cell? ⟨w.heap.size, 0, none⟩ = some (.int .u32 (ts : Int)) ∧ w'.cell? ⟨w.heap.size, 1, none⟩ = some (.int .u8 (rs : Int))) := fun W h => by
      have a2 := P0.out.keeps (bt B2.out h)
      exact ⟨h, a2.2.1, a2.2.2⟩
    have HST : Hid (((hf (i + 1)).t = ts ∧ (hf (i + 1)).r = rs → hasO l (af i) = true) → ∀ i2, i2 + 1 < i + 1 + 1 → ((hf (i2 + 1)).t = ts ∧ (hf (i2 + 1)).r = rs) → hasO l (af i2) = true) := fun h i2 h2 h3 => by
      by_cases e : i2 = i
      · subst e; exact h h3
      · exact hall.out i2 (by omega) h3
    have HNO : Hid ((hf (i + 1)).t = ts → (hf (i + 1)).r = rs → hasO l (af i) = false → I = false) := fun h1 h2 h3 => by
      cases hI : I
      · rfl
      · have := HI2.out.1 hI i (by omega) ⟨h1, h2⟩
        rw [h3] at this
        cases this
    obtain ⟨⟨T, R, hT, hR⟩, hh⟩ : ∃ z, hf (i + 1) = z := ⟨_, rfl⟩
    rw [hh] at HX HST HNO
    obtain ⟨⟨fT, fR, hfT, hfR⟩, hfa⟩ : ∃ z, af i = z := ⟨_, rfl⟩
    rw [hfa] at FX AX HST HNO
    simp only at HX FX AX HST HNO
    obtain ⟨b, hb⟩ : ∃ b, hasO l ⟨fT, fR, hfT, hfR⟩ = b := ⟨_, rfl⟩
    rw [hb] at AX HNO
    have HB := Lib.hid hb
    have ei : ((i + 1 : Nat) : Int) = (i : Int) + 1 := by omega
    clear b2 r2 x0 x1 x2 x3 x4 hall HI2 MA CU HO1 FI1 HA hh hfa hb R2 hnp
    have hne : ¬ T = ts ∨ (T = ts ∧ ¬ R = rs) ∨ (T = ts ∧ R = rs) := by
      by_cases h : T = ts
      · by_cases h2 : R = rs
        · exact .inr (.inr ⟨h, h2⟩)
        · exact .inr (.inl ⟨h, h2⟩)
      · exact .inl h
    rcases hne with hne | ⟨rfl, hne⟩ | ⟨rfl, rfl⟩
    · have hi : ¬ ((T : Int) = (ts : Int)) := by omega
      have NO := Lib.hid (HST.out (fun h => absurd h.1 hne))
      clear HST HNO HB FX AX
      go_wp2
      refine wp_region_held_drew (S := fun w' => Below w2.heap.size w2 w' ∧ w'.cell? ⟨w.heap.size, 0, none⟩ = some (.int .u32 (ts : Int)) ∧ w'.cell? ⟨w.heap.size, 1, none⟩ = some (.int .u8 (rs : Int))) (by kernel_rfl) (SK.out _ (drew1 _)) (fun hHeld => ?_)
      refine wpAnyH_take (i := 0) (v := ?va0) rfl (by kernel_rfl) (by kernel_rfl) (by kernel_rfl) (fun _ _ _ h => h) (Or.inl ⟨by rfl, ?ya0⟩) (by assumption) ?_
      case ya0 => intro w hSw; (try dsimp only at hSw); go_simp <;> with_reducible rfl
      try simp only [List.getElem_toArray, List.getElem_cons_zero, Act.put, List.setIfInBounds_toArray, List.set_cons_zero, List.set_cons_succ]
      refine wpAnyH_take (i := 1) (v := ?va1) rfl (by kernel_rfl) (by kernel_rfl) (by kernel_rfl) (fun _ _ _ h => h) (Or.inl ⟨by rfl, ?ya1⟩) (by assumption) ?_
      case ya1 => intro w hSw; (try dsimp only at hSw); go_simp <;> with_reducible rfl
      try simp only [List.getElem_toArray, List.getElem_cons_succ, List.getElem_cons_zero, Act.put, List.setIfInBounds_toArray, List.set_cons_zero, List.set_cons_succ]
      refine wpAnyH_take (i := 3) (v := ?va3) rfl (by kernel_rfl) (by kernel_rfl) (by kernel_rfl) (fun _ _ _ h => h) (Or.inl ⟨by rfl, ?ya3⟩) (by assumption) ?_
      case ya3 => intro w hSw; (try dsimp only at hSw); go_simp <;> with_reducible rfl
      try simp only [List.getElem_toArray, List.getElem_cons_succ, List.getElem_cons_zero, Act.put, List.setIfInBounds_toArray, List.set_cons_zero, List.set_cons_succ]
      refine wpAnyH_ready (rs := [2]) (by kernel_rfl) (by simp) ?_
      refine AllReadyH.cons rfl (fun K hK => ?_) ?za2
      case za2 => exact AllReadyH.nil
      go_simp
      refine (HX.out _ hHeld.1).mono ?_
      rintro e w9a2 ⟨rfl, b9⟩
      refine hK.out _ _ (SK.out _ (bt hHeld.1 b9)) (fun hNew => ?_)
      clear hHeld
      have hHeld := hNew
      clear hNew hK K
      try simp only [List.getElem_toArray, List.getElem_cons_succ, List.getElem_cons_zero, Act.put, List.setIfInBounds_toArray, List.set_cons_zero, List.set_cons_succ]
      refine wpAnyH_take (i := 4) (v := ?va4) rfl (by kernel_rfl) (by kernel_rfl) (by kernel_rfl) (fun _ _ _ h => h) (Or.inl ⟨by rfl, ?ya4⟩) (by assumption) ?_
      case ya4 => intro w hSw; (try dsimp only at hSw); go_simp <;> with_reducible rfl
      try simp only [List.getElem_toArray, List.getElem_cons_succ, List.getElem_cons_zero, Act.put, List.setIfInBounds_toArray, List.set_cons_zero, List.set_cons_succ]
      refine wpAnyH_take (i := 5) (v := ?va5) rfl (by kernel_rfl) (by kernel_rfl) (by kernel_rfl) (fun _ _ _ h => h) (Or.inl ⟨by rfl, ?ya5⟩) (by assumption) ?_
      case ya5 => intro w hSw; (try dsimp only at hSw); go_simp <;> with_reducible rfl
      try simp only [List.getElem_toArray, List.getElem_cons_succ, List.getElem_cons_zero, Act.put, List.setIfInBounds_toArray, List.set_cons_zero, List.set_cons_succ]
      refine wpAnyH_take (i := 6) (v := undef) rfl (by kernel_rfl) (by kernel_rfl) (by kernel_rfl) (fun _ _ _ h => h) (Or.inr ⟨by rfl, rfl⟩) (by assumption) ?_
      try simp only [List.getElem_toArray, List.getElem_cons_succ, List.getElem_cons_zero, Act.put, List.setIfInBounds_toArray, List.set_cons_zero, List.set_cons_succ]
      refine wpAnyH_take (i := 7) (v := undef) rfl (by kernel_rfl) (by kernel_rfl) (by kernel_rfl) (fun _ _ _ h => h) (Or.inr ⟨by rfl, rfl⟩) (by assumption) ?_
      try simp only [List.getElem_toArray, List.getElem_cons_succ, List.getElem_cons_zero, Act.put, List.setIfInBounds_toArray, List.set_cons_zero, List.set_cons_succ]
      refine wpAnyH_take (i := 8) (v := undef) rfl (by kernel_rfl) (by kernel_rfl) (by kernel_rfl) (fun _ _ _ h => h) (Or.inr ⟨by rfl, rfl⟩) (by assumption) ?_
      try simp only [List.getElem_toArray, List.getElem_cons_succ, List.getElem_cons_zero, Act.put, List.setIfInBounds_toArray, List.set_cons_zero, List.set_cons_succ]
      refine wpAnyH_take (i := 9) (v := undef) rfl (by kernel_rfl) (by kernel_rfl) (by kernel_rfl) (fun _ _ _ h => h) (Or.inr ⟨by rfl, rfl⟩) (by assumption) ?_
      try simp only [List.getElem_toArray, List.getElem_cons_succ, List.getElem_cons_zero, Act.put, List.setIfInBounds_toArray, List.set_cons_zero, List.set_cons_succ]
      refine wpAnyH_take (i := 10) (v := undef) rfl (by kernel_rfl) (by kernel_rfl) (by kernel_rfl) (fun _ _ _ h => h) (Or.inr ⟨by rfl, rfl⟩) (by assumption) ?_
      try simp only [List.getElem_toArray, List.getElem_cons_succ, List.getElem_cons_zero, Act.put, List.setIfInBounds_toArray, List.set_cons_zero, List.set_cons_succ]
      refine wpAnyH_take (i := 11) (v := ?va11) rfl (by kernel_rfl) (by kernel_rfl) (by kernel_rfl) (fun _ _ _ h => h) (Or.inl ⟨by rfl, ?ya11⟩) (by assumption) ?_
      case ya11 => intro w hSw; (try dsimp only at hSw); go_simp <;> with_reducible rfl
      try simp only [List.getElem_toArray, List.getElem_cons_succ, List.getElem_cons_zero, Act.put, List.setIfInBounds_toArray, List.set_cons_zero, List.set_cons_succ]
      refine wpAnyH_done (by kernel_rfl) ?_ _
      have BD := Lib.hid (bt B2.out hHeld.1)
      clear hHeld
      go_wp2
      go_roundw
      case rel => exact ⟨i + 1 + 1, by omega, by omega, by go_num, NO, BD⟩
      case measure => simp [intOf]; omega
    · have hi : ¬ ((R : Int) = (rs : Int)) := by omega
      have NO := Lib.hid (HST.out (fun h => absurd h.2 hne))
      clear HST HNO HB FX AX
      go_wp2
      refine wp_region_held_drew (S := fun w' => Below w2.heap.size w2 w' ∧ w'.cell? ⟨w.heap.size, 0, none⟩ = some (.int .u32 (T : Int)) ∧ w'.cell? ⟨w.heap.size, 1, none⟩ = some (.int .u8 (rs : Int))) (by kernel_rfl) (SK.out _ (drew1 _)) (fun hHeld => ?_)
      refine wpAnyH_take (i := 0) (v := ?vb0) rfl (by kernel_rfl) (by kernel_rfl) (by kernel_rfl) (fun _ _ _ h => h) (Or.inl ⟨by rfl, ?yb0⟩) (by assumption) ?_
      case yb0 => intro w hSw; (try dsimp only at hSw); go_simp <;> with_reducible rfl
      try simp only [List.getElem_toArray, List.getElem_cons_zero, Act.put, List.setIfInBounds_toArray, List.set_cons_zero, List.set_cons_succ]
      refine wpAnyH_take (i := 1) (v := ?vb1) rfl (by kernel_rfl) (by kernel_rfl) (by kernel_rfl) (fun _ _ _ h => h) (Or.inl ⟨by rfl, ?yb1⟩) (by assumption) ?_
      case yb1 => intro w hSw; (try dsimp only at hSw); go_simp <;> with_reducible rfl
      try simp only [List.getElem_toArray, List.getElem_cons_succ, List.getElem_cons_zero, Act.put, List.setIfInBounds_toArray, List.set_cons_zero, List.set_cons_succ]
      refine wpAnyH_take (i := 3) (v := ?vb3) rfl (by kernel_rfl) (by kernel_rfl) (by kernel_rfl) (fun _ _ _ h => h) (Or.inl ⟨by rfl, ?yb3⟩) (by assumption) ?_
      case yb3 => intro w hSw; (try dsimp only at hSw); go_simp <;> with_reducible rfl
      try simp only [List.getElem_toArray, List.getElem_cons_succ, List.getElem_cons_zero, Act.put, List.setIfInBounds_toArray, List.set_cons_zero, List.set_cons_succ]
      refine wpAnyH_ready (rs := [2]) (by kernel_rfl) (by simp) ?_
      refine AllReadyH.cons rfl (fun K hK => ?_) ?zb2
      case zb2 => exact AllReadyH.nil
      go_simp
      refine (HX.out _ hHeld.1).mono ?_
      rintro e w9b2 ⟨rfl, b9⟩
      refine hK.out _ _ (SK.out _ (bt hHeld.1 b9)) (fun hNew => ?_)
      clear hHeld
      have hHeld := hNew
      clear hNew hK K
      try simp only [List.getElem_toArray, List.getElem_cons_succ, List.getElem_cons_zero, Act.put, List.setIfInBounds_toArray, List.set_cons_zero, List.set_cons_succ]
      refine wpAnyH_take (i := 4) (v := ?vb4) rfl (by kernel_rfl) (by kernel_rfl) (by kernel_rfl) (fun _ _ _ h => h) (Or.inl ⟨by rfl, ?yb4⟩) (by assumption) ?_
      case yb4 => intro w hSw; (try dsimp only at hSw); go_simp <;> with_reducible rfl
      try simp only [List.getElem_toArray, List.getElem_cons_succ, List.getElem_cons_zero, Act.put, List.setIfInBounds_toArray, List.set_cons_zero, List.set_cons_succ]
      refine wpAnyH_take (i := 5) (v := ?vb5) rfl (by kernel_rfl) (by kernel_rfl) (by kernel_rfl) (fun _ _ _ h => h) (Or.inl ⟨by rfl, ?yb5⟩) (by assumption) ?_
      case yb5 => intro w hSw; (try dsimp only at hSw); go_simp <;> with_reducible rfl
      try simp only [List.getElem_toArray, List.getElem_cons_succ, List.getElem_cons_zero, Act.put, List.setIfInBounds_toArray, List.set_cons_zero, List.set_cons_succ]
      refine wpAnyH_take (i := 6) (v := undef) rfl (by kernel_rfl) (by kernel_rfl) (by kernel_rfl) (fun _ _ _ h => h) (Or.inr ⟨by rfl, rfl⟩) (by assumption) ?_
      try simp only [List.getElem_toArray, List.getElem_cons_succ, List.getElem_cons_zero, Act.put, List.setIfInBounds_toArray, List.set_cons_zero, List.set_cons_succ]
      refine wpAnyH_take (i := 7) (v := undef) rfl (by kernel_rfl) (by kernel_rfl) (by kernel_rfl) (fun _ _ _ h => h) (Or.inr ⟨by rfl, rfl⟩) (by assumption) ?_
      try simp only [List.getElem_toArray, List.getElem_cons_succ, List.getElem_cons_zero, Act.put, List.setIfInBounds_toArray, List.set_cons_zero, List.set_cons_succ]
      refine wpAnyH_take (i := 8) (v := undef) rfl (by kernel_rfl) (by kernel_rfl) (by kernel_rfl) (fun _ _ _ h => h) (Or.inr ⟨by rfl, rfl⟩) (by assumption) ?_
      try simp only [List.getElem_toArray, List.getElem_cons_succ, List.getElem_cons_zero, Act.put, List.setIfInBounds_toArray, List.set_cons_zero, List.set_cons_succ]
      refine wpAnyH_take (i := 9) (v := undef) rfl (by kernel_rfl) (by kernel_rfl) (by kernel_rfl) (fun _ _ _ h => h) (Or.inr ⟨by rfl, rfl⟩) (by assumption) ?_
      try simp only [List.getElem_toArray, List.getElem_cons_succ, List.getElem_cons_zero, Act.put, List.setIfInBounds_toArray, List.set_cons_zero, List.set_cons_succ]
      refine wpAnyH_take (i := 10) (v := undef) rfl (by kernel_rfl) (by kernel_rfl) (by kernel_rfl) (fun _ _ _ h => h) (Or.inr ⟨by rfl, rfl⟩) (by assumption) ?_
      try simp only [List.getElem_toArray, List.getElem_cons_succ, List.getElem_cons_zero, Act.put, List.setIfInBounds_toArray, List.set_cons_zero, List.set_cons_succ]
      refine wpAnyH_take (i := 11) (v := ?vb11) rfl (by kernel_rfl) (by kernel_rfl) (by kernel_rfl) (fun _ _ _ h => h) (Or.inl ⟨by rfl, ?yb11⟩) (by assumption) ?_
      case yb11 => intro w hSw; (try dsimp only at hSw); go_simp <;> with_reducible rfl
      try simp only [List.getElem_toArray, List.getElem_cons_succ, List.getElem_cons_zero, Act.put, List.setIfInBounds_toArray, List.set_cons_zero, List.set_cons_succ]
      refine wpAnyH_done (by kernel_rfl) ?_ _
      have BD := Lib.hid (bt B2.out hHeld.1)
      clear hHeld
      go_wp2
      go_roundw
      case rel => exact ⟨i + 1 + 1, by omega, by omega, by go_num, NO, BD⟩
      case measure => simp [intOf]; omega
    cases b
    · obtain rfl := HNO.out rfl rfl rfl
      clear HST HNO HB
      go_wp2
      refine wp_region_held_drew (S := fun w' => Below w2.heap.size w2 w' ∧ w'.cell? ⟨w.heap.size, 0, none⟩ = some (.int .u32 (T : Int)) ∧ w'.cell? ⟨w.heap.size, 1, none⟩ = some (.int .u8 (R : Int))) (by kernel_rfl) (SK.out _ (drew1 _)) (fun hHeld => ?_)
      refine wpAnyH_take (i := 0) (v := ?vc0) rfl (by kernel_rfl) (by kernel_rfl) (by kernel_rfl) (fun _ _ _ h => h) (Or.inl ⟨by rfl, ?yc0⟩) (by assumption) ?_
      case yc0 => intro w hSw; (try dsimp only at hSw); go_simp <;> with_reducible rfl
      try simp only [List.getElem_toArray, List.getElem_cons_zero, Act.put, List.setIfInBounds_toArray, List.set_cons_zero, List.set_cons_succ]
      refine wpAnyH_take (i := 1) (v := ?vc1) rfl (by kernel_rfl) (by kernel_rfl) (by kernel_rfl) (fun _ _ _ h => h) (Or.inl ⟨by rfl, ?yc1⟩) (by assumption) ?_
      case yc1 => intro w hSw; (try dsimp only at hSw); go_simp <;> with_reducible rfl
      try simp only [List.getElem_toArray, List.getElem_cons_succ, List.getElem_cons_zero, Act.put, List.setIfInBounds_toArray, List.set_cons_zero, List.set_cons_succ]
      refine wpAnyH_take (i := 3) (v := ?vc3) rfl (by kernel_rfl) (by kernel_rfl) (by kernel_rfl) (fun _ _ _ h => h) (Or.inl ⟨by rfl, ?yc3⟩) (by assumption) ?_
      case yc3 => intro w hSw; (try dsimp only at hSw); go_simp <;> with_reducible rfl
      try simp only [List.getElem_toArray, List.getElem_cons_succ, List.getElem_cons_zero, Act.put, List.setIfInBounds_toArray, List.set_cons_zero, List.set_cons_succ]
      refine wpAnyH_ready (rs := [2]) (by kernel_rfl) (by simp) ?_
      refine AllReadyH.cons rfl (fun K hK => ?_) ?zc2
      case zc2 => exact AllReadyH.nil
      go_simp
      refine (HX.out _ hHeld.1).mono ?_
      rintro e w9c2 ⟨rfl, b9⟩
      refine hK.out _ _ (SK.out _ (bt hHeld.1 b9)) (fun hNew => ?_)
      clear hHeld
      have hHeld := hNew
      clear hNew hK K
      try simp only [List.getElem_toArray, List.getElem_cons_succ, List.getElem_cons_zero, Act.put, List.setIfInBounds_toArray, List.set_cons_zero, List.set_cons_succ]
      refine wpAnyH_take (i := 4) (v := ?vc4) rfl (by kernel_rfl) (by kernel_rfl) (by kernel_rfl) (fun _ _ _ h => h) (Or.inl ⟨by rfl, ?yc4⟩) (by assumption) ?_
      case yc4 => intro w hSw; (try dsimp only at hSw); go_simp <;> with_reducible rfl
      try simp only [List.getElem_toArray, List.getElem_cons_succ, List.getElem_cons_zero, Act.put, List.setIfInBounds_toArray, List.set_cons_zero, List.set_cons_succ]
      refine wpAnyH_take (i := 5) (v := ?vc5) rfl (by kernel_rfl) (by kernel_rfl) (by kernel_rfl) (fun _ _ _ h => h) (Or.inl ⟨by rfl, ?yc5⟩) (by assumption) ?_
      case yc5 => intro w hSw; (try dsimp only at hSw); go_simp <;> with_reducible rfl
      try simp only [List.getElem_toArray, List.getElem_cons_succ, List.getElem_cons_zero, Act.put, List.setIfInBounds_toArray, List.set_cons_zero, List.set_cons_succ]
      refine wpAnyH_take (i := 6) (v := ?vc6) rfl (by kernel_rfl) (by kernel_rfl) (by kernel_rfl) (fun _ _ _ h => h) (Or.inl ⟨by rfl, ?yc6⟩) (by assumption) ?_
      case yc6 => intro w hSw; (try dsimp only at hSw); go_simp <;> with_reducible rfl
      try simp only [List.getElem_toArray, List.getElem_cons_succ, List.getElem_cons_zero, Act.put, List.setIfInBounds_toArray, List.set_cons_zero, List.set_cons_succ]
      refine wpAnyH_take (i := 7) (v := ?vc7) rfl (by kernel_rfl) (by kernel_rfl) (by kernel_rfl) (fun _ _ _ h => h) (Or.inl ⟨by rfl, ?yc7⟩) (by assumption) ?_
      case yc7 => intro w hSw; (try dsimp only at hSw); go_simp <;> with_reducible rfl
      try simp only [List.getElem_toArray, List.getElem_cons_succ, List.getElem_cons_zero, Act.put, List.setIfInBounds_toArray, List.set_cons_zero, List.set_cons_succ]
      refine wpAnyH_ready (rs := [8]) (by kernel_rfl) (by simp) ?_
      refine AllReadyH.cons rfl (fun K hK => ?_) ?zc8
      case zc8 => exact AllReadyH.nil
      go_simp
      refine (FX.out _ hHeld.1).mono ?_
      rintro e w9c8 ⟨rfl, b9⟩
      refine hK.out _ _ (SK.out _ (bt hHeld.1 b9)) (fun hNew => ?_)
      clear hHeld
      have hHeld := hNew
      clear hNew hK K
      try simp only [List.getElem_toArray, List.getElem_cons_succ, List.getElem_cons_zero, Act.put, List.setIfInBounds_toArray, List.set_cons_zero, List.set_cons_succ]
      refine wpAnyH_ready (rs := [9]) (by kernel_rfl) (by simp) ?_
      refine AllReadyH.cons rfl (fun K hK => ?_) ?zc9
      case zc9 => exact AllReadyH.nil
      go_simp
      refine (AX.out _ hHeld.1).mono ?_
      rintro e w9c9 ⟨rfl, b9⟩
      refine hK.out _ _ (SK.out _ (bt hHeld.1 b9)) (fun hNew => ?_)
      clear hHeld
      have hHeld := hNew
      clear hNew hK K
      try simp only [List.getElem_toArray, List.getElem_cons_succ, List.getElem_cons_zero, Act.put, List.setIfInBounds_toArray, List.set_cons_zero, List.set_cons_succ]
      refine wpAnyH_take (i := 10) (v := ?vc10) rfl (by kernel_rfl) (by kernel_rfl) (by kernel_rfl) (fun _ _ _ h => h) (Or.inl ⟨by rfl, ?yc10⟩) (by assumption) ?_
      case yc10 => intro w hSw; (try dsimp only at hSw); go_simp <;> with_reducible rfl
      try simp only [List.getElem_toArray, List.getElem_cons_succ, List.getElem_cons_zero, Act.put, List.setIfInBounds_toArray, List.set_cons_zero, List.set_cons_succ]
      refine wpAnyH_take (i := 11) (v := ?vc11) rfl (by kernel_rfl) (by kernel_rfl) (by kernel_rfl) (fun _ _ _ h => h) (Or.inl ⟨by rfl, ?yc11⟩) (by assumption) ?_
      case yc11 => intro w hSw; (try dsimp only at hSw); go_simp <;> with_reducible rfl
      try simp only [List.getElem_toArray, List.getElem_cons_succ, List.getElem_cons_zero, Act.put, List.setIfInBounds_toArray, List.set_cons_zero, List.set_cons_succ]
      refine wpAnyH_done (by kernel_rfl) ?_ _
      have BE := Lib.hid (bt B0.out (bt B2.out hHeld.1))
      clear hHeld
      go_wp2
      go_ret
      exact ⟨rfl, BE.out⟩
    have NO := Lib.hid (HST.out (fun _ => HB.out))
    clear HST HNO HB
    go_wp2
    refine wp_region_held_drew (S := fun w' => Below w2.heap.size w2 w' ∧ w'.cell? ⟨w.heap.size, 0, none⟩ = some (.int .u32 (T : Int)) ∧ w'.cell? ⟨w.heap.size, 1, none⟩ = some (.int .u8 (R : Int))) (by kernel_rfl) (SK.out _ (drew1 _)) (fun hHeld => ?_)
    refine wpAnyH_take (i := 0) (v := ?vd0) rfl (by kernel_rfl) (by kernel_rfl) (by kernel_rfl) (fun _ _ _ h => h) (Or.inl ⟨by rfl, ?yd0⟩) (by assumption) ?_
    case yd0 => intro w hSw; (try dsimp only at hSw); go_simp <;> with_reducible rfl
    try simp only [List.getElem_toArray, List.getElem_cons_zero, Act.put, List.setIfInBounds_toArray, List.set_cons_zero, List.set_cons_succ]
    refine wpAnyH_take (i := 1) (v := ?vd1) rfl (by kernel_rfl) (by kernel_rfl) (by kernel_rfl) (fun _ _ _ h => h) (Or.inl ⟨by rfl, ?yd1⟩) (by assumption) ?_
    case yd1 => intro w hSw; (try dsimp only at hSw); go_simp <;> with_reducible rfl
    try simp only [List.getElem_toArray, List.getElem_cons_succ, List.getElem_cons_zero, Act.put, List.setIfInBounds_toArray, List.set_cons_zero, List.set_cons_succ]
    refine wpAnyH_take (i := 3) (v := ?vd3) rfl (by kernel_rfl) (by kernel_rfl) (by kernel_rfl) (fun _ _ _ h => h) (Or.inl ⟨by rfl, ?yd3⟩) (by assumption) ?_
    case yd3 => intro w hSw; (try dsimp only at hSw); go_simp <;> with_reducible rfl
    try simp only [List.getElem_toArray, List.getElem_cons_succ, List.getElem_cons_zero, Act.put, List.setIfInBounds_toArray, List.set_cons_zero, List.set_cons_succ]
    refine wpAnyH_ready (rs := [2]) (by kernel_rfl) (by simp) ?_
    refine AllReadyH.cons rfl (fun K hK => ?_) ?zd2
    case zd2 => exact AllReadyH.nil
    go_simp
    refine (HX.out _ hHeld.1).mono ?_
    rintro e w9d2 ⟨rfl, b9⟩
    refine hK.out _ _ (SK.out _ (bt hHeld.1 b9)) (fun hNew => ?_)
    clear hHeld
    have hHeld := hNew
    clear hNew hK K
    try simp only [List.getElem_toArray, List.getElem_cons_succ, List.getElem_cons_zero, Act.put, List.setIfInBounds_toArray, List.set_cons_zero, List.set_cons_succ]
    refine wpAnyH_take (i := 4) (v := ?vd4) rfl (by kernel_rfl) (by kernel_rfl) (by kernel_rfl) (fun _ _ _ h => h) (Or.inl ⟨by rfl, ?yd4⟩) (by assumption) ?_
    case yd4 => intro w hSw; (try dsimp only at hSw); go_simp <;> with_reducible rfl
    try simp only [List.getElem_toArray, List.getElem_cons_succ, List.getElem_cons_zero, Act.put, List.setIfInBounds_toArray, List.set_cons_zero, List.set_cons_succ]
    refine wpAnyH_take (i := 5) (v := ?vd5) rfl (by kernel_rfl) (by kernel_rfl) (by kernel_rfl) (fun _ _ _ h => h) (Or.inl ⟨by rfl, ?yd5⟩) (by assumption) ?_
    case yd5 => intro w hSw; (try dsimp only at hSw); go_simp <;> with_reducible rfl
    try simp only [List.getElem_toArray, List.getElem_cons_succ, List.getElem_cons_zero, Act.put, List.setIfInBounds_toArray, List.set_cons_zero, List.set_cons_succ]
    refine wpAnyH_take (i := 6) (v := ?vd6) rfl (by kernel_rfl) (by kernel_rfl) (by kernel_rfl) (fun _ _ _ h => h) (Or.inl ⟨by rfl, ?yd6⟩) (by assumption) ?_
    case yd6 => intro w hSw; (try dsimp only at hSw); go_simp <;> with_reducible rfl
    try simp only [List.getElem_toArray, List.getElem_cons_succ, List.getElem_cons_zero, Act.put, List.setIfInBounds_toArray, List.set_cons_zero, List.set_cons_succ]
    refine wpAnyH_take (i := 7) (v := ?vd7) rfl (by kernel_rfl) (by kernel_rfl) (by kernel_rfl) (fun _ _ _ h => h) (Or.inl ⟨by rfl, ?yd7⟩) (by assumption) ?_
    case yd7 => intro w hSw; (try dsimp only at hSw); go_simp <;> with_reducible rfl
    try simp only [List.getElem_toArray, List.getElem_cons_succ, List.getElem_cons_zero, Act.put, List.setIfInBounds_toArray, List.set_cons_zero, List.set_cons_succ]
    refine wpAnyH_ready (rs := [8]) (by kernel_rfl) (by simp) ?_
    refine AllReadyH.cons rfl (fun K hK => ?_) ?zd8
    case zd8 => exact AllReadyH.nil
    go_simp
    refine (FX.out _ hHeld.1).mono ?_
    rintro e w9d8 ⟨rfl, b9⟩
    refine hK.out _ _ (SK.out _ (bt hHeld.1 b9)) (fun hNew => ?_)
    clear hHeld
    have hHeld := hNew
    clear hNew hK K
    try simp only [List.getElem_toArray, List.getElem_cons_succ, List.getElem_cons_zero, Act.put, List.setIfInBounds_toArray, List.set_cons_zero, List.set_cons_succ]
    refine wpAnyH_ready (rs := [9]) (by kernel_rfl) (by simp) ?_
    refine AllReadyH.cons rfl (fun K hK => ?_) ?zd9
    case zd9 => exact AllReadyH.nil
    go_simp
    refine (AX.out _ hHeld.1).mono ?_
    rintro e w9d9 ⟨rfl, b9⟩
    refine hK.out _ _ (SK.out _ (bt hHeld.1 b9)) (fun hNew => ?_)
    clear hHeld
    have hHeld := hNew
    clear hNew hK K
    try simp only [List.getElem_toArray, List.getElem_cons_succ, List.getElem_cons_zero, Act.put, List.setIfInBounds_toArray, List.set_cons_zero, List.set_cons_succ]
    refine wpAnyH_take (i := 10) (v := ?vd10) rfl (by kernel_rfl) (by kernel_rfl) (by kernel_rfl) (fun _ _ _ h => h) (Or.inl ⟨by rfl, ?yd10⟩) (by assumption) ?_
    case yd10 => intro w hSw; (try dsimp only at hSw); go_simp <;> with_reducible rfl
    try simp only [List.getElem_toArray, List.getElem_cons_succ, List.getElem_cons_zero, Act.put, List.setIfInBounds_toArray, List.set_cons_zero, List.set_cons_succ]
    refine wpAnyH_take (i := 11) (v := ?vd11) rfl (by kernel_rfl) (by kernel_rfl) (by kernel_rfl) (fun _ _ _ h => h) (Or.inl ⟨by rfl, ?yd11⟩) (by assumption) ?_
    case yd11 => intro w hSw; (try dsimp only at hSw); go_simp <;> with_reducible rfl
    try simp only [List.getElem_toArray, List.getElem_cons_succ, List.getElem_cons_zero, Act.put, List.setIfInBounds_toArray, List.set_cons_zero, List.set_cons_succ]
    refine wpAnyH_done (by kernel_rfl) ?_ _
    have BD := Lib.hid (bt B2.out hHeld.1)
    clear hHeld
    go_wp2
    go_roundw
    case rel => exact ⟨i + 1 + 1, by omega, by omega, by go_num, NO, BD⟩
    case measure => simp [intOf]; omega
end Go.Proofs.YtdackenaknieaaaGreat.Covers
