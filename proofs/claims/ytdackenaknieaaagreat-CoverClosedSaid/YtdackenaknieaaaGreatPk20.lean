/- octavo/cover.chosen, Homed, Counts, Version: what each answers. Conditions: the slice's cells are operations. -/
import Derived.Shelf.Abstract
import Derived.Laws.CopyOwn
import Derived.Deep.AppendSrc
import Derived.Lib.AppendZeros
import Derived.Laws.MakeOwn
import Derived.Test.YtdackenaknieaaaGreatPk09
import Derived.Test.YtdackenaknieaaaGreatPk14
import Derived.Test.YtdackenaknieaaaGreatPk05
import Derived.Test.YtdackenaknieaaaGreatPk19
import Derived.Test.YtdackenaknieaaaGreatPk06
import Derived.Test.YtdackenaknieaaaGreatPk01

namespace Go.Proofs.YtdackenaknieaaaGreat.Covers
open Go.RowKit Go.WideShapes Stamp Go.Proofs.YtdackenaknieaaaGreat.Place Ops Codes Bags Marks Homes
attribute [local go_sem ↓] Go.wp_at_zero Go.wp_at_succ
attribute [local go_sem] yielded_undef

/-- What a choice answers, asked of content of the bag. -/
def Asks (f : Nat) (l : List Opn) (s : Id) (Q : Opn → Bool) : Prop := ∀ (W : World) (va vb u : Value) (g b n : Nat) (o : Opn), o ∈ l → Runs W va (fromL l s) → Runs W vb (toL l s) → Runs W u o.pl → SetI W b n (hasO l) → W.cell? ⟨g, 0, none⟩ = some (.map (some b)) → g < W.heap.size →
  Calls Tryz.prog f #[.agg #[va, vb, .func (.func 107) #[] #[.pointer (some ⟨g, 0, none⟩)]], opv o u] W fun e w' => e = .returned (.bool (Q o)) ∧ Below W.heap.size W w'
set_option maxRecDepth 100000 in
set_option maxHeartbeats 8000000 in
theorem chosen_any {v0 : Value} {l : List Opn} (s : Id) (f : Nat) (eg : ∀ args w, (callFunc f args).run Tryz.prog w = .ok (.enter f args) w) (Q : Opn → Bool) {w : World} (hv : OpL w v0 l) (hQ : spanE l s = 0 → Asks f l s Q) :
    Calls Tryz.prog 32 #[v0, .agg #[.int .u32 (s.t : Int), .int .u8 (s.r : Int)], .func (.func f) #[] #[]] w (DoneN (if spanE l s = 0 then l.filter (fun o => contB o && Q o) else []) (spanE l s) w) := by
  obtain ⟨ao, cap, rfl⟩ := hv.shape
  obtain ⟨n, hn⟩ : ∃ n, n = l.length := ⟨_, rfl⟩
  have HV : Hid (∀ W : World, Below w.heap.size w W → OpL W (.slice ao l.length cap) l) := fun W h => hv.keeps h
  have HN := Lib.hid hn
  have B0 : Hid (Below w.heap.size w (w.alloc (.cells #[.int .u32 (s.t : Int), .int .u8 (s.r : Int)] 28))) := (Below.refl _ _).alloc (Nat.le_refl _) _
  have SP : Hid (Calls Tryz.prog 62 #[.slice ao n cap, .agg #[.int .u32 (s.t : Int), .int .u8 (s.r : Int)]] (w.alloc (.cells #[.int .u32 (s.t : Int), .int .u8 (s.r : Int)] 28)) (TwoR (fromL l s) (toL l s) (spanE l s) (w.alloc (.cells #[.int .u32 (s.t : Int), .int .u8 (s.r : Int)] 28)))) := by
    have := hSpan_any s (hv.keeps B0.out)
    rwa [← hn] at this
  have hcs := spanE_cases l s
  by_cases hE : spanE l s = 0
  rotate_left
  · obtain ⟨c, hc⟩ : ∃ c, spanE l s = c := ⟨_, rfl⟩
    rw [hc] at hE hcs SP ⊢
    rw [if_neg hE, ← hn]
    have q1 : (c != 0) = true := by simpa using hE
    have q2 : decide (c = 0) = false := decide_eq_false hE
    obtain ⟨st, sr, hst, hsr⟩ := s
    simp only at SP B0 ⊢
    clear hv hn HV HN hcs hQ hc
    go_enter Tryz.func32, Tryz.ntmps32
    go_wp2_with fail
    refine SP.out.mono ?_
    rintro e w1 ⟨va, vb, rfl, h1, h2, b1⟩
    have B1 := Lib.hid (bt B0.out b1)
    clear h1 h2 b1 SP B0
    go_wp2
    go_ret2
    exact ⟨_, rfl, OwnL.nil _ _, B1.out⟩
  have hbag := (spanE_zero.1 hE).1
  have ASK : Hid (Asks f l s Q) := hQ hE
  rw [if_pos hE]
  rw [hE] at SP ⊢
  have hnm : n ≤ 1024 := by rw [hn]; exact hbag.1
  have HP : Hid (∀ o ∈ l, o.pl.length ≤ 8796093022208) := (bag_fits hbag).2
  have AS : Hid (∀ W : World, Below w.heap.size w W → Calls Tryz.prog 63 #[.slice ao n cap] W fun e w' => ∃ g b n, e = .returned (.func (.func 107) #[] #[.pointer (some ⟨g, 0, none⟩)]) ∧ g < w'.heap.size ∧ w'.cell? ⟨g, 0, none⟩ = some (.map (some b)) ∧ SetI w' b n (hasO l) ∧ Below W.heap.size W w') := fun W h => by
    have := asking_any (hv.keeps h) hbag.1
    rwa [← hn] at this
  rw [← hn]
  obtain ⟨st, sr, hst, hsr⟩ := s
  simp only at SP B0 ⊢
  obtain ⟨F, hF⟩ : ∃ F, fromL l ⟨st, sr, hst, hsr⟩ = F := ⟨_, rfl⟩
  obtain ⟨T, hT⟩ : ∃ T, toL l ⟨st, sr, hst, hsr⟩ = T := ⟨_, rfl⟩
  have AK : Hid (∀ (W : World) (va vb u : Value) (g b n : Nat) (o : Opn), o ∈ l → Runs W va F → Runs W vb T → Runs W u o.pl → SetI W b n (hasO l) → W.cell? ⟨g, 0, none⟩ = some (.map (some b)) → g < W.heap.size →
      Calls Tryz.prog f #[.agg #[va, vb, .func (.func 107) #[] #[.pointer (some ⟨g, 0, none⟩)]], opv o u] W fun e w' => e = .returned (.bool (Q o)) ∧ Below W.heap.size W w') := by
    have := ASK.out
    unfold Asks at this
    rw [hF, hT] at this
    exact this
  rw [hF, hT] at SP
  clear hv hn hcs hQ hbag ASK hE hF hT
  go_enter Tryz.func32, Tryz.ntmps32
  go_wp2_with fail
  refine SP.out.mono ?_
  rintro e w1 ⟨va, vb, rfl, h1, h2, b1⟩
  have R1 : Hid (Runs w1 va F) := Runs.own h1
  have R2 : Hid (Runs w1 vb T) := Runs.own h2
  obtain ⟨fo, fc, rfl⟩ := Runs.shape R1.out
  obtain ⟨to', tc, rfl⟩ := Runs.shape R2.out
  obtain ⟨nf, hnf⟩ : ∃ n, F.length = n := ⟨_, rfl⟩
  obtain ⟨nt, hnt⟩ : ∃ n, T.length = n := ⟨_, rfl⟩
  rw [hnf] at R1 ⊢
  rw [hnt] at R2 ⊢
  have B1 := Lib.hid (bt B0.out b1)
  clear h1 h2 b1 SP B0 hnf hnt
  go_wp2_with fail
  refine (AS.out _ B1.out).mono ?_
  rintro e w2 ⟨g, b, n0, rfl, hg, hc, hs, b2⟩
  have R3 := Lib.hid (R1.out.keeps b2)
  have R4 := Lib.hid (R2.out.keeps b2)
  have B2 := Lib.hid (bt B1.out b2)
  obtain ⟨wm, hwm⟩ : ∃ wm, w2.alloc (.cells #[.slice fo nf fc, .slice to' nt tc, .func (.func 107) #[] #[.pointer (some ⟨g, 0, none⟩)]] 68) = wm := ⟨_, rfl⟩
  have BM : Hid (Below w2.heap.size w2 wm) := by rw [← hwm]; exact (Below.refl _ _).alloc (Nat.le_refl _) _
  have XM : Hid (wm.heap[w2.heap.size]? = some (.cells #[.slice fo nf fc, .slice to' nt tc, .func (.func 107) #[] #[.pointer (some ⟨g, 0, none⟩)]] 68)) := by rw [← hwm]; exact blk_new rfl
  have HWM := Lib.hid hwm
  have S0 : Hid (SetI wm b n0 (hasO l)) := hs.keeps BM.out
  have C0 : Hid (wm.cell? ⟨g, 0, none⟩ = some (.map (some b))) := (BM.out.cell (p := ⟨g, 0, none⟩) hg).trans hc
  have G0 : Hid (g < wm.heap.size) := Nat.lt_of_lt_of_le hg BM.out.size
  have AX : Hid (∀ (W : World) (u : Value) (o : Opn), Below wm.heap.size wm W → o ∈ l → Runs W u o.pl → Calls Tryz.prog f #[.agg #[.slice fo nf fc, .slice to' nt tc, .func (.func 107) #[] #[.pointer (some ⟨g, 0, none⟩)]], opv o u] W fun e w' => e = .returned (.bool (Q o)) ∧ Below W.heap.size W w') := fun W u o h1 h2 h3 =>
    AK.out W _ _ u g b n0 o h2 (R3.out.keeps (bt BM.out h1)) (R4.out.keeps (bt BM.out h1)) h3 (S0.out.keeps h1) ((h1.cell (p := ⟨g, 0, none⟩) G0.out).trans C0.out) (Nat.lt_of_lt_of_le G0.out h1.size)
  have B3 : Hid (Below w.heap.size w wm) := bt B2.out BM.out
  have HZ : Hid (w2.heap.size < wm.heap.size) := (Array.getElem?_eq_some_iff.1 XM.out).1
  have L2 : Hid (OwnL wm wm.heap.size (.slice none 0 0) ((l.take 0).filter (fun o => contB o && Q o))) := OwnL.nil _ _
  have M2 : Hid (0 = ((l.take 0).filter (fun o => contB o && Q o)).length) := rfl
  have Z2 : Hid (Below wm.heap.size wm wm) := Below.refl _ _
  clear b2 hg hc hs hwm R1 R2 R3 R4 B1 B2 S0 C0 G0 AK AS BM
  go_wp2
  rw [HWM.out]
  go_loopw [12, 32] (fun v i wr => ∃ j m : Nat, j ≤ n ∧ i = .int .i64 (j : Int) ∧ m ≤ j ∧ (∃ ao cap, v = .slice ao m cap) ∧ Hid (m = ((l.take j).filter (fun o => contB o && Q o)).length) ∧ Hid (OwnL wr wm.heap.size v ((l.take j).filter (fun o => contB o && Q o))) ∧ Hid (Below wm.heap.size wm wr)) (fun _ i _ => n - (intOf i).toNat)
  case atStart => exact ⟨0, 0, by omega, rfl, by omega, ⟨none, 0, rfl⟩, M2, L2, Z2⟩
  case round =>
    clear M2 L2 Z2 HWM
    obtain ⟨j, m, hj, rfl, hmj, ⟨aoL, capL, rfl⟩, HM, hown, hbm⟩ := hrel
    have hbel : Hid (Below w.heap.size w wr) := bt B3.out hbm.out
    by_cases hjn : j < n
    rotate_left
    · have q3 : decide (j < n) = false := by simpa using hjn
      have hkk : l.take j = l := List.take_of_length_le (by have := HN.out; omega)
      rw [hkk] at hown
      clear hkk
      go_wp2
      go_ret2
      exact ⟨_, rfl, hown.out.base B3.out.size, hbel.out⟩
    have q3 : decide (j < n) = true := by simpa using hjn
    have q4 : (0 : Int) ≤ (j : Int) := by omega
    have q5 : (j : Int) < (n : Int) := by omega
    have hjl : j < l.length := by rw [← HN.out]; exact hjn
    obtain ⟨bb, oo, u, e, hbb, hru, h0, h1, h2, h3, h4⟩ := opl_at (HV.out wr hbel.out) j hjl
    subst e
    obtain ⟨x, hx⟩ : ∃ x, x = l[j]'hjl := ⟨_, rfl⟩
    rw [← hx] at hru h0 h1 h2 h4
    have HO : Hid (∀ v : Value, opv x v = .agg #[.int .u8 (x.k : Int), .int .u32 (x.t : Int), .int .u8 (x.r : Int), v, .int .i64 x.p]) := fun v => rfl
    obtain ⟨uo, uc, rfl⟩ := hru.shape
    obtain ⟨nu, hnu⟩ : ∃ n, n = x.pl.length := ⟨_, rfl⟩
    have HNU := Lib.hid hnu
    rw [← hnu] at hru h3
    clear hnu
    have hxl : x ∈ l := by rw [hx]; exact List.getElem_mem hjl
    have hpx : x.pl.length ≤ 8796093022208 := HP.out x hxl
    have FT : Hid ((l.take (j + 1)).filter (fun o => contB o && Q o) = (l.take j).filter (fun o => contB o && Q o) ++ (if (contB x && Q x) = true then [x] else [])) := by
      unfold Hid
      rw [List.take_succ_eq_append_getElem hjl, List.filter_append, hx]
      congr 1
      simp [List.filter_cons]
    obtain ⟨L, hL⟩ : ∃ z, (l.take j).filter (fun o => contB o && Q o) = z := ⟨_, rfl⟩
    rw [hL] at HM hown FT
    have CO : Hid (∀ W : World, Calls Tryz.prog 64 #[opv x (.slice uo nu uc)] W fun e w' => e = .returned (.bool (contB x)) ∧ Below W.heap.size W w') := fun W => oContent_any W
    have CH : Hid (∀ W : World, Below wr.heap.size wr W → Calls Tryz.prog f #[.agg #[.slice fo nf fc, .slice to' nt tc, .func (.func 107) #[] #[.pointer (some ⟨g, 0, none⟩)]], opv x (.slice uo nu uc)] W fun e w' => e = .returned (.bool (Q x)) ∧ Below W.heap.size W w') := fun W h => AX.out W _ x (bt hbm.out h) hxl (by rw [HNU.out]; rw [HNU.out] at hru; exact hru.keeps h)
    have TW : Hid (∀ W : World, Below wr.heap.size wr W → Calls Tryz.prog 57 #[opv x (.slice uo nu uc)] W fun e w' => ∃ ao cap, e = .returned (opv x (.slice ao nu cap)) ∧ w'.ownsRow wm.heap.size 49 3 (.slice ao nu cap) x.pl.length (runs x.pl) ∧ Below W.heap.size W w') := fun W hW => by
      refine (oTwin_any (hru.keeps hW) hpx).mono ?_
      rintro e w' ⟨v', rfl, ho, hb⟩
      obtain ⟨ao', cap', rfl⟩ : ∃ ao cap, v' = .slice ao x.pl.length cap := Sees.shape (Sees.own ho)
      rw [← HNU.out] at ho ⊢
      exact ⟨ao', cap', rfl, op_base ho (Nat.le_trans hbm.out.size hW.size), hb⟩
    clear hx hru hpx hL hxl
    obtain ⟨k, hk⟩ : ∃ z, x.k = z := ⟨_, rfl⟩
    obtain ⟨t, ht⟩ : ∃ z, x.t = z := ⟨_, rfl⟩
    obtain ⟨r, hr⟩ : ∃ z, x.r = z := ⟨_, rfl⟩
    obtain ⟨p, hp⟩ : ∃ z, x.p = z := ⟨_, rfl⟩
    rw [hk, ht, hr, hp] at HO
    rw [hk] at h0
    rw [ht] at h1
    rw [hr] at h2
    rw [hp] at h4
    simp only [HO.out] at TW CO CH
    have HFV : Hid (∀ v : Value, [.int .u8 (k : Int), .int .u32 (t : Int), .int .u8 (r : Int), v, .int .i64 p] = [Value.int .u8 (x.k : Int), .int .u32 (x.t : Int), .int .u8 (x.r : Int), v, .int .i64 x.p]) := fun v => by rw [hk, ht, hr, hp]
    obtain ⟨qc, hqc⟩ : ∃ q, contB x = q := ⟨_, rfl⟩
    rw [hqc] at CO FT
    obtain ⟨q, hq⟩ : ∃ q, Q x = q := ⟨_, rfl⟩
    rw [hq] at CH FT
    have BL : Hid (Below wr.heap.size wr (wr.alloc (.cells #[.int .u8 (k : Int), .int .u32 (t : Int), .int .u8 (r : Int), .slice uo nu uc, .int .i64 p] 31))) := (Below.refl _ _).alloc (Nat.le_refl _) _
    have SK : Hid (∀ W : World, Below (wr.alloc (.cells #[.int .u8 (k : Int), .int .u32 (t : Int), .int .u8 (r : Int), .slice uo nu uc, .int .i64 p] 31)).heap.size (wr.alloc (.cells #[.int .u8 (k : Int), .int .u32 (t : Int), .int .u8 (r : Int), .slice uo nu uc, .int .i64 p] 31)) W → (W.cell? ⟨wr.heap.size, 0, none⟩ = some (.int .u8 (k : Int)) ∧ W.cell? ⟨wr.heap.size, 1, none⟩ = some (.int .u32 (t : Int)) ∧ W.cell? ⟨wr.heap.size, 2, none⟩ = some (.int .u8 (r : Int)) ∧ W.cell? ⟨wr.heap.size, 3, none⟩ = some (.slice uo nu uc) ∧ W.cell? ⟨wr.heap.size, 4, none⟩ = some (.int .i64 p)) ∧ W.cell? ⟨w2.heap.size, 0, none⟩ = some (.slice fo nf fc) ∧ W.cell? ⟨w2.heap.size, 1, none⟩ = some (.slice to' nt tc) ∧ W.cell? ⟨w2.heap.size, 2, none⟩ = some (.func (.func 107) #[] #[.pointer (some ⟨g, 0, none⟩)])) := fun W h => by
      have g1 := blk_below h (blk_below BL.out (blk_below hbm.out XM.out))
      exact ⟨five_cells h, cell_of_row _ _ 0 _ _ _ g1, cell_of_row _ _ 1 _ _ _ g1, cell_of_row _ _ 2 _ _ _ g1⟩
    clear hk ht hr hp HO hqc hq
    cases qc
    · have FT2 : Hid ((l.take (j + 1)).filter (fun o => contB o && Q o) = L) := by unfold Hid; rw [FT.out]; simp
      clear FT TW HFV SK CH
      go_wp2_with fail
      refine (CO.out _).mono ?_
      rintro e w5 ⟨rfl, b5⟩
      have B5 := Lib.hid (bt BL.out b5)
      clear b5
      have L5 := Lib.hid (hown.out.keeps B5.out)
      have B6 := Lib.hid (bt hbm.out B5.out)
      rw [← FT2.out] at L5 HM
      clear hown
      go_wp2
      go_roundw
      case rel => exact ⟨j + 1, m, by omega, by go_num, by omega, ⟨aoL, capL, rfl⟩, HM, L5, B6⟩
      case measure => simp [intOf]; omega
    cases q
    · have FT2 : Hid ((l.take (j + 1)).filter (fun o => contB o && Q o) = L) := by unfold Hid; rw [FT.out]; simp
      clear FT TW HFV
      go_wp2_with fail
      refine (CO.out _).mono ?_
      rintro e w4 ⟨rfl, b4⟩
      have B4 := Lib.hid (bt BL.out b4)
      obtain ⟨⟨g0, g1, g2, g3, g4⟩, f0, f1, f2⟩ := SK.out _ b4
      clear b4 SK h0 h1 h2 h3 h4
      go_wp2_with fail
      refine (CH.out _ B4.out).mono ?_
      rintro e w5 ⟨rfl, b5⟩
      have B5 := Lib.hid (bt B4.out b5)
      clear b5 g0 g1 g2 g3 g4 f0 f1 f2
      have L5 := Lib.hid (hown.out.keeps B5.out)
      have B6 := Lib.hid (bt hbm.out B5.out)
      rw [← FT2.out] at L5 HM
      clear hown
      go_wp2
      go_roundw
      case rel => exact ⟨j + 1, m, by omega, by go_num, by omega, ⟨aoL, capL, rfl⟩, HM, L5, B6⟩
      case measure => simp [intOf]; omega
    have FT2 : Hid ((l.take (j + 1)).filter (fun o => contB o && Q o) = L ++ [x]) := by unfold Hid; rw [FT.out]; simp
    clear FT
    go_wp2_with fail
    refine (CO.out _).mono ?_
    rintro e w3 ⟨rfl, b3⟩
    have B3' := Lib.hid (bt BL.out b3)
    have BX3 := Lib.hid b3
    obtain ⟨⟨g0, g1, g2, g3, g4⟩, f0, f1, f2⟩ := SK.out _ b3
    clear b3 h0 h1 h2 h3 h4
    go_wp2_with fail
    refine (CH.out _ B3'.out).mono ?_
    rintro e w4 ⟨rfl, b4⟩
    have B4 := Lib.hid (bt B3'.out b4)
    clear g0 g1 g2 g3 g4 f0 f1 f2
    obtain ⟨⟨g0, g1, g2, g3, g4⟩, f0, f1, f2⟩ := SK.out _ (bt BX3.out b4)
    clear b4 SK f0 f1 f2 BX3 B3'
    go_wp2_with fail
    refine (TW.out _ B4.out).mono ?_
    rintro e w5 ⟨aoO, capO, rfl, o5, b5⟩
    have B5 := Lib.hid (bt B4.out b5)
    have BW5 := Lib.hid (bt hbel.out B5.out)
    have BM5 := Lib.hid (bt hbm.out B5.out)
    have LL := Lib.hid (hown.out.keeps B5.out)
    obtain ⟨cs, lo, lh⟩ := LL.out
    rw [← HM.out] at lo
    have LO := Lib.hid lo
    have LH := Lib.hid lh
    have PO : Hid (w5.ownsRow wm.heap.size 49 3 (.slice aoO nu capO) x.pl.length (runs x.pl)) := o5
    have SE : Hid (Sees (w5.alloc (.cells #[.int .u8 (k : Int), .int .u32 (t : Int), .int .u8 (r : Int), .slice aoO nu capO, .int .i64 p] 31)) (.slice (some ⟨w5.heap.size, 0, none⟩) 1 1) 5 1 [.int .u8 (k : Int), .int .u32 (t : Int), .int .u8 (r : Int), .slice aoO nu capO, .int .i64 p]) := sees_new w5 [.int .u8 (k : Int), .int .u32 (t : Int), .int .u8 (r : Int), .slice aoO nu capO, .int .i64 p] 5 1 rfl (by omega) 31 (0, 0)
    have OA : Hid ((w5.alloc (.cells #[.int .u8 (k : Int), .int .u32 (t : Int), .int .u8 (r : Int), .slice aoO nu capO, .int .i64 p] 31)).ownsRow wm.heap.size 31 5 (.slice aoL m capL) m cs) := own_stays LO.out ((Below.refl _ _).alloc (Nat.le_refl _) _)
    have FO2 : Hid (∀ z ∈ ([.int .u8 (k : Int), .int .u32 (t : Int), .int .u8 (r : Int), .slice aoO nu capO, .int .i64 p] : List Value), z.oneCell' = true) := by unfold Hid; rw [HFV.out]; exact five_one x _ ⟨_, _, _, rfl⟩
    have bz : Hid (wm.heap.size ≤ (w5.alloc (.cells #[.int .u8 (k : Int), .int .u32 (t : Int), .int .u8 (r : Int), .slice aoO nu capO, .int .i64 p] 31)).heap.size) := by have := BM5.out.size; unfold Hid; simp; omega
    clear o5 b5 lo lh hown hbel LL g0 g1 g2 g3 g4
    go_wp2_with (at_builtin; refine wpList_append_sees rfl (.tmp 44) (.tmp 47) 33 31 rfl Tryz.underlying33 op_info rfl (by decide) wm.heap.size _ m cs rfl OA.out _ 1 [.int .u8 (k : Int), .int .u32 (t : Int), .int .u8 (r : Int), .slice aoO nu capO, .int .i64 p] rfl SE.out FO2.out ?k1 ?k2 ?k3 ?_)
    case k1 => omega
    case k2 => omega
    case k3 => exact bz.out
    rintro v6 w6 o6 g6 b6
    have L6 : Hid (OwnL w6 wm.heap.size v6 ((l.take (j + 1)).filter (fun o => contB o && Q o))) := by
      have lo2 := LO.out
      have o7 := o6
      rw [HFV.out] at o7
      have po := own_stays PO.out ((Below.refl _ _).alloc (Nat.le_refl _) (.cells #[.int .u8 (k : Int), .int .u32 (t : Int), .int .u8 (r : Int), .slice aoO nu capO, .int .i64 p] 31))
      have gx := g6
      unfold Hid
      rw [FT2.out]
      rw [HM.out] at lo2 gx
      refine OwnL.snoc (W := w5) (W8 := w5.alloc (.cells #[.int .u8 (k : Int), .int .u32 (t : Int), .int .u8 (r : Int), .slice aoO nu capO, .int .i64 p] 31)) (m := m + 1) lo2 LH.out ((Below.refl _ _).alloc (Nat.le_refl _) _) po gx o7 (by rw [HM.out])
    have M6 : Hid (m + 1 = ((l.take (j + 1)).filter (fun o => contB o && Q o)).length) := by unfold Hid; rw [FT2.out, List.length_append, ← HM.out]; rfl
    have B6 : Hid (Below wm.heap.size wm w6) := (BM5.out.alloc BM5.out.size _).trans b6
    obtain ⟨va, vc, rfl⟩ : ∃ ao cap, v6 = .slice ao (m + 1) cap := Sees.shape (Sees.own o6)
    clear o6 g6 b6 OA SE LO LH PO bz
    go_wp2
    go_roundw
    case rel => exact ⟨j + 1, m + 1, by omega, by go_num, by omega, ⟨va, vc, rfl⟩, M6, L6, B6⟩
    case measure => simp [intOf]; omega

/-! ### The calls -/
theorem homed_filter {l : List Opn} {s : Id} (hE : spanE l s = 0) : l.filter (fun o => contB o && homB (fromL l s) (toL l s) o.pl) = inL l (livesM l l) s := by
  unfold inL
  refine List.filter_congr fun o ho => ?_
  rw [homB_is hE (anyB_may (mayO_parts ((spanE_zero.1 hE).1.2.1 o ho)).2.1)]
theorem counts_filter {l : List Opn} {s : Id} (hE : spanE l s = 0) : l.filter (fun o => contB o && (homB (fromL l s) (toL l s) o.pl && isB l (livesM l l) s o)) = countL l (livesM l l) s := by
  unfold countL
  rw [← homed_filter hE, List.filter_filter]
  refine List.filter_congr fun o ho => ?_
  cases contB o <;> cases homB (fromL l s) (toL l s) o.pl <;> cases isB l (livesM l l) s o <;> rfl
set_option maxRecDepth 100000 in
set_option maxHeartbeats 4000000 in
theorem cHomed_any {v : Value} {l : List Opn} (s : Id) {w : World} (hv : OpL w v l) : Calls Tryz.prog 18 #[v, .agg #[.int .u32 (s.t : Int), .int .u8 (s.r : Int)]] w (DoneN (homedL l s) (spanE l s) w) := by
  have B0 : Hid (Below w.heap.size w (w.alloc (.cells #[.int .u32 (s.t : Int), .int .u8 (s.r : Int)] 28))) := (Below.refl _ _).alloc (Nat.le_refl _) _
  have CH : Hid (Calls Tryz.prog 32 #[v, .agg #[.int .u32 (s.t : Int), .int .u8 (s.r : Int)], .func (.func 40) #[] #[]] (w.alloc (.cells #[.int .u32 (s.t : Int), .int .u8 (s.r : Int)] 28)) (DoneN (homedL l s) (spanE l s) (w.alloc (.cells #[.int .u32 (s.t : Int), .int .u8 (s.r : Int)] 28)))) := by
    have h := chosen_any s 40 (enters_of Tryz.func40 (by kernel_rfl) rfl) (fun o => homB (fromL l s) (toL l s) o.pl) (hv.keeps B0.out) (fun hE => fun W va vb u g b n o ho ha hb hu hs hc hg => homes_any ha hb hu ⟨_, _, _, rfl⟩)
    have e : (if spanE l s = 0 then l.filter (fun o => contB o && (fun o => homB (fromL l s) (toL l s) o.pl) o) else []) = homedL l s := by
      unfold homedL
      by_cases hE : spanE l s = 0
      · rw [if_pos hE, if_pos hE]; exact homed_filter hE
      · rw [if_neg hE, if_neg hE]
    rwa [e] at h
  obtain ⟨ao, cap, rfl⟩ := hv.shape
  obtain ⟨n, hn⟩ : ∃ n, n = l.length := ⟨_, rfl⟩
  rw [← hn] at CH ⊢
  obtain ⟨R, hR⟩ : ∃ R, homedL l s = R := ⟨_, rfl⟩
  obtain ⟨c, hc⟩ : ∃ c, spanE l s = c := ⟨_, rfl⟩
  rw [hR, hc] at CH ⊢
  obtain ⟨st, sr, hst, hsr⟩ := s
  simp only at CH B0 ⊢
  clear hv hn hR hc
  go_enter Tryz.func18, Tryz.ntmps18
  go_wp2_with fail
  refine CH.out.mono ?_
  rintro e w1 ⟨va, rfl, o1, b1⟩
  have B1 := Lib.hid (bt B0.out b1)
  have O1 : Hid (OwnL w1 w.heap.size va R) := o1.base B0.out.size
  clear b1 o1 CH B0
  go_wp2
  go_ret2
  exact ⟨_, rfl, O1.out, B1.out⟩
set_option maxRecDepth 100000 in
set_option maxHeartbeats 4000000 in
theorem cCounts_any {v : Value} {l : List Opn} (s : Id) {w : World} (hv : OpL w v l) : Calls Tryz.prog 10 #[v, .agg #[.int .u32 (s.t : Int), .int .u8 (s.r : Int)]] w (DoneN (countsL l s) (spanE l s) w) := by
  have B0 : Hid (Below w.heap.size w (w.alloc (.cells #[.int .u32 (s.t : Int), .int .u8 (s.r : Int)] 28))) := (Below.refl _ _).alloc (Nat.le_refl _) _
  have CH : Hid (Calls Tryz.prog 32 #[v, .agg #[.int .u32 (s.t : Int), .int .u8 (s.r : Int)], .func (.func 33) #[] #[]] (w.alloc (.cells #[.int .u32 (s.t : Int), .int .u8 (s.r : Int)] 28)) (DoneN (countsL l s) (spanE l s) (w.alloc (.cells #[.int .u32 (s.t : Int), .int .u8 (s.r : Int)] 28)))) := by
    have h := chosen_any s 33 (enters_of Tryz.func33 (by kernel_rfl) rfl) (fun o => homB (fromL l s) (toL l s) o.pl && isB l (livesM l l) s o) (hv.keeps B0.out) (fun hE => fun W va vb u g b n o ho ha hb hu hs hc hg => counts_any hE ho ha hb hu hs hc hg)
    have e : (if spanE l s = 0 then l.filter (fun o => contB o && (fun o => homB (fromL l s) (toL l s) o.pl && isB l (livesM l l) s o) o) else []) = countsL l s := by
      unfold countsL
      by_cases hE : spanE l s = 0
      · rw [if_pos hE, if_pos hE]; exact counts_filter hE
      · rw [if_neg hE, if_neg hE]
    rwa [e] at h
  obtain ⟨ao, cap, rfl⟩ := hv.shape
  obtain ⟨n, hn⟩ : ∃ n, n = l.length := ⟨_, rfl⟩
  rw [← hn] at CH ⊢
  obtain ⟨R, hR⟩ : ∃ R, countsL l s = R := ⟨_, rfl⟩
  obtain ⟨c, hc⟩ : ∃ c, spanE l s = c := ⟨_, rfl⟩
  rw [hR, hc] at CH ⊢
  obtain ⟨st, sr, hst, hsr⟩ := s
  simp only at CH B0 ⊢
  clear hv hn hR hc
  go_enter Tryz.func10, Tryz.ntmps10
  go_wp2_with fail
  refine CH.out.mono ?_
  rintro e w1 ⟨va, rfl, o1, b1⟩
  have B1 := Lib.hid (bt B0.out b1)
  have O1 : Hid (OwnL w1 w.heap.size va R) := o1.base B0.out.size
  clear b1 o1 CH B0
  go_wp2
  go_ret2
  exact ⟨_, rfl, O1.out, B1.out⟩
theorem bag_count {l : List Opn} (h : Bag l) (live : List Opn) (s : Id) : Bag (countL l live s) := ⟨Nat.le_trans (countL_sub l live s).length_le h.1, fun o ho => h.2.1 o ((countL_sub l live s).subset ho), h.2.2.sublist (countL_sub l live s)⟩
set_option maxRecDepth 100000 in
set_option maxHeartbeats 4000000 in
theorem cVersion_any {v : Value} {l : List Opn} (s : Id) {w : World} (hv : OpL w v l) : Calls Tryz.prog 7 #[v, .agg #[.int .u32 (s.t : Int), .int .u8 (s.r : Int)]] w (Bags.DoneC (versionL l s) (spanE l s) w) := by
  have B0 : Hid (Below w.heap.size w (w.alloc (.cells #[.int .u32 (s.t : Int), .int .u8 (s.r : Int)] 28))) := (Below.refl _ _).alloc (Nat.le_refl _) _
  have CH : Hid (Calls Tryz.prog 10 #[v, .agg #[.int .u32 (s.t : Int), .int .u8 (s.r : Int)]] (w.alloc (.cells #[.int .u32 (s.t : Int), .int .u8 (s.r : Int)] 28)) (DoneN (countsL l s) (spanE l s) (w.alloc (.cells #[.int .u32 (s.t : Int), .int .u8 (s.r : Int)] 28)))) := cCounts_any s (hv.keeps B0.out)
  have ID : Hid (spanE l s = 0 → ∀ (W : World) (y : Value), OpL W y (countsL l s) → Calls Tryz.prog 31 #[y] W (Bags.DoneC (versionL l s) 0 W)) := fun hE W y h => by
    have e1 : countsL l s = countL l (livesM l l) s := by unfold countsL; rw [if_pos hE]
    have hb := bag_count (spanE_zero.1 hE).1 (livesM l l) s
    have e2 : idsC (countsL l s) = versionL l s := by unfold idsC versionL; rw [e1, (bagB_iff _).2 hb, if_pos hE]; rfl
    have := bIds_any h
    rw [e2, e1, chkL_yes hb] at this
    exact this
  have VN : Hid (¬ spanE l s = 0 → versionL l s = []) := fun h => by unfold versionL; rw [if_neg h]
  obtain ⟨ao, cap, rfl⟩ := hv.shape
  obtain ⟨n, hn⟩ : ∃ n, n = l.length := ⟨_, rfl⟩
  rw [← hn] at CH ⊢
  obtain ⟨R, hR⟩ : ∃ R, countsL l s = R := ⟨_, rfl⟩
  obtain ⟨c, hc⟩ : ∃ c, spanE l s = c := ⟨_, rfl⟩
  obtain ⟨V, hV⟩ : ∃ V, versionL l s = V := ⟨_, rfl⟩
  rw [hR, hc] at CH
  rw [hR, hc, hV] at ID
  rw [hc, hV] at VN ⊢
  obtain ⟨st, sr, hst, hsr⟩ := s
  simp only at CH B0 ⊢
  clear hv hn hR hc hV
  by_cases hE : c = 0
  · subst hE
    have ID2 := Lib.hid (ID.out rfl)
    clear ID VN
    go_enter Tryz.func7, Tryz.ntmps7
    go_wp2_with fail
    refine CH.out.mono ?_
    rintro e w1 ⟨va, rfl, o1, b1⟩
    have B1 := Lib.hid (bt B0.out b1)
    have O1 := Lib.hid o1.opl
    clear b1 o1 CH B0
    go_wp2_with fail
    refine (ID2.out _ _ O1.out).mono ?_
    rintro e w2 ⟨vb, rfl, o2, b2⟩
    have B2 := Lib.hid (bt B1.out b2)
    have O2 : Hid (OwnC w2 w.heap.size vb V) := Clocks.OwnC.base o2 B1.out.size
    clear b2 o2 ID2 O1 B1
    go_wp2
    go_ret2
    exact ⟨_, rfl, O2.out, B2.out⟩
  · obtain rfl := VN.out hE
    have q1 : (c != 0) = true := by simpa using hE
    have q2 : decide (c = 0) = false := decide_eq_false hE
    clear ID VN
    go_enter Tryz.func7, Tryz.ntmps7
    go_wp2_with fail
    refine CH.out.mono ?_
    rintro e w1 ⟨va, rfl, o1, b1⟩
    have B1 := Lib.hid (bt B0.out b1)
    clear b1 o1 CH B0
    go_wp2
    go_ret2
    exact ⟨_, rfl, Clocks.OwnC.nil _ _, B1.out⟩
end Go.Proofs.YtdackenaknieaaaGreat.Covers

/- octavo/bag.Same: what it answers. Conditions: the slices' cells are operations. -/
namespace Go.Proofs.YtdackenaknieaaaGreat.Bags
open Go.RowKit Go.WideShapes Stamp Go.Proofs.YtdackenaknieaaaGreat.Place Ops Codes
attribute [local go_sem ↓] Go.wp_at_zero Go.wp_at_succ

end Go.Proofs.YtdackenaknieaaaGreat.Bags

/- 'copy' between slices whose elements have several cells, the target a row known whole; 'append' of a make onto a part without room. Conditions: none. -/
namespace Go.Proofs.YtdackenaknieaaaGreat
open Go.RowKit Go.WideShapes

theorem run_copy_sz {P : Program} (w : World) (dT sT ty elem : TypeId) (g o dLen dCap n sz : Nat) (a : Addr) (sLen sCap : Nat) (cur : Array Value) (t : TypeId) (cs : List Value)
    (hu : P.underlying dT = some (.slice elem)) (hs : (P.info? elem).map (·.size) = some sz)
    (hg : w.heap[g]? = some (.cells cur t (0, 0))) (hn : Nat.min sLen dLen = n) (hl : cs.length = n * sz)
    (hsrc : ∀ j v, cs[j]? = some v → w.cell? (a.add j) = some v) (hfit : o + cs.length ≤ cur.size) (h1 : ∀ v ∈ cs, v.oneCell' = true) :
    (Builtin.copy_ #[dT, sT] ty #[.slice (some ⟨g, o, none⟩) dLen dCap, .slice (some a) sLen sCap]).run P w =
      .ok (goInt n) (w.setRow g (cur.toList.take o ++ cs ++ cur.toList.drop (o + cs.length)).toArray) := by
  have hld := run_loadCells_list (P := P) w a cs hsrc
  have hst := run_storeCells_at P g o t cs 0 cur w hg (by simpa using hfit) h1
  cases hq : P.info? elem with
  | none => simp [hq] at hs
  | some i =>
    have hi : i.size = sz := by simpa [hq] using hs
    simp [Builtin.copy_, run_underlying hu, Builtin.lenOf, Builtin.firstCells, sizeOf, typeInfo, hq, hi, hn, ← hl, hld, hst]
theorem run_copy_sz_none {P : Program} (w : World) (dT sT ty elem : TypeId) (d a : Option Addr) (dLen dCap sLen sCap sz : Nat) (hu : P.underlying dT = some (.slice elem)) (hs : (P.info? elem).map (·.size) = some sz) (hn : Nat.min sLen dLen = 0) :
    (Builtin.copy_ #[dT, sT] ty #[.slice d dLen dCap, .slice a sLen sCap]).run P w = .ok (goInt 0) w := by
  cases hq : P.info? elem with
  | none => simp [hq] at hs
  | some i =>
    have hl : ∀ (x : Addr), (loadCells x 0).run P w = .ok #[] w := fun x => by simpa using run_loadCells_list (P := P) w x [] (by simp)
    cases d <;> cases a <;> simp [Builtin.copy_, run_underlying hu, Builtin.lenOf, Builtin.firstCells, sizeOf, typeInfo, hq, hn, storeCells, hl]

/-- What a copy of n elements does: the row behind it, all else as it was. -/
def Copied (w : World) (g : Nat) (cur : List Value) (off : Nat) (cs : List Value) (t : TypeId) (w' : World) : Prop :=
  w'.heap[g]? = some (.cells (splice cur off cs).toArray t (0, 0)) ∧ (∀ k, k ≠ g → w'.heap[k]? = w.heap[k]?) ∧ w'.heap.size = w.heap.size ∧ ∀ B, B ≤ g → Below B w w'
theorem copied_none {w : World} {g : Nat} {cur : List Value} {off : Nat} {t : TypeId} (hg : w.heap[g]? = some (.cells cur.toArray t (0, 0))) : Copied w g cur off [] t w :=
  ⟨by simpa [splice] using hg, fun _ _ => rfl, rfl, fun _ _ => Below.refl _ _⟩
theorem copied_row {w : World} {g : Nat} {cur : List Value} {off : Nat} {cs : List Value} {t : TypeId} (hg : w.heap[g]? = some (.cells cur.toArray t (0, 0))) :
    Copied w g cur off cs t (w.setRow g (cur.toArray.toList.take off ++ cs ++ cur.toArray.toList.drop (off + cs.length)).toArray) :=
  ⟨by simpa [splice] using setRow_heap w g _ _ t _ hg, fun k hk => setRow_other w g k _ (fun h => hk h), by simp [World.setRow], fun _ hB => below_setRow (Below.refl _ _) hB _⟩

theorem run_copy_any {P : Program} (w : World) (dT sT ty elem : TypeId) (hu : P.underlying dT = some (.slice elem)) {sz : Nat} (hsz : (P.info? elem).map (·.size) = some sz) (dp sp : Option Addr) (dLen dCap sLen sCap n : Nat)
    (g off : Nat) (cur : List Value) (t : TypeId) (hg : w.heap[g]? = some (.cells cur.toArray t (0, 0))) (hn : Nat.min sLen dLen = n) (cs : List Value) (hl : cs.length = n * sz)
    (hpos : 0 < n → dp = some ⟨g, off, none⟩ ∧ ∃ ad, sp = some ad ∧ ∀ j v, cs[j]? = some v → w.cell? (ad.add j) = some v)
    (hfit : off + cs.length ≤ cur.length) (h1 : ∀ v ∈ cs, v.oneCell' = true) :
    ∃ w', (Builtin.copy_ #[dT, sT] ty #[.slice dp dLen dCap, .slice sp sLen sCap]).run P w = .ok (goInt n) w' ∧ Copied w g cur off cs t w' := by
  by_cases h0 : n = 0
  · subst h0
    obtain rfl : cs = [] := List.eq_nil_of_length_eq_zero (by omega)
    exact ⟨w, run_copy_sz_none w dT sT ty elem dp sp dLen dCap sLen sCap sz hu hsz hn, copied_none hg⟩
  · obtain ⟨rfl, ad, rfl, hsrc⟩ := hpos (by omega)
    exact ⟨_, run_copy_sz w dT sT ty elem g off dLen dCap n sz ad sLen sCap cur.toArray t cs hu hsz hg hn hl hsrc (by simpa using hfit) h1, copied_row hg⟩
theorem wpList_copy_any {P : Program} {w : World} {ops : Array Oper} {rest : List Oper} {o : Oper} {a : Act} {Q : Exit → Act → World → Prop} (hgd : o.guard = none) (d s : Operand) (dT sT : TypeId)
    (ho : o.op = .call { callee := .builtin .copy, args := #[d, s], argTypes := #[dT, sT] }) (elem : TypeId) (hu : P.underlying dT = some (.slice elem)) {sz : Nat} (hsz : (P.info? elem).map (·.size) = some sz)
    (dp sp : Option Addr) (dLen dCap sLen sCap n : Nat) (hd : a.eval d = .slice dp dLen dCap) (hs : a.eval s = .slice sp sLen sCap)
    (g off : Nat) (cur : List Value) (t : TypeId) (hg : w.heap[g]? = some (.cells cur.toArray t (0, 0))) (hn : Nat.min sLen dLen = n) (cs : List Value) (hl : cs.length = n * sz)
    (hpos : 0 < n → dp = some ⟨g, off, none⟩ ∧ ∃ ad, sp = some ad ∧ ∀ j v, cs[j]? = some v → w.cell? (ad.add j) = some v)
    (hfit : off + cs.length ≤ cur.length) (h1 : ∀ v ∈ cs, v.oneCell' = true)
    (h : ∀ w', Hid (Copied w g cur off cs t w') → wpList P ops Q rest (a.put o.dst (goInt n)) w') : wpList P ops Q (o :: rest) a w := by
  refine wpList_plain hgd fun K hK => ?_
  obtain ⟨w', hrun, hc⟩ := run_copy_any (P := P) w dT sT o.type elem hu hsz dp sp dLen dCap sLen sCap n g off cur t hg hn cs hl hpos hfit h1
  unfold Oper.wp
  simp [execOp, ho, resolve, invoke, builtin, hd, hs, hrun, Result.andThen]
  exact hK _ _ (h w' hc)
theorem step_copy_any {P : Program} {ops : Array Oper} {o : Oper} {a : Act} {w : World} {K : Act → World → Prop} {Q : Exit → Act → World → Prop} {E : Prop} (hgd : o.guard = none) (d s : Operand) (dT sT : TypeId)
    (ho : o.op = .call { callee := .builtin .copy, args := #[d, s], argTypes := #[dT, sT] }) (elem : TypeId) (hu : P.underlying dT = some (.slice elem)) {sz : Nat} (hsz : (P.info? elem).map (·.size) = some sz)
    (dp sp : Option Addr) (dLen dCap sLen sCap n : Nat) (hd : a.eval d = .slice dp dLen dCap) (hs : a.eval s = .slice sp sLen sCap)
    (g off : Nat) (cur : List Value) (t : TypeId) (hg : w.heap[g]? = some (.cells cur.toArray t (0, 0))) (hn : Nat.min sLen dLen = n) (cs : List Value) (hl : cs.length = n * sz)
    (hpos : 0 < n → dp = some ⟨g, off, none⟩ ∧ ∃ ad, sp = some ad ∧ ∀ j v, cs[j]? = some v → w.cell? (ad.add j) = some v)
    (hfit : off + cs.length ≤ cur.length) (h1 : ∀ v ∈ cs, v.oneCell' = true)
    (h : ∀ w', Hid (Copied w g cur off cs t w') → K (a.put o.dst (goInt n)) w') :
    if Region.wanted o (yielded ops a.tmps) = true then Oper.wp P o a w K Q else E := by
  have hw : Region.wanted o (yielded ops a.tmps) = true := by simp [Region.wanted, hgd]
  rw [if_pos hw]
  obtain ⟨w', hrun, hc⟩ := run_copy_any (P := P) w dT sT o.type elem hu hsz dp sp dLen dCap sLen sCap n g off cur t hg hn cs hl hpos hfit h1
  unfold Oper.wp
  simp [execOp, ho, resolve, invoke, builtin, hd, hs, hrun, Result.andThen]
  exact h w' hc
end Go.Proofs.YtdackenaknieaaaGreat

/- Five cells stored in a row that is known whole; rows of another kind stay; lists of operations in such a row. Conditions: none. -/
namespace Go.Proofs.YtdackenaknieaaaGreat.Codes
open Go.RowKit Go.WideShapes Go.Proofs.YtdackenaknieaaaGreat.Place Ops

theorem splice_nil {α : Type} (L : List α) (o : Nat) : splice L o [] = L := by simp [splice]
theorem splice_cons {α : Type} (L : List α) (o : Nat) (v : α) (vs : List α) (h : o + (vs.length + 1) ≤ L.length) : splice L o (v :: vs) = splice (L.set o v) (o + 1) vs := by
  unfold splice
  have h1 : (L.set o v).take (o + 1) = L.take o ++ [v] := by
    rw [List.take_succ_eq_append_getElem (by simp; omega), List.take_set_of_le (Nat.le_refl _), List.getElem_set_self]
  have h2 : (L.set o v).drop (o + 1 + vs.length) = L.drop (o + (v :: vs).length) := by
    rw [List.drop_set_of_lt (by omega)]
    congr 1
    simp; omega
  rw [h1, h2]
  simp
theorem put_step {X : World} {g o : Nat} {cur : List Value} {t : TypeId} (d : Value) (h : X.heap[g]? = some (.cells cur.toArray t (0, 0))) :
    (X.setCell ⟨g, o, none⟩ d).heap[g]? = some (.cells (cur.set o d).toArray t (0, 0)) := by
  have := heap_setCell_same X g o _ _ d h
  simpa using this
theorem put5_copied {X : World} {g o : Nat} {cur : List Value} {t : TypeId} (d0 d1 d2 d3 d4 : Value) (h : X.heap[g]? = some (.cells cur.toArray t (0, 0))) (hl : o + 5 ≤ cur.length) :
    Copied X g cur o [d0, d1, d2, d3, d4] t (((((X.setCell ⟨g, o, none⟩ d0).setCell ⟨g, o + 1, none⟩ d1).setCell ⟨g, o + 2, none⟩ d2).setCell ⟨g, o + 3, none⟩ d3).setCell ⟨g, o + 4, none⟩ d4) := by
  refine ⟨?_, ?_, ?_, ?_⟩
  · have h5 := put_step d4 (o := o + 4) (put_step d3 (o := o + 3) (put_step d2 (o := o + 2) (put_step d1 (o := o + 1) (put_step d0 (o := o) h))))
    rw [h5, splice_cons _ _ _ _ (by simpa using hl), splice_cons _ _ _ _ (by simp; omega), splice_cons _ _ _ _ (by simp; omega), splice_cons _ _ _ _ (by simp; omega), splice_cons _ _ _ _ (by simp; omega), splice_nil]
  · intro k hk
    rw [heap_setCell_other _ _ _ _ hk, heap_setCell_other _ _ _ _ hk, heap_setCell_other _ _ _ _ hk, heap_setCell_other _ _ _ _ hk, heap_setCell_other _ _ _ _ hk]
  · simp
  · intro B hB
    exact (((((Below.refl B X).setCell (p := ⟨g, o, none⟩) hB _).setCell (p := ⟨g, o + 1, none⟩) hB _).setCell (p := ⟨g, o + 2, none⟩) hB _).setCell (p := ⟨g, o + 3, none⟩) hB _).setCell (p := ⟨g, o + 4, none⟩) hB _
/-- A row of another kind stays. -/
theorem own_copied {w w' : World} {base g sz n : Nat} {e t : TypeId} {v : Value} {cs cur cs' : List Value} {o : Nat} (h : w.ownsRow base e sz v n cs) (hg : w.heap[g]? = some (.cells cur.toArray t (0, 0))) (hne : t ≠ e) (hc : Copied w g cur o cs' t w') : w'.ownsRow base e sz v n cs := by
  refine ⟨h.1, h.2.imp id ?_⟩
  rintro ⟨b, cap, c2, e1, e2, e3, e4⟩
  refine ⟨b, cap, c2, e1, e2, ?_, e4⟩
  rw [hc.2.1 b (fun e => by
    subst e
    rw [hg] at e3
    injection e3 with e3
    injection e3 with e5 e6
    exact hne e6)]
  exact e3
theorem HoldP.copied {w w' : World} {base g : Nat} {cur cs' : List Value} {o : Nat} (hg : w.heap[g]? = some (.cells cur.toArray 31 (0, 0))) (hc : Copied w g cur o cs' 31 w') : ∀ {cs : List Value} {l : List Opn}, HoldP w base cs l → HoldP w' base cs l
  | _, [], h => h
  | _, _ :: _, ⟨v, d, h1, h2, h3⟩ => ⟨v, d, h1, own_copied h2 hg (by decide) hc, HoldP.copied hg hc h3⟩
theorem HoldP.len {w : World} {base : Nat} {cs : List Value} {l : List Opn} (h : HoldP w base cs l) : cs.length = l.length * 5 := Enc.rows_len (E := opE) h.rows
/-- A list in a row that is known whole. -/
theorem ownl_row {w : World} {base g cap : Nat} {cs d : List Value} {l : List Opn} {n : Nat} (hg : w.heap[g]? = some (.cells (cs ++ d).toArray 31 (0, 0))) (hb : base ≤ g) (h : HoldP w base cs l) (hn : n = l.length) (hc : (cs ++ d).length = cap * 5) (hm : cap ≤ maxLen) : OwnL w base (.slice (some ⟨g, 0, none⟩) n cap) l := by
  have hl := h.len
  subst hn
  refine ⟨cs, ⟨hl, .inr ⟨g, cap, _, rfl, hb, hg, ?_, hm, by simpa using hc, ?_⟩⟩, h⟩
  · rw [List.length_append, hl] at hc; omega
  · rw [← hl]; simp

/-! ### A list copied, its places made anew one by one -/
def TwR (w wr : World) (l : List Opn) (c0 : List Value) (j : Nat) : Prop :=
  ∃ A, HoldP wr w.heap.size A (l.take j) ∧ wr.heap[w.heap.size]? = some (.cells (A ++ c0.drop (j * 5)).toArray 31 (0, 0))
theorem twr_len {w wr : World} {l : List Opn} {j : Nat} {A : List Value} (h : HoldP wr w.heap.size A (l.take j)) (hj : j ≤ l.length) : A.length = j * 5 := by
  rw [h.len, List.length_take, Nat.min_eq_left hj]
theorem twr_at {w wr : World} {l : List Opn} {c0 : List Value} {j : Nat} (hc : opE.rows w c0 l) (h : TwR w wr l c0 j) (hj : j < l.length) :
    ∃ v, Runs w v (l[j]'hj).pl ∧ wr.cell? ⟨w.heap.size, j * 5, none⟩ = some (.int .u8 ((l[j]'hj).k : Int)) ∧ wr.cell? ⟨w.heap.size, j * 5 + 1, none⟩ = some (.int .u32 ((l[j]'hj).t : Int)) ∧ wr.cell? ⟨w.heap.size, j * 5 + 2, none⟩ = some (.int .u8 ((l[j]'hj).r : Int)) ∧
      wr.cell? ⟨w.heap.size, j * 5 + 3, none⟩ = some v ∧ wr.cell? ⟨w.heap.size, j * 5 + 4, none⟩ = some (.int .i64 (l[j]'hj).p) := by
  obtain ⟨A, h1, h2⟩ := h
  have hl := twr_len h1 (Nat.le_of_lt hj)
  obtain ⟨c, ⟨v, rfl, hr⟩, hcs⟩ := Enc.rows_at j hj hc
  have hcell : ∀ i u, i < 5 → ([Value.int .u8 ((l[j]'hj).k : Int), .int .u32 ((l[j]'hj).t : Int), .int .u8 ((l[j]'hj).r : Int), v, .int .i64 (l[j]'hj).p][i]? = some u) → wr.cell? ⟨w.heap.size, j * 5 + i, none⟩ = some u := fun i u hi hu => by
    rw [cell_of_row wr w.heap.size (j * 5 + i) _ _ _ h2]
    have h3 := hcs i hi
    rw [show opE.sz = 5 from rfl, hu] at h3
    rw [List.getElem?_toArray, List.getElem?_append_right (by omega), hl, List.getElem?_drop, show j * 5 + (j * 5 + i - j * 5) = j * 5 + i by omega]
    exact h3
  exact ⟨v, hr, hcell 0 _ (by decide) rfl, hcell 1 _ (by decide) rfl, hcell 2 _ (by decide) rfl, hcell 3 _ (by decide) rfl, hcell 4 _ (by decide) rfl⟩
theorem twr_step {w wr W8 X : World} {l : List Opn} {c0 : List Value} {j : Nat} {x : Opn} {u : Value} (hc : opE.rows w c0 l) (h : TwR w wr l c0 j) (hj : j < l.length) (hx : x = l[j]'hj) (hb : Below wr.heap.size wr W8)
    (ho : W8.ownsRow w.heap.size 49 3 u x.pl.length (runs x.pl))
    (hX : X = (((((W8.setCell ⟨w.heap.size, j * 5, none⟩ (.int .u8 (x.k : Int))).setCell ⟨w.heap.size, j * 5 + 1, none⟩ (.int .u32 (x.t : Int))).setCell ⟨w.heap.size, j * 5 + 2, none⟩ (.int .u8 (x.r : Int))).setCell ⟨w.heap.size, j * 5 + 3, none⟩ u).setCell ⟨w.heap.size, j * 5 + 4, none⟩ (.int .i64 x.p))) :
    TwR w X l c0 (j + 1) ∧ ∀ B, B ≤ w.heap.size → Below B W8 X := by
  obtain ⟨A, h1, h2⟩ := h
  have hl := twr_len h1 (Nat.le_of_lt hj)
  have h3 := blk_below hb h2
  have hcl : c0.length = l.length * 5 := Enc.rows_len hc
  have hc8 := put5_copied (o := j * 5) (.int .u8 (x.k : Int)) (.int .u32 (x.t : Int)) (.int .u8 (x.r : Int)) u (.int .i64 x.p) h3 (by rw [List.length_append, List.length_drop, hcl, hl]; omega)
  rw [← hX] at hc8
  refine ⟨⟨A ++ [.int .u8 (x.k : Int), .int .u32 (x.t : Int), .int .u8 (x.r : Int), u, .int .i64 x.p], ?_, ?_⟩, hc8.2.2.2⟩
  · rw [List.take_succ_eq_append_getElem hj, ← hx]
    exact HoldP.append (HoldP.copied h3 hc8 (h1.keeps hb)) ⟨u, [], rfl, own_copied ho h3 (by decide) hc8, rfl⟩
  · rw [hc8.1]
    congr 3
    unfold splice
    rw [List.take_append_of_le_length (by omega), List.take_of_length_le (by omega), List.append_assoc]
    congr 2
    rw [List.drop_append, List.drop_eq_nil_of_le (by simp; omega), List.nil_append, List.drop_drop]
    congr 1
    simp; omega
end Go.Proofs.YtdackenaknieaaaGreat.Codes

/- octavo/bag.Twin: what it answers. Conditions: the slice's cells are operations, not more than memory holds. -/
namespace Go.Proofs.YtdackenaknieaaaGreat.Bags
open Go.RowKit Go.WideShapes Stamp Go.Proofs.YtdackenaknieaaaGreat.Place Ops Codes
attribute [local go_sem ↓] Go.wp_at_zero Go.wp_at_succ

theorem made_opsN (n : Nat) (hn : n ≤ 1000000000) : ∃ Z : List Value, Z.length = n * 5 ∧ ∀ w : World, (Instr.makeSlice 33 (.int .i64 (n : Int)) (.int .i64 (n : Int))).run Tryz.prog w = .ok (.slice (some ⟨w.heap.size, 0, none⟩) n n) (w.alloc (.cells Z.toArray 31)) := by
  obtain ⟨i, hi, hz0, hz1, hz2⟩ := info_parts op_info
  refine ⟨(madeCells (Value.agg #[.int .u8 0, .int .u32 0, .int .u8 0, .slice none 0 0, .int .i64 0]).cells (n * 5)).toList, by simp [size_madeCells], fun w => ?_⟩
  have h := run_make (P := Tryz.prog) w 33 31 i _ Tryz.underlying33 hi hz0 .i64 .i64 (n : Int) (n : Int) (by omega) (by omega) (by rw [hz2]; omega) (by omega)
  rw [hz1] at h
  simpa using h

set_option maxRecDepth 100000 in
set_option maxHeartbeats 8000000 in
theorem bTwinX_any {v : Value} {l : List Opn} {w : World} (hv : OpL w v l) (hl : l.length ≤ 1000000000) (hp : ∀ o ∈ l, o.pl.length ≤ 8796093022208) :
    Calls Tryz.prog 59 #[v] w fun e w' => e = .returned (.slice (some ⟨w.heap.size, 0, none⟩) l.length l.length) ∧ OwnL w' w.heap.size (.slice (some ⟨w.heap.size, 0, none⟩) l.length l.length) l ∧ Below w.heap.size w w' := by
  obtain ⟨ao, cap, rfl⟩ := hv.shape
  obtain ⟨c0, hs0, hr0⟩ := hv
  obtain ⟨n, hn⟩ : ∃ n, n = l.length := ⟨_, rfl⟩
  have HN := Lib.hid hn
  have HP := Lib.hid hp
  have HR := Lib.hid hr0
  have hcl : c0.length = n * 5 := by rw [hn]; exact Enc.rows_len hr0
  obtain ⟨Z, hZ, MK⟩ := made_opsN n (by omega)
  have HC : Hid (∀ W : World, Below w.heap.size w W → 0 < n → ∃ ad, ao = some ad ∧ ∀ j v, c0[j]? = some v → W.cell? (ad.add j) = some v) := fun W hW h0 => by
    rcases (hs0.keeps hW).2 with ⟨ao', cap', he, _, _, _, h5⟩
    obtain ⟨rfl, -, rfl⟩ := Value.slice.inj he
    rcases h5 with h5 | ⟨b, off, rfl, hb, hc⟩
    · rw [h5] at hcl; simp at hcl; omega
    · exact ⟨_, rfl, fun j v hj => by rw [add_plain]; exact hc j v hj⟩
  have HON : Hid (∀ v ∈ c0, v.oneCell' = true) := Enc.rows_one hr0
  have HCL := Lib.hid hcl
  have HZ := Lib.hid hZ
  rw [← hn]
  rw [← hn] at hl
  have B0 : Hid (Below w.heap.size w (w.alloc (.cells Z.toArray 31))) := (Below.refl _ _).alloc (Nat.le_refl _) _
  have G0 : Hid ((w.alloc (.cells Z.toArray 31)).heap[w.heap.size]? = some (.cells Z.toArray 31)) := blk_new rfl
  clear hn hp hr0 hs0 hcl hZ
  go_enter Tryz.func59, Tryz.ntmps59
  go_wp2_with (refine wpList_copy_any rfl (.tmp 9) (.tmp 10) 33 33 rfl 31 Tryz.underlying33 (sz := 5) (by kernel_rfl) (some ⟨w.heap.size, 0, none⟩) ao n n n cap n rfl rfl w.heap.size 0 Z 31 G0.out (Nat.min_self n) c0 HCL.out (fun h0 => ⟨rfl, HC.out _ B0.out h0⟩) (by rw [HCL.out, HZ.out]; omega) HON.out ?_)
  rintro w2 hc2
  have T0 : Hid (TwR w w2 l c0 0) := ⟨[], rfl, by
    rw [hc2.out.1]
    congr 3
    simp [splice, HCL.out, ← HZ.out]⟩
  have B2 : Hid (Below w.heap.size w w2) := B0.out.trans (hc2.out.2.2.2 _ (Nat.le_refl _))
  clear hc2 B0 G0 MK
  go_wp2
  go_loopw [14] (fun i wr => ∃ j : Nat, j ≤ n ∧ i = .int .i64 (j : Int) ∧ Hid (TwR w wr l c0 j) ∧ Hid (Below w.heap.size w wr)) (fun i _ => n - (intOf i).toNat)
  case atStart => exact ⟨0, by omega, rfl, T0, B2⟩
  case round =>
    clear T0 B2
    obtain ⟨j, hj, rfl, htw, hbel⟩ := hrel
    by_cases hjn : j < n
    rotate_left
    · have q3 : decide (j < n) = false := by simpa using hjn
      have R1 : Hid (OwnL wr w.heap.size (.slice (some ⟨w.heap.size, 0, none⟩) n n) l) := by
        obtain ⟨A, h1, h2⟩ := htw.out
        obtain rfl : j = n := by omega
        rw [List.take_of_length_le (by rw [← HN.out]; omega)] at h1
        exact ownl_row h2 (Nat.le_refl _) h1 HN.out (by rw [List.length_append, List.length_drop, HCL.out, h1.len, ← HN.out]; omega) (by unfold maxLen; omega)
      clear htw
      go_wp2
      go_ret
      exact ⟨rfl, R1.out, hbel.out⟩
    have q3 : decide (j < n) = true := by simpa using hjn
    have q4 : (0 : Int) ≤ (j : Int) := by omega
    have q5 : (j : Int) < (n : Int) := by omega
    have hjl : j < l.length := by rw [← HN.out]; exact hjn
    obtain ⟨u, hru, h0, h1, h2, h3, h4⟩ := twr_at HR.out htw.out hjl
    obtain ⟨x, hx⟩ : ∃ x, x = l[j]'hjl := ⟨_, rfl⟩
    have hpx : x.pl.length ≤ 8796093022208 := HP.out x (by rw [hx]; exact List.getElem_mem hjl)
    rw [← hx] at hru h0 h1 h2 h4
    obtain ⟨uo, uc, rfl⟩ := hru.shape
    obtain ⟨nu, hnu⟩ : ∃ n, n = x.pl.length := ⟨_, rfl⟩
    rw [← hnu] at hru h3
    have ST : Hid (∀ (W8 X : World) (u : Value), Below wr.heap.size wr W8 → W8.ownsRow w.heap.size 49 3 u x.pl.length (runs x.pl) → X = (((((W8.setCell ⟨w.heap.size, j * 5, none⟩ (.int .u8 (x.k : Int))).setCell ⟨w.heap.size, j * 5 + 1, none⟩ (.int .u32 (x.t : Int))).setCell ⟨w.heap.size, j * 5 + 2, none⟩ (.int .u8 (x.r : Int))).setCell ⟨w.heap.size, j * 5 + 3, none⟩ u).setCell ⟨w.heap.size, j * 5 + 4, none⟩ (.int .i64 x.p)) →
        TwR w X l c0 (j + 1) ∧ ∀ B, B ≤ w.heap.size → Below B W8 X) := fun W8 X u hb ho hX => twr_step HR.out htw.out hjl hx hb ho hX
    have HSZ : Hid (w.heap.size ≤ wr.heap.size) := hbel.out.size
    have HGB : Hid (w.heap.size < wr.heap.size) := by
      obtain ⟨A, _, g2⟩ := htw.out
      exact (Array.getElem?_eq_some_iff.1 g2).1
    have HFR : Hid (∀ (W : World) (o : Nat), Below wr.heap.size wr W → W.frozen? ⟨w.heap.size, o, none⟩ = false) := fun W o hW => by
      obtain ⟨A, _, g2⟩ := htw.out
      exact free5 (blk_below hW g2) o
    have TW : Hid (∀ W : World, Below wr.heap.size wr W → Calls Tryz.prog 57 #[opv x (.slice uo nu uc)] W fun e w' => ∃ ao cap, e = .returned (opv x (.slice ao nu cap)) ∧ w'.ownsRow w.heap.size 49 3 (.slice ao nu cap) x.pl.length (runs x.pl) ∧ Below W.heap.size W w') := fun W hW => by
      refine (oTwin_any ((hru.keeps hbel.out).keeps hW) hpx).mono ?_
      rintro e w' ⟨v', rfl, ho, hb⟩
      obtain ⟨ao', cap', rfl⟩ : ∃ ao cap, v' = .slice ao x.pl.length cap := Sees.shape (Sees.own ho)
      rw [← hnu] at ho ⊢
      exact ⟨ao', cap', rfl, op_base ho (Nat.le_trans HSZ.out hW.size), hb⟩
    have HO : Hid (∀ v : Value, opv x v = .agg #[.int .u8 (x.k : Int), .int .u32 (x.t : Int), .int .u8 (x.r : Int), v, .int .i64 x.p]) := fun v => rfl
    obtain ⟨k, hk⟩ : ∃ k, x.k = k := ⟨_, rfl⟩
    obtain ⟨t, ht⟩ : ∃ k, x.t = k := ⟨_, rfl⟩
    obtain ⟨r, hr⟩ : ∃ k, x.r = k := ⟨_, rfl⟩
    obtain ⟨p, hp⟩ : ∃ k, x.p = k := ⟨_, rfl⟩
    rw [hk, ht, hr, hp] at HO ST
    rw [hk] at h0
    rw [ht] at h1
    rw [hr] at h2
    rw [hp] at h4
    simp only [HO.out] at TW
    have BL : Hid (Below wr.heap.size wr (wr.alloc (.cells #[.int .u8 (k : Int), .int .u32 (t : Int), .int .u8 (r : Int), .slice uo nu uc, .int .i64 p] 31))) := (Below.refl _ _).alloc (Nat.le_refl _) _
    have F0 : Hid (FiveAt wr w.heap.size (j * 5) (.int .u8 (k : Int)) (.int .u32 (t : Int)) (.int .u8 (r : Int)) (.slice uo nu uc) (.int .i64 p)) := ⟨HGB.out, h0, h1, h2, h3, h4⟩
    clear hru hx hk ht hr hp hnu htw hpx
    go_wp2_with fail
    refine (TW.out _ BL.out).mono ?_
    rintro e w5 ⟨a5, c5, rfl, o5, b5⟩
    have B5 := Lib.hid (bt BL.out b5)
    have O5 := Lib.hid o5
    have hf := fun o => HFR.out w5 o B5.out
    obtain ⟨_, g0, g1, g2, g3, g4⟩ := F0.out.keeps B5.out
    clear o5 b5 h0 h1 h2 h3 h4
    go_wp2
    obtain ⟨X, hX⟩ : ∃ X, X = (((((w5.setCell ⟨w.heap.size, j * 5, none⟩ (.int .u8 (k : Int))).setCell ⟨w.heap.size, j * 5 + 1, none⟩ (.int .u32 (t : Int))).setCell ⟨w.heap.size, j * 5 + 2, none⟩ (.int .u8 (r : Int))).setCell ⟨w.heap.size, j * 5 + 3, none⟩ (.slice a5 nu c5)).setCell ⟨w.heap.size, j * 5 + 4, none⟩ (.int .i64 p)) := ⟨_, rfl⟩
    have SX := ST.out w5 X _ B5.out O5.out hX
    rw [← hX]
    have TX := Lib.hid SX.1
    have BX := Lib.hid ((bt hbel.out B5.out).trans (SX.2 _ (Nat.le_refl _)))
    clear SX hX
    go_roundw
    case rel => exact ⟨j + 1, by omega, by go_num, TX, BX⟩
    case measure => simp [intOf]; omega
end Go.Proofs.YtdackenaknieaaaGreat.Bags

/- What the landed bag's walks come to: two bags gone through side by side, where a stamp stands or would. Conditions: none. -/
namespace Go.Proofs.YtdackenaknieaaaGreat.Bags
open Ops Stamp

/-! ### Two side by side -/
/-! ### Where a stamp stands, or would -/
def lessI (x : Opn) (a : Id) : Prop := x.t < a.t ∨ x.t = a.t ∧ x.r < a.r
instance (x : Opn) (a : Id) : Decidable (lessI x a) := inferInstanceAs (Decidable (_ ∨ _))
def moreI (x : Opn) (a : Id) : Prop := a.t < x.t ∨ a.t = x.t ∧ a.r < x.r
instance (x : Opn) (a : Id) : Decidable (moreI x a) := inferInstanceAs (Decidable (_ ∨ _))
theorem lessI_eq {x : Opn} {a : Id} : (¬ lessI x a ∧ ¬ moreI x a) ↔ idO x = a := by
  rw [Id.eq_iff]
  show _ ↔ x.t = a.t ∧ x.r = a.r
  unfold lessI moreI; omega
theorem lessI_trans {x y : Opn} {a : Id} (h : lessO x y) (k : lessI y a) : lessI x a := by unfold lessO at h; unfold lessI at *; omega
def Pos (l : List Opn) (a : Id) (k : Nat) : Prop := k ≤ l.length ∧ (∀ i (h : i < l.length), i < k → lessI (l[i]'h) a) ∧ ∀ i (h : i < l.length), k ≤ i → ¬ lessI (l[i]'h) a
theorem pw_get {l : List Opn} (hp : l.Pairwise lessO) {i j : Nat} (hj : j < l.length) (hij : i < j) : lessO (l[i]'(by omega)) (l[j]'hj) := List.pairwise_iff_getElem.1 hp i j (by omega) hj hij
theorem lessI_mono {l : List Opn} (hp : l.Pairwise lessO) {a : Id} {i j : Nat} (hj : j < l.length) (hij : i ≤ j) (h : lessI (l[j]'hj) a) : lessI (l[i]'(by omega)) a := by
  rcases Nat.lt_or_ge i j with h1 | h1
  · exact lessI_trans (pw_get hp hj h1) h
  · obtain rfl : i = j := by omega
    exact h
theorem pos_find {l : List Opn} {a : Id} {k : Nat} (hp : l.Pairwise lessO) (_h : Pos l a k) (hk : k < l.length) (he : idO (l[k]'hk) = a) : findO l a = some (l[k]'hk) := by
  rw [← he]; exact findO_mem hp (List.getElem_mem hk)
theorem pos_none {l : List Opn} {a : Id} {k : Nat} (hp : l.Pairwise lessO) (h : Pos l a k) (he : ∀ hk : k < l.length, idO (l[k]'hk) ≠ a) : hasO l a = false := by
  rw [hasO_no]
  intro o ho e
  obtain ⟨i, hi, rfl⟩ := List.getElem_of_mem ho
  have h3 := (lessI_eq.2 e).1
  have h1 : k ≤ i := Nat.not_lt.1 (fun hlt => h3 (h.2.1 i hi hlt))
  rcases Nat.lt_or_ge k i with h2 | h2
  · have h4 := pw_get hp hi h2
    refine h.2.2 k (by omega) (Nat.le_refl _) ?_
    have h5 : (l[i]'hi).t = a.t ∧ (l[i]'hi).r = a.r := by rw [Id.eq_iff] at e; exact e
    unfold lessO at h4; unfold lessI; omega
  · obtain rfl : i = k := by omega
    exact he hi e
theorem pos_with {l : List Opn} {o : Opn} {k : Nat} (h : Pos l (idO o) k) (hno : hasO l (idO o) = false) : withO l o = l.take k ++ o :: l.drop k := by
  unfold withO
  rw [if_neg (by rw [hno]; decide)]
  have ht : ∀ x ∈ l.take k, lessO x o := fun x hx => by
    obtain ⟨i, hi, rfl⟩ := List.getElem_of_mem hx
    rw [List.length_take] at hi
    rw [List.getElem_take]
    exact h.2.1 i (by omega) (by omega)
  have hd : ∀ x ∈ l.drop k, lessO o x := fun x hx => by
    have hm := List.mem_of_mem_drop hx
    obtain ⟨i, hi, rfl⟩ := List.getElem_of_mem hx
    rw [List.length_drop] at hi
    have h1 : ¬ lessO _ o := h.2.2 (k + i) (by omega) (by omega)
    have h2 := hasO_no.1 hno _ hm
    rw [List.getElem_drop] at h2 ⊢
    rcases lessO_three (l[k + i]'(by omega)) o with h3 | h3 | h3
    · exact absurd h3 h1
    · exact absurd h3 h2
    · exact h3
  have e1 : l.filter (fun x => decide (lessO x o)) = l.take k := by
    conv => lhs; rw [← List.take_append_drop k l, List.filter_append]
    rw [List.filter_eq_self.2 (fun x hx => decide_eq_true (ht x hx)), List.filter_eq_nil_iff.2 (fun x hx => by simpa using lessO_asymm (hd x hx)), List.append_nil]
  have e2 : l.filter (fun x => decide (lessO o x)) = l.drop k := by
    conv => lhs; rw [← List.take_append_drop k l, List.filter_append]
    rw [List.filter_eq_self.2 (fun x hx => decide_eq_true (hd x hx)), List.filter_eq_nil_iff.2 (fun x hx => by simpa using lessO_asymm (ht x hx)), List.nil_append]
  rw [e1, e2]
end Go.Proofs.YtdackenaknieaaaGreat.Bags
