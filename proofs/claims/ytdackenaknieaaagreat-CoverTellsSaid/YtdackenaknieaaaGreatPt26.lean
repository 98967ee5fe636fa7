/- octavo/cover.chosen, Homed, Counts, Version: what each answers. Conditions: the slice's cells are operations. -/
import Derived.Test.YtdackenaknieaaaGreatPt14
import Derived.Test.YtdackenaknieaaaGreatPt19
import Derived.Test.YtdackenaknieaaaGreatPt07
import Derived.Test.YtdackenaknieaaaGreatPt25
import Derived.Test.YtdackenaknieaaaGreatPt13
import Derived.Test.YtdackenaknieaaaGreatPt11

namespace Go.Proofs.YtdackenaknieaaaGreat.Covers
open Go.RowKit Go.WideShapes Stamp Go.Proofs.YtdackenaknieaaaGreat.Place Ops Codes Bags Marks Homes
attribute [local go_sem ↓] Go.wp_at_zero Go.wp_at_succ
attribute [local go_sem] yielded_undef

/-- What a choice answers, asked of content of the bag. -/
def Asks (f : Nat) (l : List Opn) (s : Id) (Q : Opn → Bool) : Prop := ∀ (W : World) (va vb u : Value) (g b n : Nat) (o : Opn), o ∈ l → Runs W va (fromL l s) → Runs W vb (toL l s) → Runs W u o.pl → SetI W b n (hasO l) → W.cell? ⟨g, 0, none⟩ = some (.map (some b)) → g < W.heap.size →
  Calls Tryz.prog f #[.agg #[va, vb, .func (.func 107) #[] #[.pointer (some ⟨g, 0, none⟩)]], opv o u] W fun e w' => e = .returned (.bool (Q o)) ∧ Below W.heap.size W w'
set_option maxRecDepth 100000 in
set_option maxHeartbeats 8000000 in
theorem chosen_any {v0 : Value} {l : List Opn} (s : Id) (f : Nat) (eg : ∀ args w, (callFunc f args).run Tryz.prog w = .ok (.enter f args) w) (Q : Opn → Bool) {w : World} (hv : OpL w v0 l) (hQ : spanE l s = 0 → Asks f l s Q) :
    Calls Tryz.prog 32 #[v0, .agg #[.int .u32 (s.t : Int), .int .u8 (s.r : Int)], .func (.func f) #[] #[]] w (DoneN (if spanE l s = 0 then l.filter (fun o => contB o && Q o) else []) (spanE l s) w) := by
  obtain ⟨ao, cap, rfl⟩ := hv.shape
  obtain ⟨n, hn⟩ : ∃ n, n = l.length := ⟨_, rfl⟩
  have HV : Hid (∀ W : World, Below w.heap.size w W → OpL W (.slice ao l.length cap) l) := fun W h => hv.keeps h
  have HN := Lib.hid hn
  have B0 : Hid (Below w.heap.size w (w.alloc (.cells #[.int .u32 (s.t : Int), .int .u8 (s.r : Int)] 28))) := (Below.refl _ _).alloc (Nat.le_refl _) _
  have SP : Hid (Calls Tryz.prog 62 #[.slice ao n cap, .agg #[.int .u32 (s.t : Int), .int .u8 (s.r : Int)]] (w.alloc (.cells #[.int .u32 (s.t : Int), .int .u8 (s.r : Int)] 28)) (TwoR (fromL l s) (toL l s) (spanE l s) (w.alloc (.cells #[.int .u32 (s.t : Int), .int .u8 (s.r : Int)] 28)))) := by
    have := hSpan_any s (hv.keeps B0.out)
    rwa [← hn] at this
  have hcs := spanE_cases l s
  by_cases hE : spanE l s = 0
  rotate_left
  · obtain ⟨c, hc⟩ : ∃ c, spanE l s = c := ⟨_, rfl⟩
    rw [hc] at hE hcs SP ⊢
    rw [if_neg hE, ← hn]
    have q1 : (c != 0) = true := by simpa using hE
    have q2 : decide (c = 0) = false := decide_eq_false hE
    obtain ⟨st, sr, hst, hsr⟩ := s
    simp only at SP B0 ⊢
    clear hv hn HV HN hcs hQ hc
    go_enter Tryz.func32, Tryz.ntmps32
    go_wp2_with fail
    refine SP.out.mono ?_
    rintro e w1 ⟨va, vb, rfl, h1, h2, b1⟩
    have B1 := Lib.hid (bt B0.out b1)
    clear h1 h2 b1 SP B0
    go_wp2
    go_ret2
    exact ⟨_, rfl, OwnL.nil _ _, B1.out⟩
  have hbag := (spanE_zero.1 hE).1
  have ASK : Hid (Asks f l s Q) := hQ hE
  rw [if_pos hE]
  rw [hE] at SP ⊢
  have hnm : n ≤ 1024 := by rw [hn]; exact hbag.1
  have HP : Hid (∀ o ∈ l, o.pl.length ≤ 8796093022208) := (bag_fits hbag).2
  have AS : Hid (∀ W : World, Below w.heap.size w W → Calls Tryz.prog 63 #[.slice ao n cap] W fun e w' => ∃ g b n, e = .returned (.func (.func 107) #[] #[.pointer (some ⟨g, 0, none⟩)]) ∧ g < w'.heap.size ∧ w'.cell? ⟨g, 0, none⟩ = some (.map (some b)) ∧ SetI w' b n (hasO l) ∧ Below W.heap.size W w') := fun W h => by
    have := asking_any (hv.keeps h) hbag.1
    rwa [← hn] at this
  rw [← hn]
  obtain ⟨st, sr, hst, hsr⟩ := s
  simp only at SP B0 ⊢
  obtain ⟨F, hF⟩ : ∃ F, fromL l ⟨st, sr, hst, hsr⟩ = F := ⟨_, rfl⟩
  obtain ⟨T, hT⟩ : ∃ T, toL l ⟨st, sr, hst, hsr⟩ = T := ⟨_, rfl⟩
  have AK : Hid (∀ (W : World) (va vb u : Value) (g b n : Nat) (o : Opn), o ∈ l → Runs W va F → Runs W vb T → Runs W u o.pl → SetI W b n (hasO l) → W.cell? ⟨g, 0, none⟩ = some (.map (some b)) → g < W.heap.size →
      Calls Tryz.prog f #[.agg #[va, vb, .func (.func 107) #[] #[.pointer (some ⟨g, 0, none⟩)]], opv o u] W fun e w' => e = .returned (.bool (Q o)) ∧ Below W.heap.size W w') := by
    have := ASK.out
    unfold Asks at this
    rw [hF, hT] at this
    exact this
  rw [hF, hT] at SP
  clear hv hn hcs hQ hbag ASK hE hF hT
  go_enter Tryz.func32, Tryz.ntmps32
  go_wp2_with fail
  refine SP.out.mono ?_
  rintro e w1 ⟨va, vb, rfl, h1, h2, b1⟩
  have R1 : Hid (Runs w1 va F) := Runs.own h1
  have R2 : Hid (Runs w1 vb T) := Runs.own h2
  obtain ⟨fo, fc, rfl⟩ := Runs.shape R1.out
  obtain ⟨to', tc, rfl⟩ := Runs.shape R2.out
  obtain ⟨nf, hnf⟩ : ∃ n, F.length = n := ⟨_, rfl⟩
  obtain ⟨nt, hnt⟩ : ∃ n, T.length = n := ⟨_, rfl⟩
  rw [hnf] at R1 ⊢
  rw [hnt] at R2 ⊢
  have B1 := Lib.hid (bt B0.out b1)
  clear h1 h2 b1 SP B0 hnf hnt
  go_wp2_with fail
  refine (AS.out _ B1.out).mono ?_
  rintro e w2 ⟨g, b, n0, rfl, hg, hc, hs, b2⟩
  have R3 := Lib.hid (R1.out.keeps b2)
  have R4 := Lib.hid (R2.out.keeps b2)
  have B2 := Lib.hid (bt B1.out b2)
  obtain ⟨wm, hwm⟩ : ∃ wm, w2.alloc (.cells #[.slice fo nf fc, .slice to' nt tc, .func (.func 107) #[] #[.pointer (some ⟨g, 0, none⟩)]] 68) = wm := ⟨_, rfl⟩
  have BM : Hid (Below w2.heap.size w2 wm) := by rw [← hwm]; exact (Below.refl _ _).alloc (Nat.le_refl _) _
  have XM : Hid (wm.heap[w2.heap.size]? = some (.cells #[.slice fo nf fc, .slice to' nt tc, .func (.func 107) #[] #[.pointer (some ⟨g, 0, none⟩)]] 68)) := by rw [← hwm]; exact blk_new rfl
  have HWM := Lib.hid hwm
  have S0 : Hid (SetI wm b n0 (hasO l)) := hs.keeps BM.out
  have C0 : Hid (wm.cell? ⟨g, 0, none⟩ = some (.map (some b))) := (BM.out.cell (p := ⟨g, 0, none⟩) hg).trans hc
  have G0 : Hid (g < wm.heap.size) := Nat.lt_of_lt_of_le hg BM.out.size
  have AX : Hid (∀ (W : World) (u : Value) (o : Opn), Below wm.heap.size wm W → o ∈ l → Runs W u o.pl → Calls Tryz.prog f #[.agg #[.slice fo nf fc, .slice to' nt tc, .func (.func 107) #[] #[.pointer (some ⟨g, 0, none⟩)]], opv o u] W fun e w' => e = .returned (.bool (Q o)) ∧ Below W.heap.size W w') := fun W u o h1 h2 h3 =>
    AK.out W _ _ u g b n0 o h2 (R3.out.keeps (bt BM.out h1)) (R4.out.keeps (bt BM.out h1)) h3 (S0.out.keeps h1) ((h1.cell (p := ⟨g, 0, none⟩) G0.out).trans C0.out) (Nat.lt_of_lt_of_le G0.out h1.size)
  have B3 : Hid (Below w.heap.size w wm) := bt B2.out BM.out
  have HZ : Hid (w2.heap.size < wm.heap.size) := (Array.getElem?_eq_some_iff.1 XM.out).1
  have L2 : Hid (OwnL wm wm.heap.size (.slice none 0 0) ((l.take 0).filter (fun o => contB o && Q o))) := OwnL.nil _ _
  have M2 : Hid (0 = ((l.take 0).filter (fun o => contB o && Q o)).length) := rfl
  have Z2 : Hid (Below wm.heap.size wm wm) := Below.refl _ _
  clear b2 hg hc hs hwm R1 R2 R3 R4 B1 B2 S0 C0 G0 AK AS BM
  go_wp2
  rw [HWM.out]
  go_loopw [12, 32] (fun v i wr => ∃ j m : Nat, j ≤ n ∧ i = .int .i64 (j : Int) ∧ m ≤ j ∧ (∃ ao cap, v = .slice ao m cap) ∧ Hid (m = ((l.take j).filter (fun o => contB o && Q o)).length) ∧ Hid (OwnL wr wm.heap.size v ((l.take j).filter (fun o => contB o && Q o))) ∧ Hid (Below wm.heap.size wm wr)) (fun _ i _ => n - (intOf i).toNat)
  case atStart => exact ⟨0, 0, by omega, rfl, by omega, ⟨none, 0, rfl⟩, M2, L2, Z2⟩
  case round =>
    clear M2 L2 Z2 HWM
    obtain ⟨j, m, hj, rfl, hmj, ⟨aoL, capL, rfl⟩, HM, hown, hbm⟩ := hrel
    have hbel : Hid (Below w.heap.size w wr) := bt B3.out hbm.out
    by_cases hjn : j < n
    rotate_left
    · have q3 : decide (j < n) = false := by simpa using hjn
      have hkk : l.take j = l := List.take_of_length_le (by have := HN.out; omega)
      rw [hkk] at hown
      clear hkk
      go_wp2
      go_ret2
      exact ⟨_, rfl, hown.out.base B3.out.size, hbel.out⟩
    have q3 : decide (j < n) = true := by simpa using hjn
    have q4 : (0 : Int) ≤ (j : Int) := by omega
    have q5 : (j : Int) < (n : Int) := by omega
    have hjl : j < l.length := by rw [← HN.out]; exact hjn
    obtain ⟨bb, oo, u, e, hbb, hru, h0, h1, h2, h3, h4⟩ := opl_at (HV.out wr hbel.out) j hjl
    subst e
    obtain ⟨x, hx⟩ : ∃ x, x = l[j]'hjl := ⟨_, rfl⟩
    rw [← hx] at hru h0 h1 h2 h4
    have HO : Hid (∀ v : Value, opv x v = .agg #[.int .u8 (x.k : Int), .int .u32 (x.t : Int), .int .u8 (x.r : Int), v, .int .i64 x.p]) := fun v => rfl
    obtain ⟨uo, uc, rfl⟩ := hru.shape
    obtain ⟨nu, hnu⟩ : ∃ n, n = x.pl.length := ⟨_, rfl⟩
    have HNU := Lib.hid hnu
    rw [← hnu] at hru h3
    clear hnu
    have hxl : x ∈ l := by rw [hx]; exact List.getElem_mem hjl
    have hpx : x.pl.length ≤ 8796093022208 := HP.out x hxl
    have FT : Hid ((l.take (j + 1)).filter (fun o => contB o && Q o) = (l.take j).filter (fun o => contB o && Q o) ++ (if (contB x && Q x) = true then [x] else [])) := by
      unfold Hid
      rw [List.take_succ_eq_append_getElem hjl, List.filter_append, hx]
      congr 1
      simp [List.filter_cons]
    obtain ⟨L, hL⟩ : ∃ z, (l.take j).filter (fun o => contB o && Q o) = z := ⟨_, rfl⟩
    rw [hL] at HM hown FT
    have CO : Hid (∀ W : World, Calls Tryz.prog 64 #[opv x (.slice uo nu uc)] W fun e w' => e = .returned (.bool (contB x)) ∧ Below W.heap.size W w') := fun W => oContent_any W
    have CH : Hid (∀ W : World, Below wr.heap.size wr W → Calls Tryz.prog f #[.agg #[.slice fo nf fc, .slice to' nt tc, .func (.func 107) #[] #[.pointer (some ⟨g, 0, none⟩)]], opv x (.slice uo nu uc)] W fun e w' => e = .returned (.bool (Q x)) ∧ Below W.heap.size W w') := fun W h => AX.out W _ x (bt hbm.out h) hxl (by rw [HNU.out]; rw [HNU.out] at hru; exact hru.keeps h)
    have TW : Hid (∀ W : World, Below wr.heap.size wr W → Calls Tryz.prog 57 #[opv x (.slice uo nu uc)] W fun e w' => ∃ ao cap, e = .returned (opv x (.slice ao nu cap)) ∧ w'.ownsRow wm.heap.size 49 3 (.slice ao nu cap) x.pl.length (runs x.pl) ∧ Below W.heap.size W w') := fun W hW => by
      refine (oTwin_any (hru.keeps hW) hpx).mono ?_
      rintro e w' ⟨v', rfl, ho, hb⟩
      obtain ⟨ao', cap', rfl⟩ : ∃ ao cap, v' = .slice ao x.pl.length cap := Sees.shape (Sees.own ho)
      rw [← HNU.out] at ho ⊢
      exact ⟨ao', cap', rfl, op_base ho (Nat.le_trans hbm.out.size hW.size), hb⟩
    clear hx hru hpx hL hxl
    obtain ⟨k, hk⟩ : ∃ z, x.k = z := ⟨_, rfl⟩
    obtain ⟨t, ht⟩ : ∃ z, x.t = z := ⟨_, rfl⟩
    obtain ⟨r, hr⟩ : ∃ z, x.r = z := ⟨_, rfl⟩
    obtain ⟨p, hp⟩ : ∃ z, x.p = z := ⟨_, rfl⟩
    rw [hk, ht, hr, hp] at HO
    rw [hk] at h0
    rw [ht] at h1
    rw [hr] at h2
    rw [hp] at h4
    simp only [HO.out] at TW CO CH
    have HFV : Hid (∀ v : Value, [.int .u8 (k : Int), .int .u32 (t : Int), .int .u8 (r : Int), v, .int .i64 p] = [Value.int .u8 (x.k : Int), .int .u32 (x.t : Int), .int .u8 (x.r : Int), v, .int .i64 x.p]) := fun v => by rw [hk, ht, hr, hp]
    obtain ⟨qc, hqc⟩ : ∃ q, contB x = q := ⟨_, rfl⟩
    rw [hqc] at CO FT
    obtain ⟨q, hq⟩ : ∃ q, Q x = q := ⟨_, rfl⟩
    rw [hq] at CH FT
    have BL : Hid (Below wr.heap.size wr (wr.alloc (.cells #[.int .u8 (k : Int), .int .u32 (t : Int), .int .u8 (r : Int), .slice uo nu uc, .int .i64 p] 31))) := (Below.refl _ _).alloc (Nat.le_refl _) _
    have SK : Hid (∀ W : World, Below (wr.alloc (.cells #[.int .u8 (k : Int), .int .u32 (t : Int), .int .u8 (r : Int), .slice uo nu uc, .int .i64 p] 31)).heap.size (wr.alloc (.cells #[.int .u8 (k : Int), .int .u32 (t : Int), .int .u8 (r : Int), .slice uo nu uc, .int .i64 p] 31)) W → (W.cell? ⟨wr.heap.size, 0, none⟩ = some (.int .u8 (k : Int)) ∧ W.cell? ⟨wr.heap.size, 1, none⟩ = some (.int .u32 (t : Int)) ∧ W.cell? ⟨wr.heap.size, 2, none⟩ = some (.int .u8 (r : Int)) ∧ W.cell? ⟨wr.heap.size, 3, none⟩ = some (.slice uo nu uc) ∧ W.cell? ⟨wr.heap.size, 4, none⟩ = some (.int .i64 p)) ∧ W.cell? ⟨w2.heap.size, 0, none⟩ = some (.slice fo nf fc) ∧ W.cell? ⟨w2.heap.size, 1, none⟩ = some (.slice to' nt tc) ∧ W.cell? ⟨w2.heap.size, 2, none⟩ = some (.func (.func 107) #[] #[.pointer (some ⟨g, 0, none⟩)])) := fun W h => by
      have g1 := blk_below h (blk_below BL.out (blk_below hbm.out XM.out))
      exact ⟨five_cells h, cell_of_row _ _ 0 _ _ _ g1, cell_of_row _ _ 1 _ _ _ g1, cell_of_row _ _ 2 _ _ _ g1⟩
    clear hk ht hr hp HO hqc hq
    cases qc
    · have FT2 : Hid ((l.take (j + 1)).filter (fun o => contB o && Q o) = L) := by unfold Hid; rw [FT.out]; simp
      clear FT TW HFV SK CH
      go_wp2_with fail
      refine (CO.out _).mono ?_
      rintro e w5 ⟨rfl, b5⟩
      have B5 := Lib.hid (bt BL.out b5)
      clear b5
      have L5 := Lib.hid (hown.out.keeps B5.out)
      have B6 := Lib.hid (bt hbm.out B5.out)
      rw [← FT2.out] at L5 HM
      clear hown
      go_wp2
      go_roundw
      case rel => exact ⟨j + 1, m, by omega, by go_num, by omega, ⟨aoL, capL, rfl⟩, HM, L5, B6⟩
      case measure => simp [intOf]; omega
    cases q
    · have FT2 : Hid ((l.take (j + 1)).filter (fun o => contB o && Q o) = L) := by unfold Hid; rw [FT.out]; simp
      clear FT TW HFV
      go_wp2_with fail
      refine (CO.out _).mono ?_
      rintro e w4 ⟨rfl, b4⟩
      have B4 := Lib.hid (bt BL.out b4)
      obtain ⟨⟨g0, g1, g2, g3, g4⟩, f0, f1, f2⟩ := SK.out _ b4
      clear b4 SK h0 h1 h2 h3 h4
      go_wp2_with fail
      refine (CH.out _ B4.out).mono ?_
      rintro e w5 ⟨rfl, b5⟩
      have B5 := Lib.hid (bt B4.out b5)
      clear b5 g0 g1 g2 g3 g4 f0 f1 f2
      have L5 := Lib.hid (hown.out.keeps B5.out)
      have B6 := Lib.hid (bt hbm.out B5.out)
      rw [← FT2.out] at L5 HM
      clear hown
      go_wp2
      go_roundw
      case rel => exact ⟨j + 1, m, by omega, by go_num, by omega, ⟨aoL, capL, rfl⟩, HM, L5, B6⟩
      case measure => simp [intOf]; omega
    have FT2 : Hid ((l.take (j + 1)).filter (fun o => contB o && Q o) = L ++ [x]) := by unfold Hid; rw [FT.out]; simp
    clear FT
    go_wp2_with fail
    refine (CO.out _).mono ?_
    rintro e w3 ⟨rfl, b3⟩
    have B3' := Lib.hid (bt BL.out b3)
    have BX3 := Lib.hid b3
    obtain ⟨⟨g0, g1, g2, g3, g4⟩, f0, f1, f2⟩ := SK.out _ b3
    clear b3 h0 h1 h2 h3 h4
    go_wp2_with fail
    refine (CH.out _ B3'.out).mono ?_
    rintro e w4 ⟨rfl, b4⟩
    have B4 := Lib.hid (bt B3'.out b4)
    clear g0 g1 g2 g3 g4 f0 f1 f2
    obtain ⟨⟨g0, g1, g2, g3, g4⟩, f0, f1, f2⟩ := SK.out _ (bt BX3.out b4)
    clear b4 SK f0 f1 f2 BX3 B3'
    go_wp2_with fail
    refine (TW.out _ B4.out).mono ?_
    rintro e w5 ⟨aoO, capO, rfl, o5, b5⟩
    have B5 := Lib.hid (bt B4.out b5)
    have BW5 := Lib.hid (bt hbel.out B5.out)
    have BM5 := Lib.hid (bt hbm.out B5.out)
    have LL := Lib.hid (hown.out.keeps B5.out)
    obtain ⟨cs, lo, lh⟩ := LL.out
    rw [← HM.out] at lo
    have LO := Lib.hid lo
    have LH := Lib.hid lh
    have PO : Hid (w5.ownsRow wm.heap.size 49 3 (.slice aoO nu capO) x.pl.length (runs x.pl)) := o5
    have SE : Hid (Sees (w5.alloc (.cells #[.int .u8 (k : Int), .int .u32 (t : Int), .int .u8 (r : Int), .slice aoO nu capO, .int .i64 p] 31)) (.slice (some ⟨w5.heap.size, 0, none⟩) 1 1) 5 1 [.int .u8 (k : Int), .int .u32 (t : Int), .int .u8 (r : Int), .slice aoO nu capO, .int .i64 p]) := sees_new w5 [.int .u8 (k : Int), .int .u32 (t : Int), .int .u8 (r : Int), .slice aoO nu capO, .int .i64 p] 5 1 rfl (by omega) 31 (0, 0)
    have OA : Hid ((w5.alloc (.cells #[.int .u8 (k : Int), .int .u32 (t : Int), .int .u8 (r : Int), .slice aoO nu capO, .int .i64 p] 31)).ownsRow wm.heap.size 31 5 (.slice aoL m capL) m cs) := own_stays LO.out ((Below.refl _ _).alloc (Nat.le_refl _) _)
    have FO2 : Hid (∀ z ∈ ([.int .u8 (k : Int), .int .u32 (t : Int), .int .u8 (r : Int), .slice aoO nu capO, .int .i64 p] : List Value), z.oneCell' = true) := by unfold Hid; rw [HFV.out]; exact five_one x _ ⟨_, _, _, rfl⟩
    have bz : Hid (wm.heap.size ≤ (w5.alloc (.cells #[.int .u8 (k : Int), .int .u32 (t : Int), .int .u8 (r : Int), .slice aoO nu capO, .int .i64 p] 31)).heap.size) := by have := BM5.out.size; unfold Hid; simp; omega
    clear o5 b5 lo lh hown hbel LL g0 g1 g2 g3 g4
    go_wp2_with (at_builtin; refine wpList_append_sees rfl (.tmp 44) (.tmp 47) 33 31 rfl Tryz.underlying33 op_info rfl (by decide) wm.heap.size _ m cs rfl OA.out _ 1 [.int .u8 (k : Int), .int .u32 (t : Int), .int .u8 (r : Int), .slice aoO nu capO, .int .i64 p] rfl SE.out FO2.out ?k1 ?k2 ?k3 ?_)
    case k1 => omega
    case k2 => omega
    case k3 => exact bz.out
    rintro v6 w6 o6 g6 b6
    have L6 : Hid (OwnL w6 wm.heap.size v6 ((l.take (j + 1)).filter (fun o => contB o && Q o))) := by
      have lo2 := LO.out
      have o7 := o6
      rw [HFV.out] at o7
      have po := own_stays PO.out ((Below.refl _ _).alloc (Nat.le_refl _) (.cells #[.int .u8 (k : Int), .int .u32 (t : Int), .int .u8 (r : Int), .slice aoO nu capO, .int .i64 p] 31))
      have gx := g6
      unfold Hid
      rw [FT2.out]
      rw [HM.out] at lo2 gx
      refine OwnL.snoc (W := w5) (W8 := w5.alloc (.cells #[.int .u8 (k : Int), .int .u32 (t : Int), .int .u8 (r : Int), .slice aoO nu capO, .int .i64 p] 31)) (m := m + 1) lo2 LH.out ((Below.refl _ _).alloc (Nat.le_refl _) _) po gx o7 (by rw [HM.out])
    have M6 : Hid (m + 1 = ((l.take (j + 1)).filter (fun o => contB o && Q o)).length) := by unfold Hid; rw [FT2.out, List.length_append, ← HM.out]; rfl
    have B6 : Hid (Below wm.heap.size wm w6) := (BM5.out.alloc BM5.out.size _).trans b6
    obtain ⟨va, vc, rfl⟩ : ∃ ao cap, v6 = .slice ao (m + 1) cap := Sees.shape (Sees.own o6)
    clear o6 g6 b6 OA SE LO LH PO bz
    go_wp2
    go_roundw
    case rel => exact ⟨j + 1, m + 1, by omega, by go_num, by omega, ⟨va, vc, rfl⟩, M6, L6, B6⟩
    case measure => simp [intOf]; omega

/-! ### The calls -/
theorem homed_filter {l : List Opn} {s : Id} (hE : spanE l s = 0) : l.filter (fun o => contB o && homB (fromL l s) (toL l s) o.pl) = inL l (livesM l l) s := by
  unfold inL
  refine List.filter_congr fun o ho => ?_
  rw [homB_is hE (anyB_may (mayO_parts ((spanE_zero.1 hE).1.2.1 o ho)).2.1)]
theorem counts_filter {l : List Opn} {s : Id} (hE : spanE l s = 0) : l.filter (fun o => contB o && (homB (fromL l s) (toL l s) o.pl && isB l (livesM l l) s o)) = countL l (livesM l l) s := by
  unfold countL
  rw [← homed_filter hE, List.filter_filter]
  refine List.filter_congr fun o ho => ?_
  cases contB o <;> cases homB (fromL l s) (toL l s) o.pl <;> cases isB l (livesM l l) s o <;> rfl
set_option maxRecDepth 100000 in
set_option maxHeartbeats 4000000 in
theorem cHomed_any {v : Value} {l : List Opn} (s : Id) {w : World} (hv : OpL w v l) : Calls Tryz.prog 18 #[v, .agg #[.int .u32 (s.t : Int), .int .u8 (s.r : Int)]] w (DoneN (homedL l s) (spanE l s) w) := by
  have B0 : Hid (Below w.heap.size w (w.alloc (.cells #[.int .u32 (s.t : Int), .int .u8 (s.r : Int)] 28))) := (Below.refl _ _).alloc (Nat.le_refl _) _
  have CH : Hid (Calls Tryz.prog 32 #[v, .agg #[.int .u32 (s.t : Int), .int .u8 (s.r : Int)], .func (.func 40) #[] #[]] (w.alloc (.cells #[.int .u32 (s.t : Int), .int .u8 (s.r : Int)] 28)) (DoneN (homedL l s) (spanE l s) (w.alloc (.cells #[.int .u32 (s.t : Int), .int .u8 (s.r : Int)] 28)))) := by
    have h := chosen_any s 40 (enters_of Tryz.func40 (by kernel_rfl) rfl) (fun o => homB (fromL l s) (toL l s) o.pl) (hv.keeps B0.out) (fun hE => fun W va vb u g b n o ho ha hb hu hs hc hg => homes_any ha hb hu ⟨_, _, _, rfl⟩)
    have e : (if spanE l s = 0 then l.filter (fun o => contB o && (fun o => homB (fromL l s) (toL l s) o.pl) o) else []) = homedL l s := by
      unfold homedL
      by_cases hE : spanE l s = 0
      · rw [if_pos hE, if_pos hE]; exact homed_filter hE
      · rw [if_neg hE, if_neg hE]
    rwa [e] at h
  obtain ⟨ao, cap, rfl⟩ := hv.shape
  obtain ⟨n, hn⟩ : ∃ n, n = l.length := ⟨_, rfl⟩
  rw [← hn] at CH ⊢
  obtain ⟨R, hR⟩ : ∃ R, homedL l s = R := ⟨_, rfl⟩
  obtain ⟨c, hc⟩ : ∃ c, spanE l s = c := ⟨_, rfl⟩
  rw [hR, hc] at CH ⊢
  obtain ⟨st, sr, hst, hsr⟩ := s
  simp only at CH B0 ⊢
  clear hv hn hR hc
  go_enter Tryz.func18, Tryz.ntmps18
  go_wp2_with fail
  refine CH.out.mono ?_
  rintro e w1 ⟨va, rfl, o1, b1⟩
  have B1 := Lib.hid (bt B0.out b1)
  have O1 : Hid (OwnL w1 w.heap.size va R) := o1.base B0.out.size
  clear b1 o1 CH B0
  go_wp2
  go_ret2
  exact ⟨_, rfl, O1.out, B1.out⟩
set_option maxRecDepth 100000 in
set_option maxHeartbeats 4000000 in
theorem cCounts_any {v : Value} {l : List Opn} (s : Id) {w : World} (hv : OpL w v l) : Calls Tryz.prog 10 #[v, .agg #[.int .u32 (s.t : Int), .int .u8 (s.r : Int)]] w (DoneN (countsL l s) (spanE l s) w) := by
  have B0 : Hid (Below w.heap.size w (w.alloc (.cells #[.int .u32 (s.t : Int), .int .u8 (s.r : Int)] 28))) := (Below.refl _ _).alloc (Nat.le_refl _) _
  have CH : Hid (Calls Tryz.prog 32 #[v, .agg #[.int .u32 (s.t : Int), .int .u8 (s.r : Int)], .func (.func 33) #[] #[]] (w.alloc (.cells #[.int .u32 (s.t : Int), .int .u8 (s.r : Int)] 28)) (DoneN (countsL l s) (spanE l s) (w.alloc (.cells #[.int .u32 (s.t : Int), .int .u8 (s.r : Int)] 28)))) := by
    have h := chosen_any s 33 (enters_of Tryz.func33 (by kernel_rfl) rfl) (fun o => homB (fromL l s) (toL l s) o.pl && isB l (livesM l l) s o) (hv.keeps B0.out) (fun hE => fun W va vb u g b n o ho ha hb hu hs hc hg => counts_any hE ho ha hb hu hs hc hg)
    have e : (if spanE l s = 0 then l.filter (fun o => contB o && (fun o => homB (fromL l s) (toL l s) o.pl && isB l (livesM l l) s o) o) else []) = countsL l s := by
      unfold countsL
      by_cases hE : spanE l s = 0
      · rw [if_pos hE, if_pos hE]; exact counts_filter hE
      · rw [if_neg hE, if_neg hE]
    rwa [e] at h
  obtain ⟨ao, cap, rfl⟩ := hv.shape
  obtain ⟨n, hn⟩ : ∃ n, n = l.length := ⟨_, rfl⟩
  rw [← hn] at CH ⊢
  obtain ⟨R, hR⟩ : ∃ R, countsL l s = R := ⟨_, rfl⟩
  obtain ⟨c, hc⟩ : ∃ c, spanE l s = c := ⟨_, rfl⟩
  rw [hR, hc] at CH ⊢
  obtain ⟨st, sr, hst, hsr⟩ := s
  simp only at CH B0 ⊢
  clear hv hn hR hc
  go_enter Tryz.func10, Tryz.ntmps10
  go_wp2_with fail
  refine CH.out.mono ?_
  rintro e w1 ⟨va, rfl, o1, b1⟩
  have B1 := Lib.hid (bt B0.out b1)
  have O1 : Hid (OwnL w1 w.heap.size va R) := o1.base B0.out.size
  clear b1 o1 CH B0
  go_wp2
  go_ret2
  exact ⟨_, rfl, O1.out, B1.out⟩
theorem bag_count {l : List Opn} (h : Bag l) (live : List Opn) (s : Id) : Bag (countL l live s) := ⟨Nat.le_trans (countL_sub l live s).length_le h.1, fun o ho => h.2.1 o ((countL_sub l live s).subset ho), h.2.2.sublist (countL_sub l live s)⟩
set_option maxRecDepth 100000 in
set_option maxHeartbeats 4000000 in
theorem cVersion_any {v : Value} {l : List Opn} (s : Id) {w : World} (hv : OpL w v l) : Calls Tryz.prog 7 #[v, .agg #[.int .u32 (s.t : Int), .int .u8 (s.r : Int)]] w (Bags.DoneC (versionL l s) (spanE l s) w) := by
  have B0 : Hid (Below w.heap.size w (w.alloc (.cells #[.int .u32 (s.t : Int), .int .u8 (s.r : Int)] 28))) := (Below.refl _ _).alloc (Nat.le_refl _) _
  have CH : Hid (Calls Tryz.prog 10 #[v, .agg #[.int .u32 (s.t : Int), .int .u8 (s.r : Int)]] (w.alloc (.cells #[.int .u32 (s.t : Int), .int .u8 (s.r : Int)] 28)) (DoneN (countsL l s) (spanE l s) (w.alloc (.cells #[.int .u32 (s.t : Int), .int .u8 (s.r : Int)] 28)))) := cCounts_any s (hv.keeps B0.out)
  have ID : Hid (spanE l s = 0 → ∀ (W : World) (y : Value), OpL W y (countsL l s) → Calls Tryz.prog 31 #[y] W (Bags.DoneC (versionL l s) 0 W)) := fun hE W y h => by
    have e1 : countsL l s = countL l (livesM l l) s := by unfold countsL; rw [if_pos hE]
    have hb := bag_count (spanE_zero.1 hE).1 (livesM l l) s
    have e2 : idsC (countsL l s) = versionL l s := by unfold idsC versionL; rw [e1, (bagB_iff _).2 hb, if_pos hE]; rfl
    have := bIds_any h
    rw [e2, e1, chkL_yes hb] at this
    exact this
  have VN : Hid (¬ spanE l s = 0 → versionL l s = []) := fun h => by unfold versionL; rw [if_neg h]
  obtain ⟨ao, cap, rfl⟩ := hv.shape
  obtain ⟨n, hn⟩ : ∃ n, n = l.length := ⟨_, rfl⟩
  rw [← hn] at CH ⊢
  obtain ⟨R, hR⟩ : ∃ R, countsL l s = R := ⟨_, rfl⟩
  obtain ⟨c, hc⟩ : ∃ c, spanE l s = c := ⟨_, rfl⟩
  obtain ⟨V, hV⟩ : ∃ V, versionL l s = V := ⟨_, rfl⟩
  rw [hR, hc] at CH
  rw [hR, hc, hV] at ID
  rw [hc, hV] at VN ⊢
  obtain ⟨st, sr, hst, hsr⟩ := s
  simp only at CH B0 ⊢
  clear hv hn hR hc hV
  by_cases hE : c = 0
  · subst hE
    have ID2 := Lib.hid (ID.out rfl)
    clear ID VN
    go_enter Tryz.func7, Tryz.ntmps7
    go_wp2_with fail
    refine CH.out.mono ?_
    rintro e w1 ⟨va, rfl, o1, b1⟩
    have B1 := Lib.hid (bt B0.out b1)
    have O1 := Lib.hid o1.opl
    clear b1 o1 CH B0
    go_wp2_with fail
    refine (ID2.out _ _ O1.out).mono ?_
    rintro e w2 ⟨vb, rfl, o2, b2⟩
    have B2 := Lib.hid (bt B1.out b2)
    have O2 : Hid (OwnC w2 w.heap.size vb V) := Clocks.OwnC.base o2 B1.out.size
    clear b2 o2 ID2 O1 B1
    go_wp2
    go_ret2
    exact ⟨_, rfl, O2.out, B2.out⟩
  · obtain rfl := VN.out hE
    have q1 : (c != 0) = true := by simpa using hE
    have q2 : decide (c = 0) = false := decide_eq_false hE
    clear ID VN
    go_enter Tryz.func7, Tryz.ntmps7
    go_wp2_with fail
    refine CH.out.mono ?_
    rintro e w1 ⟨va, rfl, o1, b1⟩
    have B1 := Lib.hid (bt B0.out b1)
    clear b1 o1 CH B0
    go_wp2
    go_ret2
    exact ⟨_, rfl, Clocks.OwnC.nil _ _, B1.out⟩
end Go.Proofs.YtdackenaknieaaaGreat.Covers

/- octavoref06.Cut: what it answers. Conditions: the slice's cells are runs that may be, one behind the other. -/
namespace Go.Proofs.YtdackenaknieaaaGreat.Covers
open Go.RowKit Go.WideShapes Ops Stamp Bags Marks Homes Go.Proofs.YtdackenaknieaaaGreat.Place
attribute [local go_sem ↓] Go.wp_at_zero Go.wp_at_succ
attribute [local go_sem] yielded_undef

def runE : Enc Run where
  sz := 3
  pos := by decide
  inn _ cs x := cs = [.int .u32 (x.t : Int), .int .u8 (x.r : Int), .int .i64 x.m]
  len := by rintro w cs x rfl; rfl
  one := by
    rintro w cs x rfl u hu
    simp only [List.mem_cons, List.not_mem_nil, or_false] at hu
    rcases hu with rfl | rfl | rfl <;> rfl
  keep := by rintro w w' cs x _ h; exact h
theorem runE_rows {w : World} : ∀ {cs : List Value} {l : List Run}, runE.rows w cs l → cs = runs l
  | _, [], h => h
  | _, _ :: _, ⟨c, d, h1, h2, h3⟩ => by
    rw [h1, show c = _ from h2, runE_rows h3]
    rfl
theorem shr_runs {w0 w : World} {v : Value} {l : List Run} (h : Shr runE 49 w0 w v l) : Runs w v l := by
  obtain ⟨cs, h1, h2⟩ := h
  have h3 := Sees.own h1
  rw [runE_rows h2] at h3
  exact h3
theorem cutN_step {p : List Run} {j r : Nat} (hj : j < p.length) (hr : 0 < r) :
    cutN (p.drop j) r = if (p.getD j zrun).m ≤ (r : Int) then p.getD j zrun :: cutN (p.drop (j + 1)) (r - (p.getD j zrun).m.toNat) else [mkRun (p.getD j zrun).t (p.getD j zrun).r (r : Int)] := by
  have e : p.drop j = p.getD j zrun :: p.drop (j + 1) := by
    rw [List.getD_eq_getElem?_getD, List.getElem?_eq_getElem hj]
    exact List.drop_eq_getElem_cons hj
  rw [e]
  show (if r = 0 then _ else _) = _
  rw [if_neg (by omega)]

set_option maxRecDepth 100000 in
set_option maxHeartbeats 4000000 in
theorem refCut_any {v : Value} {p : List Run} {w : World} (hv : Runs w v p) (hc : Chain p) (hl : p.length ≤ 100) (k : Nat) (hk : k ≤ 5000) :
    Calls Tryz.prog 27 #[v, .int .i64 (k : Int)] w fun e w' => ∃ v', e = .returned v' ∧ Runs w' v' (cutN p k) ∧ Below w.heap.size w w' := by
  obtain ⟨ao, cap, rfl⟩ := hv.shape
  obtain ⟨n, hn⟩ : ∃ n, n = p.length := ⟨_, rfl⟩
  have hnm : n ≤ 100 := by omega
  have HV : Hid (∀ W : World, Below w.heap.size w W → Runs W (.slice ao p.length cap) p) := fun W h => hv.keeps h
  have HN := Lib.hid hn
  have HC := Lib.hid hc
  rw [← hn]
  have S0 : Hid (Shr runE 49 w w (.slice none 0 0) []) := Shr.nil _ _ _ _
  have L0 : Hid (cutN p k = [] ++ cutN (p.drop 0) k) := rfl
  have M0 : Hid (0 = ([] : List Run).length) := rfl
  have B0 : Hid (Below w.heap.size w w) := Below.refl _ _
  obtain ⟨R, hR⟩ : ∃ R, cutN p k = R := ⟨_, rfl⟩
  rw [hR] at L0 ⊢
  clear hv hn hl hc hR
  go_enter Tryz.func27, Tryz.ntmps27
  go_wp2
  go_loopw [1, 5, 6] (fun y v i wr => ∃ (j r m : Nat) (L : List Run), j ≤ n ∧ m ≤ j ∧ r ≤ 5000 ∧ y = .int .i64 (r : Int) ∧ i = .int .i64 (j : Int) ∧ (∃ ao cap, v = .slice ao m cap) ∧ Hid (m = L.length) ∧ Hid (R = L ++ cutN (p.drop j) r) ∧ Hid (Shr runE 49 w wr v L) ∧ Hid (Below w.heap.size w wr)) (fun _ _ i _ => n - (intOf i).toNat)
  case atStart => exact ⟨0, k, 0, [], by omega, by omega, hk, rfl, rfl, ⟨none, 0, rfl⟩, M0, L0, S0, B0⟩
  case round =>
    clear S0 M0 B0 L0
    obtain ⟨j, r, m, L, hj, hmj, hr, rfl, rfl, ⟨aoL, capL, rfl⟩, hM, hL, hshr, hbel⟩ := hrel
    by_cases hjn : j < n
    rotate_left
    · have q3 : decide (j < n) = false := by simpa using hjn
      have hR : R = L := by
        have h1 := hL.out
        rw [List.drop_of_length_le (by have := HN.out; omega)] at h1
        simpa [cutN] using h1
      have HR : Hid (Runs wr (.slice aoL m capL) R) := by unfold Hid; rw [hR]; exact shr_runs hshr.out
      clear hR hL hM
      go_wp2
      go_ret
      exact ⟨_, rfl, HR.out, hbel.out⟩
    have q3 : decide (j < n) = true := by simpa using hjn
    by_cases hr0 : r = 0
    · subst hr0
      have q5 : decide ((0 : Int) < ((0 : Nat) : Int)) = false := rfl
      have hR : R = L := by
        have h1 := hL.out
        rw [cutN_zero] at h1
        simpa using h1
      have HR : Hid (Runs wr (.slice aoL m capL) R) := by unfold Hid; rw [hR]; exact shr_runs hshr.out
      clear hR hL hM
      go_wp2
      go_ret
      exact ⟨_, rfl, HR.out, hbel.out⟩
    have q4 : decide (0 < r) = true := decide_eq_true (by omega)
    have q4' : decide ((0 : Int) < (r : Int)) = true := decide_eq_true (by omega)
    have q6 : (0 : Int) ≤ (j : Int) := by omega
    have q7 : (j : Int) < (n : Int) := by omega
    obtain ⟨b, off, e, hb, h0, h1, h2⟩ := (HV.out wr hbel.out).at j (by rw [← HN.out]; exact hjn)
    subst e
    have hx1 : Go.Proofs.YtdackenaknieaaaGreat.Place.One (p.getD j zrun) := chain_one HC.out (by rw [← HN.out]; exact hjn)
    have hst := cutN_step (r := r) (by rw [← HN.out]; exact hjn) (by omega)
    obtain ⟨x, hx⟩ : ∃ x, p.getD j zrun = x := ⟨_, rfl⟩
    rw [hx] at h0 h1 h2 hx1 hst
    obtain ⟨o1, o2, o3, o4, o5, o6⟩ := hx1
    have hst2 := hL.out.trans (by rw [hst] : L ++ cutN (p.drop j) r = L ++ _)
    have INN : Hid (∀ z : Run, runE.inn w [.int .u32 (z.t : Int), .int .u8 (z.r : Int), .int .i64 z.m] z) := fun z => rfl
    obtain ⟨t, rr, mm, ht, hrr, hmm⟩ := x
    simp only at h0 h1 h2 o1 o2 o3 o4 o5 o6 hst2
    have hne : ¬ b = wr.heap.size := by omega
    clear hst hx hL
    by_cases hle : mm ≤ (r : Int)
    · rw [if_pos hle] at hst2
      obtain ⟨mn, rfl⟩ : ∃ mn : Nat, mm = (mn : Int) := ⟨mm.toNat, by omega⟩
      have d1 : decide ((r : Int) < (mn : Int)) = false := decide_eq_false (by omega)
      have d2 : decide (r < mn) = false := decide_eq_false (by omega)
      have e1 : (r : Int) - (mn : Int) = ((r - mn : Nat) : Int) := by omega
      have e2 : IntKind.i64.wrap ((r : Int) - (mn : Int)) = ((r - mn : Nat) : Int) := by rw [← e1]; exact IntWalk.i64_in _ (by omega)
      have HST : Hid (R = (L ++ [(⟨t, rr, (mn : Int), ht, hrr, hmm⟩ : Run)]) ++ cutN (p.drop (j + 1)) (r - mn)) := by
        unfold Hid
        rw [hst2, List.append_assoc]
        rfl
      have INX : Hid (runE.inn w [.int .u32 (t : Int), .int .u8 (rr : Int), .int .i64 (mn : Int)] (⟨t, rr, (mn : Int), ht, hrr, hmm⟩ : Run)) := INN.out ⟨t, rr, (mn : Int), ht, hrr, hmm⟩
      obtain ⟨X, hX⟩ : ∃ X : Run, (⟨t, rr, (mn : Int), ht, hrr, hmm⟩ : Run) = X := ⟨_, rfl⟩
      rw [hX] at HST INX
      have BL := Lib.hid ((Below.refl wr.heap.size wr).alloc (Nat.le_refl _) (.cells #[.int .u32 (t : Int), .int .u8 (rr : Int), .int .i64 (mn : Int)] 49))
      have SH := Lib.hid (hshr.out.keeps BL.out)
      have BW := Lib.hid (bt hbel.out BL.out)
      have HZ := Lib.hid BW.out.size
      have HG : Hid ((wr.alloc (.cells #[.int .u32 (t : Int), .int .u8 (rr : Int), .int .i64 (mn : Int)] 49)).heap.size = wr.heap.size + 1) := Array.size_push _
      obtain ⟨rn, hrn⟩ : ∃ rn, r - mn = rn := ⟨_, rfl⟩
      rw [hrn] at HST e1 e2
      have hrn5 : rn ≤ 5000 := by omega
      have HLL : Hid (m + 1 = (L ++ [X]).length) := by unfold Hid; rw [List.length_append, List.length_singleton, ← hM.out]
      clear hst2 INN hX o1 o2 o3 o6 hrn
      go_wp2_with (at_builtin; refine wpList_append_enc (E := runE) Tryz.underlying29 run_info rfl (w0 := w) (wp := wr.alloc (.cells #[.int .u32 (t : Int), .int .u8 (rr : Int), .int .i64 (mn : Int)] 49)) (by rfl) (.tmp 32) (.tmp 34) (by rfl) (by rfl) SH.out (G := wr.heap.size + 1) (by rfl) HG.out (c := #[.int .u32 (t : Int), .int .u8 (rr : Int), .int .i64 (mn : Int)]) INX.out hM.out (by omega) (by omega) HZ.out ?_)
      rintro v6 w6 s6 va vc rfl b6
      have S6 := Lib.hid s6
      have B6 := Lib.hid (BW.out.trans b6)
      clear s6 b6 SH BW HZ HG BL h0 h1 h2 hshr hbel
      go_wp2
      go_roundw
      case rel => exact ⟨j + 1, rn, m + 1, L ++ [X], by omega, by omega, hrn5, rfl, by go_num, ⟨va, vc, rfl⟩, HLL, HST, S6, B6⟩
      case measure => simp [intOf]; omega
    · rw [if_neg hle] at hst2
      have d1 : decide ((r : Int) < mm) = true := decide_eq_true (by omega)
      have HST : Hid (R = (L ++ [mkRun t rr (r : Int)]) ++ cutN (p.drop (j + 1)) 0) := by
        unfold Hid
        rw [hst2, cutN_zero, List.append_nil]
      have INX : Hid (runE.inn w [.int .u32 (t : Int), .int .u8 (rr : Int), .int .i64 (r : Int)] (mkRun t rr (r : Int))) := by
        have := INN.out (mkRun t rr (r : Int))
        rw [mkRun_t ht, mkRun_r hrr, mkRun_m (by omega)] at this
        exact this
      obtain ⟨X, hX⟩ : ∃ X : Run, mkRun t rr (r : Int) = X := ⟨_, rfl⟩
      rw [hX] at HST INX
      have BL := Lib.hid ((Below.refl wr.heap.size wr).alloc (Nat.le_refl _) (.cells #[.int .u32 (t : Int), .int .u8 (rr : Int), .int .i64 (r : Int)] 49))
      have SH := Lib.hid (hshr.out.keeps BL.out)
      have BW := Lib.hid (bt hbel.out BL.out)
      have HZ := Lib.hid BW.out.size
      have HG : Hid ((wr.alloc (.cells #[.int .u32 (t : Int), .int .u8 (rr : Int), .int .i64 (r : Int)] 49)).heap.size = wr.heap.size + 1) := Array.size_push _
      have e1 : (r : Int) - (r : Int) = 0 := by omega
      have HLL : Hid (m + 1 = (L ++ [X]).length) := by unfold Hid; rw [List.length_append, List.length_singleton, ← hM.out]
      clear hst2 INN hX o1 o2 o3 o4 o5 o6
      go_wp2_with (at_builtin; refine wpList_append_enc (E := runE) Tryz.underlying29 run_info rfl (w0 := w) (wp := wr.alloc (.cells #[.int .u32 (t : Int), .int .u8 (rr : Int), .int .i64 (r : Int)] 49)) (by rfl) (.tmp 32) (.tmp 34) (by rfl) (by rfl) SH.out (G := wr.heap.size + 1) (by rfl) HG.out (c := #[.int .u32 (t : Int), .int .u8 (rr : Int), .int .i64 (r : Int)]) INX.out hM.out (by omega) (by omega) HZ.out ?_)
      rintro v6 w6 s6 va vc rfl b6
      have S6 := Lib.hid s6
      have B6 := Lib.hid (BW.out.trans b6)
      clear s6 b6 SH BW HZ HG BL h0 h1 h2 hshr hbel
      go_wp2
      go_roundw
      case rel => exact ⟨j + 1, 0, m + 1, L ++ [X], by omega, by omega, by omega, rfl, by go_num, ⟨va, vc, rfl⟩, HLL, HST, S6, B6⟩
      case measure => simp [intOf]; omega
end Go.Proofs.YtdackenaknieaaaGreat.Covers
