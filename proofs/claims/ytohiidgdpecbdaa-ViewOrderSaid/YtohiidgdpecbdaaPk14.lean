/- octavo/cover.chosen, Homed, Counts, Version: what each answers. Conditions: the slice's cells are operations. -/
import Derived.Shelf.Abstract
import Derived.Deep.DrawnRows
import Derived.Test.YtohiidgdpecbdaaShelf
import Derived.Lib.OthersKept
import Derived.LoopTactic
import Derived.Deep.LoopGhost
import Derived.Laws.AppendOwnNone
import Derived.WideShapes
import Derived.IntWalk
import Derived.Test.YtohiidgdpecbdaaChecked
import Derived.WalkKit
import Derived.BigCall
import Derived.Lib.Hide
import Derived.Test.YtohiidgdpecbdaaPk10
import Derived.Test.YtohiidgdpecbdaaPk13
import Derived.Test.YtohiidgdpecbdaaPk05
import Derived.Test.YtohiidgdpecbdaaPk08
import Derived.Test.YtohiidgdpecbdaaPk09
import Derived.Test.YtohiidgdpecbdaaPk06
import Derived.Test.YtohiidgdpecbdaaPk07
import Derived.Test.YtohiidgdpecbdaaPk01

namespace Go.Proofs.Ytohiidgdpecbdaa.Covers
open Go.RowKit Go.WideShapes Stamp Go.Proofs.Ytohiidgdpecbdaa.Place Ops Codes Bags Marks Homes
attribute [local go_sem ↓] Go.wp_at_zero Go.wp_at_succ
attribute [local go_sem] yielded_undef

/-- What a choice answers, asked of content of the bag. -/
def Asks (f : Nat) (l : List Opn) (s : Id) (Q : Opn → Bool) : Prop := ∀ (W : World) (va vb u : Value) (g b n : Nat) (o : Opn), o ∈ l → Runs W va (fromL l s) → Runs W vb (toL l s) → Runs W u o.pl → SetI W b n (hasO l) → W.cell? ⟨g, 0, none⟩ = some (.map (some b)) → g < W.heap.size →
  Calls Try.prog f #[.agg #[va, vb, .func (.func 94) #[] #[.pointer (some ⟨g, 0, none⟩)]], opv o u] W fun e w' => e = .returned (.bool (Q o)) ∧ Below W.heap.size W w'
set_option maxRecDepth 100000 in
set_option maxHeartbeats 8000000 in
theorem chosen_any {v0 : Value} {l : List Opn} (s : Id) (f : Nat) (eg : ∀ args w, (callFunc f args).run Try.prog w = .ok (.enter f args) w) (Q : Opn → Bool) {w : World} (hv : OpL w v0 l) (hQ : spanE l s = 0 → Asks f l s Q) :
    Calls Try.prog 48 #[v0, .agg #[.int .u32 (s.t : Int), .int .u8 (s.r : Int)], .func (.func f) #[] #[]] w (DoneN (if spanE l s = 0 then l.filter (fun o => contB o && Q o) else []) (spanE l s) w) := by
  obtain ⟨ao, cap, rfl⟩ := hv.shape
  obtain ⟨n, hn⟩ : ∃ n, n = l.length := ⟨_, rfl⟩
  have HV : Hid (∀ W : World, Below w.heap.size w W → OpL W (.slice ao l.length cap) l) := fun W h => hv.keeps h
  have HN := Lib.hid hn
  have B0 : Hid (Below w.heap.size w (w.alloc (.cells #[.int .u32 (s.t : Int), .int .u8 (s.r : Int)] 29))) := (Below.refl _ _).alloc (Nat.le_refl _) _
  have SP : Hid (Calls Try.prog 63 #[.slice ao n cap, .agg #[.int .u32 (s.t : Int), .int .u8 (s.r : Int)]] (w.alloc (.cells #[.int .u32 (s.t : Int), .int .u8 (s.r : Int)] 29)) (TwoR (fromL l s) (toL l s) (spanE l s) (w.alloc (.cells #[.int .u32 (s.t : Int), .int .u8 (s.r : Int)] 29)))) := by
    have := hSpan_any s (hv.keeps B0.out)
    rwa [← hn] at this
  have hcs := spanE_cases l s
  by_cases hE : spanE l s = 0
  rotate_left
  · obtain ⟨c, hc⟩ : ∃ c, spanE l s = c := ⟨_, rfl⟩
    rw [hc] at hE hcs SP ⊢
    rw [if_neg hE, ← hn]
    have q1 : (c != 0) = true := by simpa using hE
    have q2 : decide (c = 0) = false := decide_eq_false hE
    obtain ⟨st, sr, hst, hsr⟩ := s
    simp only at SP B0 ⊢
    clear hv hn HV HN hcs hQ hc
    go_enter Try.func48, Try.ntmps48
    go_wp2_with fail
    refine SP.out.mono ?_
    rintro e w1 ⟨va, vb, rfl, h1, h2, b1⟩
    have B1 := Lib.hid (bt B0.out b1)
    clear h1 h2 b1 SP B0
    go_wp2
    go_ret2
    exact ⟨_, rfl, OwnL.nil _ _, B1.out⟩
  have hbag := (spanE_zero.1 hE).1
  have ASK : Hid (Asks f l s Q) := hQ hE
  rw [if_pos hE]
  rw [hE] at SP ⊢
  have hnm : n ≤ 1024 := by rw [hn]; exact hbag.1
  have HP : Hid (∀ o ∈ l, o.pl.length ≤ 8796093022208) := (bag_fits hbag).2
  have AS : Hid (∀ W : World, Below w.heap.size w W → Calls Try.prog 64 #[.slice ao n cap] W fun e w' => ∃ g b n, e = .returned (.func (.func 94) #[] #[.pointer (some ⟨g, 0, none⟩)]) ∧ g < w'.heap.size ∧ w'.cell? ⟨g, 0, none⟩ = some (.map (some b)) ∧ SetI w' b n (hasO l) ∧ Below W.heap.size W w') := fun W h => by
    have := asking_any (hv.keeps h) hbag.1
    rwa [← hn] at this
  rw [← hn]
  obtain ⟨st, sr, hst, hsr⟩ := s
  simp only at SP B0 ⊢
  obtain ⟨F, hF⟩ : ∃ F, fromL l ⟨st, sr, hst, hsr⟩ = F := ⟨_, rfl⟩
  obtain ⟨T, hT⟩ : ∃ T, toL l ⟨st, sr, hst, hsr⟩ = T := ⟨_, rfl⟩
  have AK : Hid (∀ (W : World) (va vb u : Value) (g b n : Nat) (o : Opn), o ∈ l → Runs W va F → Runs W vb T → Runs W u o.pl → SetI W b n (hasO l) → W.cell? ⟨g, 0, none⟩ = some (.map (some b)) → g < W.heap.size →
      Calls Try.prog f #[.agg #[va, vb, .func (.func 94) #[] #[.pointer (some ⟨g, 0, none⟩)]], opv o u] W fun e w' => e = .returned (.bool (Q o)) ∧ Below W.heap.size W w') := by
    have := ASK.out
    unfold Asks at this
    rw [hF, hT] at this
    exact this
  rw [hF, hT] at SP
  clear hv hn hcs hQ hbag ASK hE hF hT
  go_enter Try.func48, Try.ntmps48
  go_wp2_with fail
  refine SP.out.mono ?_
  rintro e w1 ⟨va, vb, rfl, h1, h2, b1⟩
  have R1 : Hid (Runs w1 va F) := Runs.own h1
  have R2 : Hid (Runs w1 vb T) := Runs.own h2
  obtain ⟨fo, fc, rfl⟩ := Runs.shape R1.out
  obtain ⟨to', tc, rfl⟩ := Runs.shape R2.out
  obtain ⟨nf, hnf⟩ : ∃ n, F.length = n := ⟨_, rfl⟩
  obtain ⟨nt, hnt⟩ : ∃ n, T.length = n := ⟨_, rfl⟩
  rw [hnf] at R1 ⊢
  rw [hnt] at R2 ⊢
  have B1 := Lib.hid (bt B0.out b1)
  clear h1 h2 b1 SP B0 hnf hnt
  go_wp2_with fail
  refine (AS.out _ B1.out).mono ?_
  rintro e w2 ⟨g, b, n0, rfl, hg, hc, hs, b2⟩
  have R3 := Lib.hid (R1.out.keeps b2)
  have R4 := Lib.hid (R2.out.keeps b2)
  have B2 := Lib.hid (bt B1.out b2)
  obtain ⟨wm, hwm⟩ : ∃ wm, w2.alloc (.cells #[.slice fo nf fc, .slice to' nt tc, .func (.func 94) #[] #[.pointer (some ⟨g, 0, none⟩)]] 102) = wm := ⟨_, rfl⟩
  have BM : Hid (Below w2.heap.size w2 wm) := by rw [← hwm]; exact (Below.refl _ _).alloc (Nat.le_refl _) _
  have XM : Hid (wm.heap[w2.heap.size]? = some (.cells #[.slice fo nf fc, .slice to' nt tc, .func (.func 94) #[] #[.pointer (some ⟨g, 0, none⟩)]] 102)) := by rw [← hwm]; exact blk_new rfl
  have HWM := Lib.hid hwm
  have S0 : Hid (SetI wm b n0 (hasO l)) := hs.keeps BM.out
  have C0 : Hid (wm.cell? ⟨g, 0, none⟩ = some (.map (some b))) := (BM.out.cell (p := ⟨g, 0, none⟩) hg).trans hc
  have G0 : Hid (g < wm.heap.size) := Nat.lt_of_lt_of_le hg BM.out.size
  have AX : Hid (∀ (W : World) (u : Value) (o : Opn), Below wm.heap.size wm W → o ∈ l → Runs W u o.pl → Calls Try.prog f #[.agg #[.slice fo nf fc, .slice to' nt tc, .func (.func 94) #[] #[.pointer (some ⟨g, 0, none⟩)]], opv o u] W fun e w' => e = .returned (.bool (Q o)) ∧ Below W.heap.size W w') := fun W u o h1 h2 h3 =>
    AK.out W _ _ u g b n0 o h2 (R3.out.keeps (bt BM.out h1)) (R4.out.keeps (bt BM.out h1)) h3 (S0.out.keeps h1) ((h1.cell (p := ⟨g, 0, none⟩) G0.out).trans C0.out) (Nat.lt_of_lt_of_le G0.out h1.size)
  have B3 : Hid (Below w.heap.size w wm) := bt B2.out BM.out
  have HZ : Hid (w2.heap.size < wm.heap.size) := (Array.getElem?_eq_some_iff.1 XM.out).1
  have L2 : Hid (OwnL wm wm.heap.size (.slice none 0 0) ((l.take 0).filter (fun o => contB o && Q o))) := OwnL.nil _ _
  have M2 : Hid (0 = ((l.take 0).filter (fun o => contB o && Q o)).length) := rfl
  have Z2 : Hid (Below wm.heap.size wm wm) := Below.refl _ _
  clear b2 hg hc hs hwm R1 R2 R3 R4 B1 B2 S0 C0 G0 AK AS BM
  go_wp2
  rw [HWM.out]
  go_loopw [12, 32] (fun v i wr => ∃ j m : Nat, j ≤ n ∧ i = .int .i64 (j : Int) ∧ m ≤ j ∧ (∃ ao cap, v = .slice ao m cap) ∧ Hid (m = ((l.take j).filter (fun o => contB o && Q o)).length) ∧ Hid (OwnL wr wm.heap.size v ((l.take j).filter (fun o => contB o && Q o))) ∧ Hid (Below wm.heap.size wm wr)) (fun _ i _ => n - (intOf i).toNat)
  case atStart => exact ⟨0, 0, by omega, rfl, by omega, ⟨none, 0, rfl⟩, M2, L2, Z2⟩
  case round =>
    clear M2 L2 Z2 HWM
    obtain ⟨j, m, hj, rfl, hmj, ⟨aoL, capL, rfl⟩, HM, hown, hbm⟩ := hrel
    have hbel : Hid (Below w.heap.size w wr) := bt B3.out hbm.out
    by_cases hjn : j < n
    rotate_left
    · have q3 : decide (j < n) = false := by simpa using hjn
      have hkk : l.take j = l := List.take_of_length_le (by have := HN.out; omega)
      rw [hkk] at hown
      clear hkk
      go_wp2
      go_ret2
      exact ⟨_, rfl, hown.out.base B3.out.size, hbel.out⟩
    have q3 : decide (j < n) = true := by simpa using hjn
    have q4 : (0 : Int) ≤ (j : Int) := by omega
    have q5 : (j : Int) < (n : Int) := by omega
    have hjl : j < l.length := by rw [← HN.out]; exact hjn
    obtain ⟨bb, oo, u, e, hbb, hru, h0, h1, h2, h3, h4⟩ := opl_at (HV.out wr hbel.out) j hjl
    subst e
    obtain ⟨x, hx⟩ : ∃ x, x = l[j]'hjl := ⟨_, rfl⟩
    rw [← hx] at hru h0 h1 h2 h4
    have HO : Hid (∀ v : Value, opv x v = .agg #[.int .u8 (x.k : Int), .int .u32 (x.t : Int), .int .u8 (x.r : Int), v, .int .i64 x.p]) := fun v => rfl
    obtain ⟨uo, uc, rfl⟩ := hru.shape
    obtain ⟨nu, hnu⟩ : ∃ n, n = x.pl.length := ⟨_, rfl⟩
    have HNU := Lib.hid hnu
    rw [← hnu] at hru h3
    clear hnu
    have hxl : x ∈ l := by rw [hx]; exact List.getElem_mem hjl
    have hpx : x.pl.length ≤ 8796093022208 := HP.out x hxl
    have FT : Hid ((l.take (j + 1)).filter (fun o => contB o && Q o) = (l.take j).filter (fun o => contB o && Q o) ++ (if (contB x && Q x) = true then [x] else [])) := by
      unfold Hid
      rw [List.take_succ_eq_append_getElem hjl, List.filter_append, hx]
      congr 1
      simp [List.filter_cons]
    obtain ⟨L, hL⟩ : ∃ z, (l.take j).filter (fun o => contB o && Q o) = z := ⟨_, rfl⟩
    rw [hL] at HM hown FT
    have CO : Hid (∀ W : World, Calls Try.prog 65 #[opv x (.slice uo nu uc)] W fun e w' => e = .returned (.bool (contB x)) ∧ Below W.heap.size W w') := fun W => oContent_any W
    have CH : Hid (∀ W : World, Below wr.heap.size wr W → Calls Try.prog f #[.agg #[.slice fo nf fc, .slice to' nt tc, .func (.func 94) #[] #[.pointer (some ⟨g, 0, none⟩)]], opv x (.slice uo nu uc)] W fun e w' => e = .returned (.bool (Q x)) ∧ Below W.heap.size W w') := fun W h => AX.out W _ x (bt hbm.out h) hxl (by rw [HNU.out]; rw [HNU.out] at hru; exact hru.keeps h)
    have TW : Hid (∀ W : World, Below wr.heap.size wr W → Calls Try.prog 45 #[opv x (.slice uo nu uc)] W fun e w' => ∃ ao cap, e = .returned (opv x (.slice ao nu cap)) ∧ w'.ownsRow wm.heap.size 31 3 (.slice ao nu cap) x.pl.length (runs x.pl) ∧ Below W.heap.size W w') := fun W hW => by
      refine (oTwin_any (hru.keeps hW) hpx).mono ?_
      rintro e w' ⟨v', rfl, ho, hb⟩
      obtain ⟨ao', cap', rfl⟩ : ∃ ao cap, v' = .slice ao x.pl.length cap := Sees.shape (Sees.own ho)
      rw [← HNU.out] at ho ⊢
      exact ⟨ao', cap', rfl, op_base ho (Nat.le_trans hbm.out.size hW.size), hb⟩
    clear hx hru hpx hL hxl
    obtain ⟨k, hk⟩ : ∃ z, x.k = z := ⟨_, rfl⟩
    obtain ⟨t, ht⟩ : ∃ z, x.t = z := ⟨_, rfl⟩
    obtain ⟨r, hr⟩ : ∃ z, x.r = z := ⟨_, rfl⟩
    obtain ⟨p, hp⟩ : ∃ z, x.p = z := ⟨_, rfl⟩
    rw [hk, ht, hr, hp] at HO
    rw [hk] at h0
    rw [ht] at h1
    rw [hr] at h2
    rw [hp] at h4
    simp only [HO.out] at TW CO CH
    have HFV : Hid (∀ v : Value, [.int .u8 (k : Int), .int .u32 (t : Int), .int .u8 (r : Int), v, .int .i64 p] = [Value.int .u8 (x.k : Int), .int .u32 (x.t : Int), .int .u8 (x.r : Int), v, .int .i64 x.p]) := fun v => by rw [hk, ht, hr, hp]
    obtain ⟨qc, hqc⟩ : ∃ q, contB x = q := ⟨_, rfl⟩
    rw [hqc] at CO FT
    obtain ⟨q, hq⟩ : ∃ q, Q x = q := ⟨_, rfl⟩
    rw [hq] at CH FT
    have BL : Hid (Below wr.heap.size wr (wr.alloc (.cells #[.int .u8 (k : Int), .int .u32 (t : Int), .int .u8 (r : Int), .slice uo nu uc, .int .i64 p] 54))) := (Below.refl _ _).alloc (Nat.le_refl _) _
    have SK : Hid (∀ W : World, Below (wr.alloc (.cells #[.int .u8 (k : Int), .int .u32 (t : Int), .int .u8 (r : Int), .slice uo nu uc, .int .i64 p] 54)).heap.size (wr.alloc (.cells #[.int .u8 (k : Int), .int .u32 (t : Int), .int .u8 (r : Int), .slice uo nu uc, .int .i64 p] 54)) W → (W.cell? ⟨wr.heap.size, 0, none⟩ = some (.int .u8 (k : Int)) ∧ W.cell? ⟨wr.heap.size, 1, none⟩ = some (.int .u32 (t : Int)) ∧ W.cell? ⟨wr.heap.size, 2, none⟩ = some (.int .u8 (r : Int)) ∧ W.cell? ⟨wr.heap.size, 3, none⟩ = some (.slice uo nu uc) ∧ W.cell? ⟨wr.heap.size, 4, none⟩ = some (.int .i64 p)) ∧ W.cell? ⟨w2.heap.size, 0, none⟩ = some (.slice fo nf fc) ∧ W.cell? ⟨w2.heap.size, 1, none⟩ = some (.slice to' nt tc) ∧ W.cell? ⟨w2.heap.size, 2, none⟩ = some (.func (.func 94) #[] #[.pointer (some ⟨g, 0, none⟩)])) := fun W h => by
      have g1 := blk_below h (blk_below BL.out (blk_below hbm.out XM.out))
      exact ⟨five_cells h, cell_of_row _ _ 0 _ _ _ g1, cell_of_row _ _ 1 _ _ _ g1, cell_of_row _ _ 2 _ _ _ g1⟩
    clear hk ht hr hp HO hqc hq
    cases qc
    · have FT2 : Hid ((l.take (j + 1)).filter (fun o => contB o && Q o) = L) := by unfold Hid; rw [FT.out]; simp
      clear FT TW HFV SK CH
      go_wp2_with fail
      refine (CO.out _).mono ?_
      rintro e w5 ⟨rfl, b5⟩
      have B5 := Lib.hid (bt BL.out b5)
      clear b5
      have L5 := Lib.hid (hown.out.keeps B5.out)
      have B6 := Lib.hid (bt hbm.out B5.out)
      rw [← FT2.out] at L5 HM
      clear hown
      go_wp2
      go_roundw
      case rel => exact ⟨j + 1, m, by omega, by go_num, by omega, ⟨aoL, capL, rfl⟩, HM, L5, B6⟩
      case measure => simp [intOf]; omega
    cases q
    · have FT2 : Hid ((l.take (j + 1)).filter (fun o => contB o && Q o) = L) := by unfold Hid; rw [FT.out]; simp
      clear FT TW HFV
      go_wp2_with fail
      refine (CO.out _).mono ?_
      rintro e w4 ⟨rfl, b4⟩
      have B4 := Lib.hid (bt BL.out b4)
      obtain ⟨⟨g0, g1, g2, g3, g4⟩, f0, f1, f2⟩ := SK.out _ b4
      clear b4 SK h0 h1 h2 h3 h4
      go_wp2_with fail
      refine (CH.out _ B4.out).mono ?_
      rintro e w5 ⟨rfl, b5⟩
      have B5 := Lib.hid (bt B4.out b5)
      clear b5 g0 g1 g2 g3 g4 f0 f1 f2
      have L5 := Lib.hid (hown.out.keeps B5.out)
      have B6 := Lib.hid (bt hbm.out B5.out)
      rw [← FT2.out] at L5 HM
      clear hown
      go_wp2
      go_roundw
      case rel => exact ⟨j + 1, m, by omega, by go_num, by omega, ⟨aoL, capL, rfl⟩, HM, L5, B6⟩
      case measure => simp [intOf]; omega
    have FT2 : Hid ((l.take (j + 1)).filter (fun o => contB o && Q o) = L ++ [x]) := by unfold Hid; rw [FT.out]; simp
    clear FT
    go_wp2_with fail
    refine (CO.out _).mono ?_
    rintro e w3 ⟨rfl, b3⟩
    have B3' := Lib.hid (bt BL.out b3)
    have BX3 := Lib.hid b3
    obtain ⟨⟨g0, g1, g2, g3, g4⟩, f0, f1, f2⟩ := SK.out _ b3
    clear b3 h0 h1 h2 h3 h4
    go_wp2_with fail
    refine (CH.out _ B3'.out).mono ?_
    rintro e w4 ⟨rfl, b4⟩
    have B4 := Lib.hid (bt B3'.out b4)
    clear g0 g1 g2 g3 g4 f0 f1 f2
    obtain ⟨⟨g0, g1, g2, g3, g4⟩, f0, f1, f2⟩ := SK.out _ (bt BX3.out b4)
    clear b4 SK f0 f1 f2 BX3 B3'
    go_wp2_with fail
    refine (TW.out _ B4.out).mono ?_
    rintro e w5 ⟨aoO, capO, rfl, o5, b5⟩
    have B5 := Lib.hid (bt B4.out b5)
    have BW5 := Lib.hid (bt hbel.out B5.out)
    have BM5 := Lib.hid (bt hbm.out B5.out)
    have LL := Lib.hid (hown.out.keeps B5.out)
    obtain ⟨cs, lo, lh⟩ := LL.out
    rw [← HM.out] at lo
    have LO := Lib.hid lo
    have LH := Lib.hid lh
    have PO : Hid (w5.ownsRow wm.heap.size 31 3 (.slice aoO nu capO) x.pl.length (runs x.pl)) := o5
    have SE : Hid (Sees (w5.alloc (.cells #[.int .u8 (k : Int), .int .u32 (t : Int), .int .u8 (r : Int), .slice aoO nu capO, .int .i64 p] 54)) (.slice (some ⟨w5.heap.size, 0, none⟩) 1 1) 5 1 [.int .u8 (k : Int), .int .u32 (t : Int), .int .u8 (r : Int), .slice aoO nu capO, .int .i64 p]) := sees_new w5 [.int .u8 (k : Int), .int .u32 (t : Int), .int .u8 (r : Int), .slice aoO nu capO, .int .i64 p] 5 1 rfl (by omega) 54 (0, 0)
    have OA : Hid ((w5.alloc (.cells #[.int .u8 (k : Int), .int .u32 (t : Int), .int .u8 (r : Int), .slice aoO nu capO, .int .i64 p] 54)).ownsRow wm.heap.size 54 5 (.slice aoL m capL) m cs) := own_stays LO.out ((Below.refl _ _).alloc (Nat.le_refl _) _)
    have FO2 : Hid (∀ z ∈ ([.int .u8 (k : Int), .int .u32 (t : Int), .int .u8 (r : Int), .slice aoO nu capO, .int .i64 p] : List Value), z.oneCell' = true) := by unfold Hid; rw [HFV.out]; exact five_one x _ ⟨_, _, _, rfl⟩
    have bz : Hid (wm.heap.size ≤ (w5.alloc (.cells #[.int .u8 (k : Int), .int .u32 (t : Int), .int .u8 (r : Int), .slice aoO nu capO, .int .i64 p] 54)).heap.size) := by have := BM5.out.size; unfold Hid; simp; omega
    clear o5 b5 lo lh hown hbel LL g0 g1 g2 g3 g4
    go_wp2_with (at_builtin; refine wpList_append_sees rfl (.tmp 44) (.tmp 47) 22 54 rfl Try.underlying22 op_info rfl (by decide) wm.heap.size _ m cs rfl OA.out _ 1 [.int .u8 (k : Int), .int .u32 (t : Int), .int .u8 (r : Int), .slice aoO nu capO, .int .i64 p] rfl SE.out FO2.out ?k1 ?k2 ?k3 ?_)
    case k1 => omega
    case k2 => omega
    case k3 => exact bz.out
    rintro v6 w6 o6 g6 b6
    have L6 : Hid (OwnL w6 wm.heap.size v6 ((l.take (j + 1)).filter (fun o => contB o && Q o))) := by
      have lo2 := LO.out
      have o7 := o6
      rw [HFV.out] at o7
      have po := own_stays PO.out ((Below.refl _ _).alloc (Nat.le_refl _) (.cells #[.int .u8 (k : Int), .int .u32 (t : Int), .int .u8 (r : Int), .slice aoO nu capO, .int .i64 p] 54))
      have gx := g6
      unfold Hid
      rw [FT2.out]
      rw [HM.out] at lo2 gx
      refine OwnL.snoc (W := w5) (W8 := w5.alloc (.cells #[.int .u8 (k : Int), .int .u32 (t : Int), .int .u8 (r : Int), .slice aoO nu capO, .int .i64 p] 54)) (m := m + 1) lo2 LH.out ((Below.refl _ _).alloc (Nat.le_refl _) _) po gx o7 (by rw [HM.out])
    have M6 : Hid (m + 1 = ((l.take (j + 1)).filter (fun o => contB o && Q o)).length) := by unfold Hid; rw [FT2.out, List.length_append, ← HM.out]; rfl
    have B6 : Hid (Below wm.heap.size wm w6) := (BM5.out.alloc BM5.out.size _).trans b6
    obtain ⟨va, vc, rfl⟩ : ∃ ao cap, v6 = .slice ao (m + 1) cap := Sees.shape (Sees.own o6)
    clear o6 g6 b6 OA SE LO LH PO bz
    go_wp2
    go_roundw
    case rel => exact ⟨j + 1, m + 1, by omega, by go_num, by omega, ⟨va, vc, rfl⟩, M6, L6, B6⟩
    case measure => simp [intOf]; omega

/-! ### The calls -/
theorem homed_filter {l : List Opn} {s : Id} (hE : spanE l s = 0) : l.filter (fun o => contB o && homB (fromL l s) (toL l s) o.pl) = inL l (livesM l l) s := by
  unfold inL
  refine List.filter_congr fun o ho => ?_
  rw [homB_is hE (anyB_may (mayO_parts ((spanE_zero.1 hE).1.2.1 o ho)).2.1)]
theorem counts_filter {l : List Opn} {s : Id} (hE : spanE l s = 0) : l.filter (fun o => contB o && (homB (fromL l s) (toL l s) o.pl && isB l (livesM l l) s o)) = countL l (livesM l l) s := by
  unfold countL
  rw [← homed_filter hE, List.filter_filter]
  refine List.filter_congr fun o ho => ?_
  cases contB o <;> cases homB (fromL l s) (toL l s) o.pl <;> cases isB l (livesM l l) s o <;> rfl
set_option maxRecDepth 100000 in
set_option maxHeartbeats 4000000 in
theorem cCounts_any {v : Value} {l : List Opn} (s : Id) {w : World} (hv : OpL w v l) : Calls Try.prog 26 #[v, .agg #[.int .u32 (s.t : Int), .int .u8 (s.r : Int)]] w (DoneN (countsL l s) (spanE l s) w) := by
  have B0 : Hid (Below w.heap.size w (w.alloc (.cells #[.int .u32 (s.t : Int), .int .u8 (s.r : Int)] 29))) := (Below.refl _ _).alloc (Nat.le_refl _) _
  have CH : Hid (Calls Try.prog 48 #[v, .agg #[.int .u32 (s.t : Int), .int .u8 (s.r : Int)], .func (.func 49) #[] #[]] (w.alloc (.cells #[.int .u32 (s.t : Int), .int .u8 (s.r : Int)] 29)) (DoneN (countsL l s) (spanE l s) (w.alloc (.cells #[.int .u32 (s.t : Int), .int .u8 (s.r : Int)] 29)))) := by
    have h := chosen_any s 49 (enters_of Try.func49 (by kernel_rfl) rfl) (fun o => homB (fromL l s) (toL l s) o.pl && isB l (livesM l l) s o) (hv.keeps B0.out) (fun hE => fun W va vb u g b n o ho ha hb hu hs hc hg => counts_any hE ho ha hb hu hs hc hg)
    have e : (if spanE l s = 0 then l.filter (fun o => contB o && (fun o => homB (fromL l s) (toL l s) o.pl && isB l (livesM l l) s o) o) else []) = countsL l s := by
      unfold countsL
      by_cases hE : spanE l s = 0
      · rw [if_pos hE, if_pos hE]; exact counts_filter hE
      · rw [if_neg hE, if_neg hE]
    rwa [e] at h
  obtain ⟨ao, cap, rfl⟩ := hv.shape
  obtain ⟨n, hn⟩ : ∃ n, n = l.length := ⟨_, rfl⟩
  rw [← hn] at CH ⊢
  obtain ⟨R, hR⟩ : ∃ R, countsL l s = R := ⟨_, rfl⟩
  obtain ⟨c, hc⟩ : ∃ c, spanE l s = c := ⟨_, rfl⟩
  rw [hR, hc] at CH ⊢
  obtain ⟨st, sr, hst, hsr⟩ := s
  simp only at CH B0 ⊢
  clear hv hn hR hc
  go_enter Try.func26, Try.ntmps26
  go_wp2_with fail
  refine CH.out.mono ?_
  rintro e w1 ⟨va, rfl, o1, b1⟩
  have B1 := Lib.hid (bt B0.out b1)
  have O1 : Hid (OwnL w1 w.heap.size va R) := o1.base B0.out.size
  clear b1 o1 CH B0
  go_wp2
  go_ret2
  exact ⟨_, rfl, O1.out, B1.out⟩
theorem bag_count {l : List Opn} (h : Bag l) (live : List Opn) (s : Id) : Bag (countL l live s) := ⟨Nat.le_trans (countL_sub l live s).length_le h.1, fun o ho => h.2.1 o ((countL_sub l live s).subset ho), h.2.2.sublist (countL_sub l live s)⟩
end Go.Proofs.Ytohiidgdpecbdaa.Covers

/- octavo/view.Elements: what it answers. Conditions: the slice's cells are operations. -/
namespace Go.Proofs.Ytohiidgdpecbdaa.Views
open Go.RowKit Go.WideShapes Stamp Go.Proofs.Ytohiidgdpecbdaa.Place Ops Codes Bags Marks Homes Covers
attribute [local go_sem ↓] Go.wp_at_zero Go.wp_at_succ
attribute [local go_sem] yielded_undef

theorem ownL_place {w : World} {base n cap bb oo : Nat} {v u : Value} {l : List Opn} (hv : OwnL w base v l) (k : Nat) (h : k < l.length) (e : v = .slice (some ⟨bb, oo, none⟩) n cap) (hc : w.cell? ⟨bb, oo + k * 5 + 3, none⟩ = some u) : w.ownsRow base 31 3 u (l[k]'h).pl.length (runs (l[k]'h).pl) := by
  obtain ⟨g, c2, y, e2, h3, ho⟩ := ownL_at hv k h
  rw [e] at e2
  injection e2 with e2 _ _
  injection e2 with e2
  injection e2 with e3 e4 _
  subst e3 e4
  rw [Nat.zero_add] at hc
  rw [hc] at h3
  injection h3 with h3
  subst h3
  exact ho
set_option maxRecDepth 100000 in
set_option maxHeartbeats 16000000 in
theorem vElements_any {v : Value} {l : List Opn} (s : Id) {w : World} (hv : OpL w v l) : Calls Try.prog 13 #[v, .agg #[.int .u32 (s.t : Int), .int .u8 (s.r : Int)]] w (DoneOE (elmL l s) (spanE l s) w) := by
  have B0 : Hid (Below w.heap.size w (w.alloc (.cells #[.int .u32 (s.t : Int), .int .u8 (s.r : Int)] 29))) := (Below.refl _ _).alloc (Nat.le_refl _) _
  have CC : Hid (Calls Try.prog 26 #[v, .agg #[.int .u32 (s.t : Int), .int .u8 (s.r : Int)]] (w.alloc (.cells #[.int .u32 (s.t : Int), .int .u8 (s.r : Int)] 29)) (DoneN (countsL l s) (spanE l s) (w.alloc (.cells #[.int .u32 (s.t : Int), .int .u8 (s.r : Int)] 29)))) := cCounts_any s (hv.keeps B0.out)
  obtain ⟨ao, cap, rfl⟩ := hv.shape
  obtain ⟨n0, hn0⟩ : ∃ n, n = l.length := ⟨_, rfl⟩
  rw [← hn0] at CC ⊢
  by_cases hE : spanE l s = 0
  rotate_left
  · have e1 : elmL l s = [] := elm_no hE
    rw [e1]
    obtain ⟨c, hc⟩ : ∃ c, spanE l s = c := ⟨_, rfl⟩
    obtain ⟨R, hR⟩ : ∃ R, countsL l s = R := ⟨_, rfl⟩
    rw [hc] at hE CC ⊢
    rw [hR] at CC
    have q1 : (c != 0) = true := by simpa using hE
    have q2 : decide (c = 0) = false := decide_eq_false hE
    obtain ⟨st, sr, hst, hsr⟩ := s
    simp only at CC B0 ⊢
    clear hv hn0 hc hR e1
    go_enter Try.func13, Try.ntmps13
    go_wp2_with fail
    refine CC.out.mono ?_
    rintro e w1 ⟨va, rfl, o1, b1⟩
    have B1 := Lib.hid (bt B0.out b1)
    clear o1 b1 CC B0
    go_wp2
    go_ret2
    exact ⟨_, rfl, OwnE.nil _ _, B1.out⟩
  have hbag : Bag (countsL l s) := by
    unfold countsL
    rw [if_pos hE]
    exact bag_count (spanE_zero.1 hE).1 _ _
  rw [hE] at CC ⊢
  unfold elmL
  obtain ⟨C, hC⟩ : ∃ C, countsL l s = C := ⟨_, rfl⟩
  rw [hC] at CC hbag ⊢
  have TA : Hid (∀ (W : World) (y : Value), OpL W y C → Calls Try.prog 27 #[y] W fun e w' => e = .returned (.map (some W.heap.size)) ∧ SetI w' W.heap.size C.length (goneM C) ∧ Below W.heap.size W w') := fun W y h => takenAway_any h hbag.2.1 hbag.1
  have SO : Hid (∀ (W : World) (v : Value) (base : Nat), OwnE W base v (pickE C C) → Calls Try.prog 28 #[v, .func (.func 29) #[] #[]] W fun e w' => e = .returned (.tuple #[]) ∧ OwnE w' base v (seenM C) ∧ Below base W w') := fun W v base h => by
    refine (sortE_any h (fun o ho => anyB_may (mayO_parts (hbag.2.1 o (mem_pickE.1 ho).1)).2.1) (by have h1 := hbag.1; have h2 : (pickE C C).length ≤ C.length := List.length_filter_le _ _; omega)).mono ?_
    rintro e w' ⟨rfl, l', h1, h2, h3, h4⟩
    rw [pickE_is hbag.2.1 hbag.2.2 h1 h2]
    exact ⟨rfl, h3, h4⟩
  obtain ⟨R, hR⟩ : ∃ z, seenM C = z := ⟨_, rfl⟩
  rw [hR] at SO ⊢
  have hnm : C.length ≤ 1024 := hbag.1
  obtain ⟨n, hn⟩ : ∃ n, n = C.length := ⟨_, rfl⟩
  have HN := Lib.hid hn
  rw [← hn] at hnm TA
  obtain ⟨st, sr, hst, hsr⟩ := s
  simp only at CC B0 ⊢
  clear hv hn0 hbag hE hC hR hn
  go_enter Try.func13, Try.ntmps13
  go_wp2_with fail
  refine CC.out.mono ?_
  rintro e w1 ⟨va, rfl, o1, b1⟩
  have B1 := Lib.hid (bt B0.out b1)
  have O1 : Hid (OwnL w1 w.heap.size va C) := o1.base B0.out.size
  obtain ⟨va0, vc0, rfl⟩ := O1.out.opl.shape
  rw [← HN.out] at O1 ⊢
  clear o1 b1 CC B0
  go_wp2_with fail
  refine (TA.out _ _ O1.out.opl).mono ?_
  rintro e w2 ⟨rfl, s2, b2⟩
  obtain ⟨N, hN⟩ : ∃ N, w1.heap.size = N := ⟨_, rfl⟩
  have hNw : w.heap.size ≤ N := by rw [← hN]; exact B1.out.size
  rw [hN] at s2
  have SM : Hid (∀ W : World, Below w2.heap.size w2 W → SetI W N n (goneM C)) := fun W h => s2.keeps h
  have HV : Hid (∀ W : World, Below w2.heap.size w2 W → OwnL W w.heap.size (.slice va0 n vc0) C) := fun W h => (O1.out.keeps b2).keeps h
  have B2 := Lib.hid (bt B1.out b2)
  have HNW : Hid (w.heap.size ≤ w2.heap.size) := B2.out.size
  have L2 : Hid (TwE w2 w2.heap.size w.heap.size (.slice none 0 0) (pickE C (C.take 0))) := TwE.nil _ _ _
  have M2 : Hid (0 = (pickE C (C.take 0)).length) := rfl
  have Z2 : Hid (Below w2.heap.size w2 w2) := Below.refl _ _
  rw [hN]
  clear s2 b2 hN O1 B1 TA hNw
  go_wp2
  go_loopw [9, 27] (fun v i wr => ∃ j m : Nat, j ≤ n ∧ i = .int .i64 (j : Int) ∧ m ≤ j ∧ (∃ ao cap, v = .slice ao m cap) ∧ Hid (m = (pickE C (C.take j)).length) ∧ Hid (TwE wr w2.heap.size w.heap.size v (pickE C (C.take j))) ∧ Hid (Below w2.heap.size w2 wr)) (fun _ i _ => n - (intOf i).toNat)
  case atStart => exact ⟨0, 0, by omega, rfl, by omega, ⟨none, 0, rfl⟩, M2, L2, Z2⟩
  case round =>
    clear M2 L2 Z2
    obtain ⟨j, m, hj, rfl, hmj, ⟨aoL, capL, rfl⟩, HM, hown, hbm⟩ := hrel
    have hbel : Hid (Below w.heap.size w wr) := bt B2.out hbm.out
    by_cases hjn : j < n
    rotate_left
    · have q3 : decide (j < n) = false := by simpa using hjn
      have hkk : C.take j = C := List.take_of_length_le (by have := HN.out; omega)
      rw [hkk] at hown
      have SX := Lib.hid (SO.out _ _ _ (hown.out.own HNW.out))
      clear hkk SO HV SM hown HM
      go_wp2_with fail
      refine SX.out.mono ?_
      rintro e w3 ⟨rfl, o3, b3⟩
      have O3 := Lib.hid o3
      have B3 : Hid (Below w.heap.size w w3) := hbel.out.trans b3
      clear o3 b3 SX
      go_wp2
      go_ret2
      exact ⟨_, rfl, O3.out, B3.out⟩
    have q3 : decide (j < n) = true := by simpa using hjn
    have q4 : (0 : Int) ≤ (j : Int) := by omega
    have q5 : (j : Int) < (n : Int) := by omega
    have hjl : j < C.length := by rw [← HN.out]; exact hjn
    have OV := HV.out wr hbm.out
    obtain ⟨bb, oo, u, e, hbb, hru, h0, h1, h2, h3, h4⟩ := opl_at (ao := va0) (m := n) (cap := vc0) OV.opl j hjl
    have hrow := ownL_place OV j hjl (by rw [e]) h3
    subst e
    obtain ⟨x, hx⟩ : ∃ x, x = C[j]'hjl := ⟨_, rfl⟩
    rw [← hx] at hru h0 h1 h2 h4 hrow
    obtain ⟨uo, uc, rfl⟩ := hru.shape
    obtain ⟨nu, hnu⟩ : ∃ n, n = x.pl.length := ⟨_, rfl⟩
    have HNU := Lib.hid hnu
    rw [← hnu] at h3 hrow
    clear hnu
    have hst2 : C.take (j + 1) = C.take j ++ [x] := by rw [List.take_succ_eq_append_getElem hjl, hx]
    have FY : Hid (x.k = 1 → goneM C (idO x) = false → pickE C (C.take (j + 1)) = pickE C (C.take j) ++ [x]) := fun h h2 => by rw [hst2]; exact pickE_yes h h2
    have FN : Hid (¬ (x.k = 1 ∧ goneM C (idO x) = false) → pickE C (C.take (j + 1)) = pickE C (C.take j)) := fun h => by rw [hst2]; exact pickE_no h
    have BL : Hid (Below wr.heap.size wr (wr.alloc (.cells #[.int .u8 (x.k : Int), .int .u32 (x.t : Int), .int .u8 (x.r : Int), .slice uo nu uc, .int .i64 x.p] 54))) := (Below.refl _ _).alloc (Nat.le_refl _) _
    obtain ⟨D, d1, d2⟩ := SM.out _ (bt hbm.out BL.out)
    obtain ⟨vv, ps, hrun, hvv⟩ := d1.look_ok idLaw Try.underlying72 (Covers.ZU _) unitElem_mk (key_of (idO x))
    obtain ⟨rfl, _⟩ := unitElem_inv hvv
    rw [d2 (idO x)] at hrun
    unfold idv at hrun
    obtain ⟨q, hq⟩ : ∃ q, goneM C (idO x) = q := ⟨_, rfl⟩
    rw [hq] at hrun FY FN
    rw [show (idO x).t = x.t from rfl, show (idO x).r = x.r from rfl] at hrun
    have HRW := Lib.hid hrow
    clear hru hx hrow d1 d2 hvv hst2 hq
    obtain ⟨k, hk⟩ : ∃ z, x.k = z := ⟨_, rfl⟩
    obtain ⟨t, ht⟩ : ∃ z, x.t = z := ⟨_, rfl⟩
    obtain ⟨r, hr⟩ : ∃ z, x.r = z := ⟨_, rfl⟩
    obtain ⟨p, hp⟩ : ∃ z, x.p = z := ⟨_, rfl⟩
    have HFV : Hid (∀ v : Value, [.int .u32 (t : Int), .int .u8 (r : Int), v, .int .i64 p] = [Value.int .u32 (x.t : Int), .int .u8 (x.r : Int), v, .int .i64 x.p]) := fun v => by rw [ht, hr, hp]
    rw [hk, ht, hr, hp] at hrun BL
    rw [hk] at h0 FY FN
    rw [ht] at h1
    rw [hr] at h2
    rw [hp] at h4
    have BM : Hid (Below wr.heap.size wr ((wr.alloc (.cells #[.int .u8 (k : Int), .int .u32 (t : Int), .int .u8 (r : Int), .slice uo nu uc, .int .i64 p] 54)).alloc (.cells #[] 74))) := BL.out.alloc (by simp) _
    have L5 := Lib.hid (hown.out.keeps BM.out)
    have B5 := Lib.hid (bt hbm.out BM.out)
    clear hk ht hr hp BL
    by_cases hk1 : k = 1
    rotate_left
    · have qk : ((k : Int) == 1) = false := by simp; omega
      have qk2 : decide ((k : Int) = 1) = false := decide_eq_false (by omega)
      have FT := Lib.hid (FN.out (fun h => hk1 h.1))
      rw [← FT.out] at L5 HM
      clear FY FN FT hk1 SO HV SM HRW HFV hown hbel hbb
      go_wp2
      go_roundw
      case rel => exact ⟨j + 1, m, by omega, by go_num, by omega, ⟨aoL, capL, rfl⟩, HM, L5, B5⟩
      case measure => simp [intOf]; omega
    subst hk1
    have e1 : ((1 : Nat) : Int) = 1 := rfl
    rw [e1] at h0 hrun BM L5 B5
    clear e1
    cases q
    rotate_left
    · have FT := Lib.hid (FN.out (by simp))
      rw [← FT.out] at L5 HM
      clear FY FN FT SO HV SM HRW HFV hown hbel hbb
      go_wp2
      go_roundw
      case rel => exact ⟨j + 1, m, by omega, by go_num, by omega, ⟨aoL, capL, rfl⟩, HM, L5, B5⟩
      case measure => simp [intOf]; omega
    have FT := Lib.hid (FY.out (by first | trivial | rfl) (by first | trivial | rfl))
    clear FY FN L5 B5 SO HV SM hbel
    obtain ⟨WM, hWM⟩ : ∃ z, (wr.alloc (.cells #[.int .u8 1, .int .u32 (t : Int), .int .u8 (r : Int), .slice uo nu uc, .int .i64 p] 54)).alloc (.cells #[] 74) = z := ⟨_, rfl⟩
    have hsz : WM.heap.size = wr.heap.size + 1 + 1 := by rw [← hWM]; simp
    rw [hWM] at BM
    have BE : Hid (Below wr.heap.size wr (WM.alloc (.cells #[.int .u32 (t : Int), .int .u8 (r : Int), .slice uo nu uc, .int .i64 p] 34))) := BM.out.alloc (by omega) _
    have SE : Hid (Sees (WM.alloc (.cells #[.int .u32 (t : Int), .int .u8 (r : Int), .slice uo nu uc, .int .i64 p] 34)) (.slice (some ⟨wr.heap.size + 1 + 1, 0, none⟩) 1 1) 4 1 [.int .u32 (t : Int), .int .u8 (r : Int), .slice uo nu uc, .int .i64 p]) := by
      have := sees_new WM [.int .u32 (t : Int), .int .u8 (r : Int), .slice uo nu uc, .int .i64 p] 4 1 rfl (by omega) 34 (0, 0)
      rwa [hsz] at this
    have HW3 : Hid (∃ z, WM.alloc (.cells #[.int .u32 (t : Int), .int .u8 (r : Int), .slice uo nu uc, .int .i64 p] 34) = z) := ⟨_, rfl⟩
    obtain ⟨cs, lo, lh⟩ := hown.out
    rw [← HM.out] at lo
    have LO := Lib.hid lo
    have LH := Lib.hid lh
    have OA : Hid ((WM.alloc (.cells #[.int .u32 (t : Int), .int .u8 (r : Int), .slice uo nu uc, .int .i64 p] 34)).ownsRow w2.heap.size 34 4 (.slice aoL m capL) m cs) := own_stays LO.out BE.out
    have PO : Hid ((WM.alloc (.cells #[.int .u32 (t : Int), .int .u8 (r : Int), .slice uo nu uc, .int .i64 p] 34)).ownsRow w.heap.size 31 3 (.slice uo nu uc) x.pl.length (runs x.pl)) := by unfold Hid; rw [← HNU.out]; exact own_stays HRW.out BE.out
    have FO2 : Hid (∀ z ∈ ([.int .u32 (t : Int), .int .u8 (r : Int), .slice uo nu uc, .int .i64 p] : List Value), z.oneCell' = true) := by unfold Hid; rw [HFV.out]; exact four_one x _ ⟨_, _, _, rfl⟩
    have bz : Hid (w2.heap.size ≤ (WM.alloc (.cells #[.int .u32 (t : Int), .int .u8 (r : Int), .slice uo nu uc, .int .i64 p] 34)).heap.size) := Nat.le_trans hbm.out.size BE.out.size
    subst hWM
    clear lo lh hown HW3 HRW hsz hbb BM
    go_wp2_with (at_builtin; refine wpList_append_sees rfl (.tmp 45) (.tmp 53) 44 34 rfl Try.underlying44 elm_info rfl (by decide) w2.heap.size _ m cs rfl OA.out _ 1 [.int .u32 (t : Int), .int .u8 (r : Int), .slice uo nu uc, .int .i64 p] rfl SE.out FO2.out ?k1 ?k2 ?k3 ?_)
    case k1 => omega
    case k2 => omega
    case k3 => exact bz.out
    rintro v6 w6 o6 g6 b6
    have L6 : Hid (TwE w6 w2.heap.size w.heap.size v6 (pickE C (C.take (j + 1)))) := by
      have lo2 := LO.out
      have o7 := o6
      rw [HFV.out] at o7
      have gx := g6
      unfold Hid
      rw [FT.out]
      rw [HM.out] at lo2 gx
      exact TwE.snoc (m := m + 1) lo2 LH.out BE.out PO.out gx o7 (by rw [HM.out])
    have M6 : Hid (m + 1 = (pickE C (C.take (j + 1))).length) := by unfold Hid; rw [FT.out, List.length_append, ← HM.out]; rfl
    have B6 : Hid (Below w2.heap.size w2 w6) := (bt hbm.out BE.out).trans b6
    obtain ⟨va, vc, rfl⟩ : ∃ ao cap, v6 = .slice ao (m + 1) cap := Sees.shape (Sees.own o6)
    clear o6 g6 b6 OA SE LO LH PO bz
    go_wp2
    go_roundw
    case rel => exact ⟨j + 1, m + 1, by omega, by go_num, by omega, ⟨va, vc, rfl⟩, M6, L6, B6⟩
    case measure => simp [intOf]; omega
end Go.Proofs.Ytohiidgdpecbdaa.Views

/- octavo/view.Offset: its closure, and the search. Conditions: elements in order, a place that may be, or the beginning. -/
namespace Go.Proofs.Ytohiidgdpecbdaa.Views
open Go.RowKit Go.WideShapes Stamp Go.Proofs.Ytohiidgdpecbdaa.Place Ops Codes Bags Marks Homes Covers
attribute [local go_sem ↓] Go.wp_at_zero Go.wp_at_succ
attribute [local go_sem] yielded_undef

theorem befM_cons (x : Opn) (c : List Opn) (p : List Run) : befM (x :: c) p = (if Go.Proofs.Ytohiidgdpecbdaa.Place.hold (all x.pl) (all p) < 0 then 1 else 0) + befM c p := by
  unfold befM
  rw [List.filter_cons]
  by_cases h : Go.Proofs.Ytohiidgdpecbdaa.Place.hold (all x.pl) (all p) < 0
  · rw [if_pos (by simpa using h), if_pos h, List.length_cons]; omega
  · rw [if_neg (by simpa using h), if_neg h]; omega
theorem befM_le (c : List Opn) (p : List Run) : befM c p ≤ c.length := List.length_filter_le _ _
theorem bef_iff {p : List Run} : ∀ {c : List Opn}, (∀ o ∈ c, mayO o = true) → c.Pairwise pre → ∀ (i : Nat) (hi : i < c.length), Go.Proofs.Ytohiidgdpecbdaa.Place.hold (all (c[i]'hi).pl) (all p) < 0 ↔ i < befM c p
  | [], _, _, i, hi => by simp at hi
  | a :: c, hm, hs, i, hi => by
    have hs' := List.pairwise_cons.1 hs
    have ih := bef_iff (p := p) (c := c) (fun o ho => hm o (by simp [ho])) hs'.2
    rw [befM_cons]
    by_cases ha : Go.Proofs.Ytohiidgdpecbdaa.Place.hold (all a.pl) (all p) < 0
    · rw [if_pos ha]
      cases i with
      | zero => rw [List.getElem_cons_zero]; exact ⟨fun _ => by omega, fun _ => ha⟩
      | succ i =>
        rw [List.getElem_cons_succ, ih i (by simpa using hi)]
        omega
    · rw [if_neg ha]
      have hn : ∀ y ∈ c, ¬ Go.Proofs.Ytohiidgdpecbdaa.Place.hold (all y.pl) (all p) < 0 := fun y hy h => by
        apply ha
        have h1 := (pre_iff (hm a (by simp)) (hm y (by simp [hy]))).1 (hs'.1 y hy)
        have r1 := hold_range (all a.pl) (all y.pl)
        have r2 := hold_range (all y.pl) (all p)
        have := hold_trans (all a.pl) (all y.pl) (all p) (by omega) (by omega)
        omega
      have h0 : befM c p = 0 := by
        unfold befM
        rw [List.length_eq_zero_iff, List.filter_eq_nil_iff]
        intro y hy
        simpa using hn y hy
      rw [h0]
      cases i with
      | zero => rw [List.getElem_cons_zero]; exact ⟨fun h => absurd h ha, fun h => by omega⟩
      | succ i =>
        rw [List.getElem_cons_succ]
        exact ⟨fun h => absurd h (hn _ (List.getElem_mem _)), fun h => by omega⟩
theorem cmp_hold {x : Opn} {p : List Run} (hx : mayO x = true) (hp : anyB p = true) : cmp x.pl p = Go.Proofs.Ytohiidgdpecbdaa.Place.hold (all x.pl) (all p) := by
  unfold cmp
  exact if_pos ⟨anyB_may (mayO_parts hx).2.1, hp⟩
set_option maxRecDepth 100000 in
set_option maxHeartbeats 4000000 in
theorem vOff1_any {u v : Value} {x : Opn} {p : List Run} {w : World} (hu : Runs w u x.pl) (hv : Runs w v p) :
    Calls Try.prog 20 #[elv x u, v] w fun e w' => e = .returned (.int .i64 (cmp x.pl p)) ∧ Below w.heap.size w w' := by
  have PC : Hid (∀ W : World, Below w.heap.size w W → Calls Try.prog 14 #[u, v] W fun e w' => e = .returned (.int .i64 (cmp x.pl p)) ∧ Below W.heap.size W w') := fun W h => pCompare_any (hu.keeps h) (hv.keeps h)
  have B0 : Hid (Below w.heap.size w (w.alloc (.cells #[.int .u32 (x.t : Int), .int .u8 (x.r : Int), u, .int .i64 x.p] 34))) := (Below.refl _ _).alloc (Nat.le_refl _) _
  obtain ⟨q, hq⟩ : ∃ q, cmp x.pl p = q := ⟨_, rfl⟩
  rw [hq] at PC ⊢
  obtain ⟨uo, uc, rfl⟩ := hu.shape
  obtain ⟨vo, vc, rfl⟩ := hv.shape
  obtain ⟨nu, hnu⟩ : ∃ n, x.pl.length = n := ⟨_, rfl⟩
  obtain ⟨nv, hnv⟩ : ∃ n, p.length = n := ⟨_, rfl⟩
  rw [hnu] at PC B0 ⊢
  rw [hnv] at PC ⊢
  clear hq hu hv hnu hnv
  obtain ⟨k1, t1, r1, l1, p1, hk1, ht1, hr1, hp1⟩ := x
  unfold elv
  simp only at B0 ⊢
  clear hk1 ht1 hr1 hp1
  go_enter Try.func20, Try.ntmps20
  go_wp2_with fail
  refine (PC.out _ B0.out).mono ?_
  rintro e w1 ⟨rfl, b1⟩
  have B1 := Lib.hid (bt B0.out b1)
  clear b1 PC B0
  go_wp2
  go_ret
  exact ⟨rfl, B1.out⟩

set_option maxRecDepth 100000 in
set_option maxHeartbeats 16000000 in
theorem vBin_any {v u : Value} {live : List Opn} {p : List Run} {w : World} (hv : ElL w v live) (hu : Runs w u p) (hl : live.length ≤ 1000000) (hM : ∀ o ∈ live, mayO o = true) (hL : live.Pairwise pre) (hp : anyB p = true) :
    Calls Try.prog 19 #[v, u, .func (.func 20) #[] #[]] w fun e w' => (∃ q : Bool, e = .returned (.tuple #[.int .i64 (befM live p : Int), .bool q])) ∧ Below w.heap.size w w' := by
  obtain ⟨ao, cap, rfl⟩ := hv.shape
  obtain ⟨uo, uc, rfl⟩ := hu.shape
  obtain ⟨n, hn⟩ : ∃ n, n = live.length := ⟨_, rfl⟩
  have HV : Hid (∀ W : World, Below w.heap.size w W → ElL W (.slice ao live.length cap) live) := fun W h => hv.keeps h
  have HN := Lib.hid hn
  have S1 : Hid (∀ (x : Opn) (y : Value) (W : World), x ∈ live → Runs W y x.pl → Below w.heap.size w W → Calls Try.prog 20 #[elv x y, .slice uo p.length uc] W fun e w' => e = .returned (.int .i64 (cmp x.pl p)) ∧ Below W.heap.size W w') := fun x y W hm hy h => vOff1_any hy (hu.keeps h)
  have HLT : Hid (∀ (j : Nat) (h : j < live.length), cmp (live[j]'h).pl p < 0 → j < befM live p) := fun j h hc => by
    rw [cmp_hold (hM _ (List.getElem_mem h)) hp] at hc
    exact (bef_iff hM hL j h).1 hc
  have HGE : Hid (∀ (j : Nat) (h : j < live.length), ¬ cmp (live[j]'h).pl p < 0 → befM live p ≤ j) := fun j h hc => by
    rw [cmp_hold (hM _ (List.getElem_mem h)) hp] at hc
    exact Nat.le_of_not_lt fun h2 => hc ((bef_iff hM hL j h).2 h2)
  have HK := befM_le live p
  obtain ⟨K, hK⟩ : ∃ K, befM live p = K := ⟨_, rfl⟩
  rw [hK] at HLT HGE HK ⊢
  obtain ⟨np, hnp⟩ : ∃ n, p.length = n := ⟨_, rfl⟩
  rw [hnp] at S1 ⊢
  rw [← hn] at hl HK ⊢
  clear hv hn hu hL hM hp hK hnp
  have eg := enters_of Try.func20 (by kernel_rfl) rfl
  have B0 : Hid (Below w.heap.size w w) := Below.refl _ _
  go_enter Try.func19, Try.ntmps19
  go_wp2
  go_loopw [9, 10] (fun x y wr => ∃ lo hi : Nat, x = .int .i64 (lo : Int) ∧ y = .int .i64 (hi : Int) ∧ lo ≤ hi ∧ hi ≤ n ∧ lo ≤ K ∧ K ≤ hi ∧ Hid (Below w.heap.size w wr)) (fun x y _ => (intOf y - intOf x).toNat)
  case atStart => exact ⟨0, n, rfl, rfl, by omega, by omega, by omega, HK, B0⟩
  case round =>
    clear B0
    obtain ⟨lo, hi, rfl, rfl, hlh, hhn, hlow, hhigh, hbel⟩ := hrel
    by_cases hlt : lo < hi
    · obtain ⟨m, hm⟩ : ∃ m, m = (lo + hi) / 2 := ⟨_, rfl⟩
      have em : ((lo : Int) + (hi : Int)) / 2 = (m : Int) := by omega
      have m1 : lo ≤ m := by omega
      have m2 : m < hi := by omega
      have q4 : (0 : Int) ≤ (m : Int) := by omega
      have q5 : (m : Int) < (n : Int) := by omega
      have hml : m < live.length := by rw [← HN.out]; omega
      clear hm
      obtain ⟨bb, oo, u, e, hbb, hru, h0, h1, h2, h3⟩ := el_at (HV.out wr hbel.out) m hml
      cases e
      obtain ⟨x, hx⟩ : ∃ x, x = live[m]'hml := ⟨_, rfl⟩
      rw [← hx] at hru h0 h1 h3
      have HO : Hid (∀ v : Value, elv x v = .agg #[.int .u32 (x.t : Int), .int .u8 (x.r : Int), v, .int .i64 x.p]) := fun v => rfl
      obtain ⟨uo, uc, rfl⟩ := hru.shape
      obtain ⟨nu, hnu⟩ : ∃ n, n = x.pl.length := ⟨_, rfl⟩
      have HNU := Lib.hid hnu
      rw [← hnu] at hru h2
      clear hnu
      have hxm : x ∈ live := by rw [hx]; exact List.getElem_mem _
      have SX := Lib.hid (S1.out x _ wr hxm hru hbel.out)
      obtain ⟨c, hc⟩ : ∃ c, cmp x.pl p = c := ⟨_, rfl⟩
      rw [hc] at SX
      have HLO : Hid (c < 0 → m + 1 ≤ K) := fun h => HLT.out m hml (by rw [← hx, hc]; exact h)
      have HHI : Hid (¬ c < 0 → K ≤ m) := fun h => HGE.out m hml (by rw [← hx, hc]; omega)
      clear hru hx hc hxm
      obtain ⟨t, ht⟩ : ∃ z, x.t = z := ⟨_, rfl⟩
      obtain ⟨r, hr⟩ : ∃ z, x.r = z := ⟨_, rfl⟩
      obtain ⟨p, hp⟩ : ∃ z, x.p = z := ⟨_, rfl⟩
      rw [ht, hr, hp] at HO
      rw [ht] at h0
      rw [hr] at h1
      rw [hp] at h3
      simp only [HO.out] at SX
      clear ht hr hp HO S1 HLT HGE HV hbb
      by_cases hc0 : c < 0
      · have d1 : decide (c < 0) = true := decide_eq_true hc0
        have HN2 := HLO.out hc0
        clear HLO HHI
        go_wp2_with fail
        refine SX.out.mono ?_
        rintro e w1 ⟨rfl, b1⟩
        have BW := Lib.hid (bt hbel.out b1)
        clear b1 SX h0 h1 h2 h3
        go_wp2
        go_roundw
        case rel => exact ⟨m + 1, hi, by go_num, rfl, by omega, hhn, HN2, hhigh, BW⟩
        case measure => simp [intOf]; omega
      · have d1 : decide (c < 0) = false := decide_eq_false hc0
        have HN2 := HHI.out hc0
        clear HLO HHI
        go_wp2_with fail
        refine SX.out.mono ?_
        rintro e w1 ⟨rfl, b1⟩
        have BW := Lib.hid (bt hbel.out b1)
        clear b1 SX h0 h1 h2 h3
        go_wp2
        go_roundw
        case rel => exact ⟨lo, m, rfl, rfl, by omega, by omega, hlow, HN2, BW⟩
        case measure => simp [intOf]; omega
    · obtain rfl : hi = lo := by omega
      obtain rfl : K = hi := by omega
      by_cases hkn : K < n
      rotate_left
      · have q8 : decide (K < n) = false := by simpa using hkn
        clear S1 HLT HGE HV
        go_wp2
        go_ret2
        exact ⟨⟨_, rfl⟩, hbel.out⟩
      have q8 : decide (K < n) = true := by simpa using hkn
      have q4 : (0 : Int) ≤ (K : Int) := by omega
      have q5 : (K : Int) < (n : Int) := by omega
      have hml : K < live.length := by rw [← HN.out]; exact hkn
      obtain ⟨bb, oo, u, e, hbb, hru, h0, h1, h2, h3⟩ := el_at (HV.out wr hbel.out) K hml
      cases e
      obtain ⟨x, hx⟩ : ∃ x, x = live[K]'hml := ⟨_, rfl⟩
      rw [← hx] at hru h0 h1 h3
      have HO : Hid (∀ v : Value, elv x v = .agg #[.int .u32 (x.t : Int), .int .u8 (x.r : Int), v, .int .i64 x.p]) := fun v => rfl
      obtain ⟨uo, uc, rfl⟩ := hru.shape
      obtain ⟨nu, hnu⟩ : ∃ n, n = x.pl.length := ⟨_, rfl⟩
      have HNU := Lib.hid hnu
      rw [← hnu] at hru h2
      clear hnu
      have hxm : x ∈ live := by rw [hx]; exact List.getElem_mem _
      have SX := Lib.hid (S1.out x _ wr hxm hru hbel.out)
      obtain ⟨c, hc⟩ : ∃ c, cmp x.pl p = c := ⟨_, rfl⟩
      rw [hc] at SX
      clear hru hx hc hxm
      obtain ⟨t, ht⟩ : ∃ z, x.t = z := ⟨_, rfl⟩
      obtain ⟨r, hr⟩ : ∃ z, x.r = z := ⟨_, rfl⟩
      obtain ⟨p, hp⟩ : ∃ z, x.p = z := ⟨_, rfl⟩
      rw [ht, hr, hp] at HO
      rw [ht] at h0
      rw [hr] at h1
      rw [hp] at h3
      simp only [HO.out] at SX
      clear ht hr hp HO S1 HLT HGE HV hbb
      by_cases hc0 : c = 0
      · subst hc0
        go_wp2_with fail
        refine SX.out.mono ?_
        rintro e w1 ⟨rfl, b1⟩
        have BW := Lib.hid (bt hbel.out b1)
        clear b1 SX h0 h1 h2 h3
        go_wp2
        go_ret2
        exact ⟨⟨_, rfl⟩, BW.out⟩
      · have d1 : (c == 0) = false := by simpa using hc0
        have d2 : ¬ c = 0 := hc0
        have d3 : decide (c = 0) = false := decide_eq_false hc0
        go_wp2_with fail
        refine SX.out.mono ?_
        rintro e w1 ⟨rfl, b1⟩
        have BW := Lib.hid (bt hbel.out b1)
        clear b1 SX h0 h1 h2 h3
        go_wp2
        go_ret2
        exact ⟨⟨_, rfl⟩, BW.out⟩
end Go.Proofs.Ytohiidgdpecbdaa.Views

/- octavoref15.At: what it answers. Conditions: the slice's cells are operations; the number is one. -/
namespace Go.Proofs.Ytohiidgdpecbdaa.Views
open Go.RowKit Go.WideShapes Stamp Go.Proofs.Ytohiidgdpecbdaa.Place Ops Codes Bags Marks Homes Covers
attribute [local go_sem ↓] Go.wp_at_zero Go.wp_at_succ
attribute [local go_sem] yielded_undef

def put4 (X : World) (g : Nat) (d0 d1 d2 d3 : Value) : World := (((X.setCell ⟨g, 0, none⟩ d0).setCell ⟨g, 1, none⟩ d1).setCell ⟨g, 2, none⟩ d2).setCell ⟨g, 3, none⟩ d3
theorem put4_same {X : World} {g : Nat} {c0 c1 c2 c3 : Value} (d0 d1 d2 d3 : Value) {e : TypeId} (h : X.heap[g]? = some (.cells #[c0, c1, c2, c3] e)) : (put4 X g d0 d1 d2 d3).heap[g]? = some (.cells #[d0, d1, d2, d3] e) := by
  have h0 := heap_setCell_same X g 0 _ _ d0 h
  have h1 := heap_setCell_same _ g 1 _ _ d1 h0
  have h2 := heap_setCell_same _ g 2 _ _ d2 h1
  have h3 := heap_setCell_same _ g 3 _ _ d3 h2
  exact h3
theorem put4_other {X : World} {g k : Nat} (d0 d1 d2 d3 : Value) {o : Obj} (hk : k ≠ g) (h : X.heap[k]? = some o) : (put4 X g d0 d1 d2 d3).heap[k]? = some o := by
  unfold put4
  rw [heap_setCell_other _ _ _ _ hk, heap_setCell_other _ _ _ _ hk, heap_setCell_other _ _ _ _ hk, heap_setCell_other _ _ _ _ hk]
  exact h
theorem put4_below {B g : Nat} {W X : World} (d0 d1 d2 d3 : Value) (hg : B ≤ g) (h : Below B W X) : Below B W (put4 X g d0 d1 d2 d3) :=
  (((h.setCell (p := ⟨g, 0, none⟩) hg _).setCell (p := ⟨g, 1, none⟩) hg _).setCell (p := ⟨g, 2, none⟩) hg _).setCell (p := ⟨g, 3, none⟩) hg _
theorem free4 {X : World} {g : Nat} {cs : Array Value} {e : TypeId} (h : X.heap[g]? = some (.cells cs e)) (o : Nat) : X.frozen? ⟨g, o, none⟩ = false := by simp [World.frozen?, h]
end Go.Proofs.Ytohiidgdpecbdaa.Views

/- point.Check and point.Points: what they answer. Conditions: a text takes at most 2 to the 30 bytes. -/
namespace Go.Proofs.Ytohiidgdpecbdaa.Point
open Go.RowKit Go.WideShapes

theorem isPt_iff (n : Int) : IsPt n ↔ 0 ≤ n ∧ n ≤ 1114111 ∧ (n < 55296 ∨ 57343 < n) := Iff.rfl
def ck (n : Int) : Int := if IsPt n then 0 else 40
theorem check_any (n : Int) (w : World) : Calls Try.prog 82 #[.int .i64 n] w fun e w' => e = .returned (.int .i64 (ck n)) ∧ w = w' := by
  by_cases h1 : n < 0
  · have hc : ck n = 40 := by unfold ck; rw [if_neg (by rw [isPt_iff]; omega)]
    have q1 : decide (n < 0) = true := by simpa using h1
    rw [hc]
    clear hc
    go_enter Try.func82, Try.ntmps82
    go_wp2
    go_ret
    exact ⟨rfl, rfl⟩
  · have q1 : decide (n < 0) = false := by simpa using h1
    by_cases h2 : 1114111 < n
    · have hc : ck n = 40 := by unfold ck; rw [if_neg (by rw [isPt_iff]; omega)]
      have q2 : decide (1114111 < n) = true := by simpa using h2
      rw [hc]
      clear hc
      go_enter Try.func82, Try.ntmps82
      go_wp2
      go_ret
      exact ⟨rfl, rfl⟩
    · have q2 : decide (1114111 < n) = false := by simpa using h2
      by_cases h3 : 55296 ≤ n
      · have q3 : decide (55296 ≤ n) = true := by simpa using h3
        by_cases h4 : n ≤ 57343
        · have hc : ck n = 40 := by unfold ck; rw [if_neg (by rw [isPt_iff]; omega)]
          have q4 : decide (n ≤ 57343) = true := by simpa using h4
          rw [hc]
          clear hc
          go_enter Try.func82, Try.ntmps82
          go_wp2
          go_ret
          exact ⟨rfl, rfl⟩
        · have hc : ck n = 0 := by unfold ck; rw [if_pos (by rw [isPt_iff]; omega)]
          have q4 : decide (n ≤ 57343) = false := by simpa using h4
          rw [hc]
          clear hc
          go_enter Try.func82, Try.ntmps82
          go_wp2
          go_ret
          exact ⟨rfl, rfl⟩
      · have hc : ck n = 0 := by unfold ck; rw [if_pos (by rw [isPt_iff]; omega)]
        have q3 : decide (55296 ≤ n) = false := by simpa using h3
        rw [hc]
        clear hc
        go_enter Try.func82, Try.ntmps82
        go_wp2
        go_ret
        exact ⟨rfl, rfl⟩

/-- What Points answers: code points, and a code. -/
def pr (s : List UInt8) : List Int × Int := match pts s with
  | none => ([], 40)
  | some l => if l.length ≤ 1024 then (l, 0) else ([], 4)

end Go.Proofs.Ytohiidgdpecbdaa.Point

/- append on slices of bytes: a row of the call's own, and a source that reads as bytes. Conditions: none. -/
namespace Go.Proofs.Ytohiidgdpecbdaa
open Go.RowKit Go.WideShapes

theorem Reads.shape {w : World} {v : Value} {xs : List UInt8} (h : Reads w v xs) : ∃ ao cap, v = .slice ao xs.length cap := by
  obtain ⟨_, ao, cap, h, _⟩ := h; exact ⟨ao, cap, h⟩
theorem Reads.cap {w : World} {ao : Option Addr} {n cap : Nat} {xs : List UInt8} (h : Reads w (.slice ao n cap) xs) : n = xs.length ∧ xs.length ≤ cap ∧ (ao = none → cap = 0) := by
  obtain ⟨_, ao', cap', he, h2, _, h4, _⟩ := h
  obtain ⟨rfl, rfl, rfl⟩ := Value.slice.inj he
  exact ⟨rfl, h2, h4⟩
/-- The cells of what reads as bytes. -/
theorem Reads.cells {w : World} {a : Addr} {n cap : Nat} {xs : List UInt8} (h : Reads w (.slice (some a) n cap) xs) : ∀ (j : Nat) (u : Value), (bs xs)[j]? = some u → w.cell? (a.add j) = some u := by
  intro j u hj
  have hlt : j < xs.length := by have := (List.getElem?_eq_some_iff.1 hj).1; rwa [bs_len] at this
  obtain ⟨_, ao, cp, he, _, _, _, hc | ⟨b, off, hb, _, hc⟩⟩ := h
  · subst hc; simp at hlt
  · simp only [Value.slice.injEq] at he
    obtain ⟨h1, _⟩ := he
    rw [hb] at h1
    cases h1
    rw [add_plain, hc j hlt]
    rw [bs_get xs j hlt] at hj
    exact hj
theorem Reads.at {w : World} {ao : Option Addr} {n cap : Nat} {xs : List UInt8} (h : Reads w (.slice ao n cap) xs) (k : Nat) (hk : k < xs.length) :
    ∃ b off, ao = some ⟨b, off, none⟩ ∧ b < w.heap.size ∧ w.cell? ⟨b, off + k, none⟩ = some (.int .u8 ((xs.getD k 0).toNat : Int)) := by
  obtain ⟨_, ao', cap', he, _, _, _, h5⟩ := h
  obtain ⟨rfl, -, rfl⟩ := Value.slice.inj he
  rcases h5 with hx | ⟨b, off, rfl, hb, hc⟩
  · subst hx; simp at hk
  · exact ⟨b, off, rfl, hb, hc k hk⟩
theorem Reads.keeps {w w' : World} {v : Value} {xs : List UInt8} (h : Reads w v xs) (hb : Below w.heap.size w w') : Reads w' v xs := h.below hb (fun hx => h.lies hx)
end Go.Proofs.Ytohiidgdpecbdaa

/- octavoref04's small functions: what they answer. Conditions: as each says. -/
namespace Go.Proofs.Ytohiidgdpecbdaa.Point
open Go.RowKit Go.WideShapes

end Go.Proofs.Ytohiidgdpecbdaa.Point

/- octavoref15.Word, Text: what each answers. Conditions: the slices' cells are elements, operations. -/
namespace Go.Proofs.Ytohiidgdpecbdaa.Views
open Go.RowKit Go.WideShapes Stamp Go.Proofs.Ytohiidgdpecbdaa.Place Ops Codes Bags Marks Homes Covers
attribute [local go_sem ↓] Go.wp_at_zero Go.wp_at_succ
attribute [local go_sem] yielded_undef

theorem ins_pt {o : Opn} (h : mayO o = true) (hk : o.k = 1) : Point.IsPt o.p := by
  have h3 := (mayO_parts h).2.2
  unfold kindB kindF at h3
  rw [if_pos hk, Bool.and_eq_true] at h3
  exact of_decide_eq_true h3.2
theorem wordM_snoc {c : List Opn} {j : Nat} (h : j < c.length) : wordM (c.take (j + 1)) = wordM (c.take j) ++ Point.enc (c[j]'h).p := by
  unfold wordM
  rw [List.take_succ_eq_append_getElem h, List.map_append, Point.flat_append]
  simp [Point.flat]
theorem wordM_len (c : List Opn) : (wordM c).length ≤ 4 * c.length := by
  unfold wordM
  have := (Point.flat_len (c.map (·.p))).2
  rwa [List.length_map] at this
end Go.Proofs.Ytohiidgdpecbdaa.Views

/- A strings.Builder that a call has made: what its methods do. Conditions: the new length takes at most 2 to the 47 bytes. -/
namespace Go.Proofs.Ytohiidgdpecbdaa.Strb
open Go.RowKit

abbrev Is (B b : Nat) (l : List UInt8) (w : World) : Prop := Lib.IsBuilderF 62 5 B b (Lib.byteCells l) w
theorem size_b : (Try.prog.info? 62).map (·.size) = some 2 := by kernel_rfl
theorem lies_b : liesAt Try.prog Try.prog.depth 62 (2 / Try.prog.cellsOf 62) 0 62 1 = true := by kernel_rfl

set_option maxHeartbeats 1000000 in
set_option maxRecDepth 100000 in
theorem copyCheck_used (b : Nat) (w : World) (h0 : w.cell? ⟨b, 0, none⟩ = some (.pointer (some ⟨b, 0, none⟩))) :
    Calls Try.prog 41 #[.pointer (some ⟨b, 0, none⟩)] w fun e w' => e = .returned (.tuple #[]) ∧ w' = w := by
  obtain ⟨j, hj, _⟩ := Option.map_eq_some_iff.1 size_b
  go_enter Try.func41, Try.ntmps41
  go_wp2
  rw [Lib.run_neq_ptr_same w _ Try.underlying59 hj]
  go_wp2
  go_end0
  exact ⟨rfl, rfl⟩

set_option maxHeartbeats 1000000 in
set_option maxRecDepth 100000 in
theorem copyCheck_fresh (b : Nat) (w : World) (h0 : w.cell? ⟨b, 0, none⟩ = some (.pointer none)) (hsh : w.shape? b = some (62, 2)) (hfz : w.frozen? ⟨b, 0, none⟩ = false) :
    Calls Try.prog 41 #[.pointer (some ⟨b, 0, none⟩)] w fun e w' => e = .returned (.tuple #[]) ∧ w' = w.setCell ⟨b, 0, none⟩ (.pointer (some ⟨b, 0, none⟩)) := by
  obtain ⟨j, hj, hjs⟩ := Option.map_eq_some_iff.1 size_b
  go_enter Try.func41, Try.ntmps41
  go_wp2
  rw [Lib.run_to_unsafe w ⟨b, 0, none⟩ Try.underlying59 Try.underlying115 hj (by rw [hjs]; decide) hsh (Nat.zero_lt_succ 1)]
  simp only [Result.andThen]
  rw [Oper.upon_value]
  go_wp2
  rw [run_callFunc_extern Try.func59 (by kernel_rfl) (by kernel_rfl) (by kernel_rfl) (e := Extern.AbiNoEscape.same) (by kernel_rfl)]
  rw [Lib.run_noEscape]
  simp only [Result.andThen]
  rw [Oper.upon_value]
  go_wp2
  rw [Lib.run_from_unsafe w ⟨b, 0, none⟩ Try.underlying115 Try.underlying59 hj hsh lies_b]
  simp only [Result.andThen]
  rw [Oper.upon_value]
  go_wp2
  go_end0
  exact ⟨rfl, rfl⟩

theorem copyCheck_any (B b : Nat) (l : List Value) (w : World) (h : Lib.IsBuilderF 62 5 B b l w) :
    Calls Try.prog 41 #[.pointer (some ⟨b, 0, none⟩)] w fun e w' => e = .returned (.tuple #[]) ∧ Lib.BuilderAtF 62 5 B b (.pointer (some ⟨b, 0, none⟩)) l w' ∧ Below B w w' ∧ Lib.OthersKept 5 (some b) w w' := by
  rcases h with h | h
  · refine (copyCheck_fresh b w h.cell0 h.shape h.frozen0).mono ?_
    rintro e w' ⟨rfl, rfl⟩
    exact ⟨rfl, h.used _, (Below.refl B w).setCell (p := ⟨b, 0, none⟩) h.1 _, (Lib.OthersKept.refl _ _ w).setCell ⟨b, 0, none⟩ rfl _⟩
  · refine (copyCheck_used b w h.cell0).mono ?_
    rintro e w' ⟨rfl, rfl⟩
    exact ⟨rfl, h, Below.refl B _, Lib.OthersKept.refl _ _ _⟩

set_option maxHeartbeats 4000000 in
set_option maxRecDepth 100000 in
theorem writeRune_any (B b : Nat) (l : List UInt8) (r : Int) (hr0 : -2147483648 ≤ r) (hr1 : r ≤ 2147483647) (w : World) (h : Is B b l w) (hlen : l.length + 4 ≤ 140737488355328) (hBw : B ≤ w.heap.size) :
    Calls Try.prog 21 #[.pointer (some ⟨b, 0, none⟩), .int .i32 r] w fun e w' => (∃ v, e = .returned v) ∧ Is B b (l ++ Lib.encodeRune r) w' ∧ Below B w w' ∧ Lib.OthersKept 5 (some b) w w' := by
  have hk4 := Lib.runeCells_le r
  obtain ⟨xs, hxs⟩ : ∃ xs, xs = Lib.byteCells l := ⟨_, rfl⟩
  have hxl : xs.length = l.length := by rw [hxs, Lib.byteCells_length]
  have HX := Lib.hid hxs
  unfold Is at h
  rw [← hxs] at h
  rw [← hxl] at hlen
  clear hxs hxl
  go_enter Try.func21, Try.ntmps21
  go_wp2_with fail
  refine (copyCheck_any B b xs _ h).mono ?_
  rintro e w1 ⟨rfl, h1, hb1, hk1⟩
  obtain ⟨hB, v, hbk, hown, hne⟩ := h1
  obtain ⟨ao, cap, rfl⟩ : ∃ ao cap, v = .slice ao xs.length cap := by
    rcases hown.2 with ⟨hv, h0⟩ | ⟨g, cap, cur, fz, hv, _⟩
    · exact ⟨none, 0, by rw [hv, h0]⟩
    · exact ⟨_, _, hv⟩
  have c0 : w1.cell? ⟨b, 0, none⟩ = some (.pointer (some ⟨b, 0, none⟩)) := by rw [Lib.cell_of_heap hbk]; rfl
  have c1 : w1.cell? ⟨b, 1, none⟩ = some (.slice ao xs.length cap) := by rw [Lib.cell_of_heap hbk]; rfl
  go_wp2_with fail
  refine (Try.utf8_AppendRune_row B _ xs.length xs r hr0 hr1 _ hown hlen (by have := hb1.size; omega)).mono ?_
  rintro e w2 ⟨v', rfl, hown', o, hgrow⟩
  have hlt : b < w1.heap.size := by
    rcases Nat.lt_or_ge b w1.heap.size with h' | h'
    · exact h'
    · simp [Array.getElem?_eq_none h'] at hbk
  have hb2 : w2.heap[b]? = some (.cells #[.pointer (some ⟨b, 0, none⟩), .slice ao xs.length cap] 62 (0, 0)) := by
    rw [hgrow.block b (by simp; omega) (fun e => hne e.symm), Lib.alloc_old w1 _ b hlt]
    exact hbk
  have d0 : w2.cell? ⟨b, 0, none⟩ = some (.pointer (some ⟨b, 0, none⟩)) := by rw [Lib.cell_of_heap hb2]; rfl
  have d1 : w2.cell? ⟨b, 1, none⟩ = some (.slice ao xs.length cap) := by rw [Lib.cell_of_heap hb2]; rfl
  have f1 : w2.frozen? ⟨b, 1, none⟩ = false := Lib.frozen_of_heap hb2 1
  obtain ⟨g, cap', rfl⟩ : ∃ g cap', v' = .slice (some ⟨g, 0, none⟩) (xs.length + (Lib.runeCells r).length) cap' := by
    rcases hown'.2 with ⟨_, h0⟩ | ⟨g, cap', cur, fz, hv, _⟩
    · omega
    · exact ⟨g, cap', hv⟩
  go_wp2
  go_ret2
  refine ⟨⟨_, rfl⟩, ?_, ?_, ((hk1.alloc _).grown hgrow (Lib.ownsRowF_kind (hown.alloc _))).setCell ⟨b, 1, none⟩ rfl _⟩
  · right
    rw [Lib.byteCells_append, Lib.byteCells_encodeRune, ← HX.out]
    exact Lib.BuilderAtF.put (T := 62) (e := 5) hB hb2 (bs' := xs ++ Lib.runeCells r) (by simpa using hown') (by decide)
  · exact ((hb1.alloc (by have := hb1.size; omega) _).grown hgrow (by have := hb1.size; simp; omega) (fun k hk => (hown.lt k hk).1)).setCell (p := ⟨b, 1, none⟩) hB _
end Go.Proofs.Ytohiidgdpecbdaa.Strb
