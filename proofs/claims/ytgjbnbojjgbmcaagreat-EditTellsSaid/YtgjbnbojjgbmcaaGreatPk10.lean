/- octavo/cover.chosen, Homed, Counts, Version: what each answers. Conditions: the slice's cells are operations. octavo/view.Elements: what it answers. Conditions: the slice's cells are operations. octavoref15.At: what it answers. Conditions: the slice's cells are operations; the number is one. point.Check and point.Points: what they answer. Conditions: a text takes at most 2 to the 30 bytes. -/
import Derived.Test.YtgjbnbojjgbmcaaGreatChecked
import Derived.WalkKit
import Derived.WalkSpells
import Derived.WalkLawsBesides
import Derived.Laws.BytesArg
import Derived.Lib.Hide
import Derived.Deep.LoopGhost
import Derived.Laws.AppendOwnNone
import Derived.Laws.OwnMore
import Derived.WideShapes
import Derived.Maps.AppendAt
import Derived.RegionTactic
import Derived.Deep.RegionHeld3
import Derived.Deep.DrawnRows
import Derived.Deep.QuietTactic
import Derived.BigQuiet
import Derived.IntWalk
import Derived.Deep.DeepCutAuto
import Derived.ScopeJumps
import Derived.Test.YtgjbnbojjgbmcaaGreatProg
import Derived.LoopTactic
import Derived.Laws.EntriesVeiled
import Derived.RowKit
import Derived.Maps.Own
import Derived.Maps.OwnOps
import Derived.Maps.OwnSet
import Derived.Maps.Views
import Derived.DeepKeys4
import Derived.Scope
import Derived.Shelf.Abstract
import Derived.Shelf.SlSortCmp.InsertionK
import Derived.Calls
import Derived.StepT
import Derived.Below
import Derived.Sort.Grow
import Derived.Deep.Draws
import Derived.Shelf.SlLaysF0
import Derived.Shelf.SlSortCmp.NoneTotal
import Derived.RangeFuncBox
import Derived.RangeFuncLeaves
import Derived.RangeFuncNested
import Derived.RangeFuncBound
import Derived.RangeFuncCalls
import Derived.OwnWalkIn
import Derived.TacticsInMore
import Derived.LoopNIn
import Derived.LoopIn
import Derived.Lib.Tables
import Derived.Laws.Bits64
import Derived.Lib.DecodeN
import Derived.Lib.RuneBytes
import Derived.Test.YtgjbnbojjgbmcaaGreatShelf
import Derived.Lib.OthersKept
import Derived.Test.YtgjbnbojjgbmcaaGreatPk08
import Derived.Test.YtgjbnbojjgbmcaaGreatPk07
import Derived.Test.YtgjbnbojjgbmcaaGreatPk05
import Derived.Test.YtgjbnbojjgbmcaaGreatPk04
import Derived.Test.YtgjbnbojjgbmcaaGreatPk03
import Derived.Test.YtgjbnbojjgbmcaaGreatPk02
import Derived.Test.YtgjbnbojjgbmcaaGreatPk01
import Derived.Test.YtgjbnbojjgbmcaaGreatPk06
import Derived.Test.YtgjbnbojjgbmcaaGreatPk09

namespace Go.Proofs.YtgjbnbojjgbmcaaGreat.Covers
open Go.RowKit Go.WideShapes Stamp Go.Proofs.YtgjbnbojjgbmcaaGreat.Place Ops Codes Bags Marks Homes
attribute [local go_sem ↓] Go.wp_at_zero Go.wp_at_succ
attribute [local go_sem] yielded_undef
/-- What a choice answers, asked of content of the bag. -/
def Asks (f : Nat) (l : List Opn) (s : Id) (Q : Opn → Bool) : Prop := ∀ (W : World) (va vb u : Value) (g b n : Nat) (o : Opn), o ∈ l → Runs W va (fromL l s) → Runs W vb (toL l s) → Runs W u o.pl → SetI W b n (hasO l) → W.cell? ⟨g, 0, none⟩ = some (.map (some b)) → g < W.heap.size →
  Calls Tryz.prog f #[.agg #[va, vb, .func (.func 189) #[] #[.pointer (some ⟨g, 0, none⟩)]], opv o u] W fun e w' => e = .returned (.bool (Q o)) ∧ Below W.heap.size W w'
set_option maxRecDepth 100000 in
set_option maxHeartbeats 8000000 in
theorem chosen_any {v0 : Value} {l : List Opn} (s : Id) (f : Nat) (eg : ∀ args w, (callFunc f args).run Tryz.prog w = .ok (.enter f args) w) (Q : Opn → Bool) {w : World} (hv : OpL w v0 l) (hQ : spanE l s = 0 → Asks f l s Q) :
    Calls Tryz.prog 105 #[v0, .agg #[.int .u32 (s.t : Int), .int .u8 (s.r : Int)], .func (.func f) #[] #[]] w (DoneN (if spanE l s = 0 then l.filter (fun o => contB o && Q o) else []) (spanE l s) w) := by
  obtain ⟨ao, cap, rfl⟩ := hv.shape
  obtain ⟨n, hn⟩ : ∃ n, n = l.length := ⟨_, rfl⟩
  have HV : Hid (∀ W : World, Below w.heap.size w W → OpL W (.slice ao l.length cap) l) := fun W h => hv.keeps h
  have HN := Lib.hid hn
  have B0 : Hid (Below w.heap.size w (w.alloc (.cells #[.int .u32 (s.t : Int), .int .u8 (s.r : Int)] 28))) := (Below.refl _ _).alloc (Nat.le_refl _) _
  have SP : Hid (Calls Tryz.prog 86 #[.slice ao n cap, .agg #[.int .u32 (s.t : Int), .int .u8 (s.r : Int)]] (w.alloc (.cells #[.int .u32 (s.t : Int), .int .u8 (s.r : Int)] 28)) (TwoR (fromL l s) (toL l s) (spanE l s) (w.alloc (.cells #[.int .u32 (s.t : Int), .int .u8 (s.r : Int)] 28)))) := by
    have := hSpan_any s (hv.keeps B0.out)
    rwa [← hn] at this
  have hcs := spanE_cases l s
  by_cases hE : spanE l s = 0
  rotate_left
  · obtain ⟨c, hc⟩ : ∃ c, spanE l s = c := ⟨_, rfl⟩
    rw [hc] at hE hcs SP ⊢
    rw [if_neg hE, ← hn]
    have q1 : (c != 0) = true := by simpa using hE
    have q2 : decide (c = 0) = false := decide_eq_false hE
    obtain ⟨st, sr, hst, hsr⟩ := s
    simp only at SP B0 ⊢
    clear hv hn HV HN hcs hQ hc
    go_enter Tryz.func105, Tryz.ntmps105
    go_wp2_with fail
    refine SP.out.mono ?_
    rintro e w1 ⟨va, vb, rfl, h1, h2, b1⟩
    have B1 := Lib.hid (bt B0.out b1)
    clear h1 h2 b1 SP B0
    go_wp2
    go_ret2
    exact ⟨_, rfl, OwnL.nil _ _, B1.out⟩
  have hbag := (spanE_zero.1 hE).1
  have ASK : Hid (Asks f l s Q) := hQ hE
  rw [if_pos hE]
  rw [hE] at SP ⊢
  have hnm : n ≤ 1024 := by rw [hn]; exact hbag.1
  have HP : Hid (∀ o ∈ l, o.pl.length ≤ 8796093022208) := (bag_fits hbag).2
  have AS : Hid (∀ W : World, Below w.heap.size w W → Calls Tryz.prog 147 #[.slice ao n cap] W fun e w' => ∃ g b n, e = .returned (.func (.func 189) #[] #[.pointer (some ⟨g, 0, none⟩)]) ∧ g < w'.heap.size ∧ w'.cell? ⟨g, 0, none⟩ = some (.map (some b)) ∧ SetI w' b n (hasO l) ∧ Below W.heap.size W w') := fun W h => by
    have := asking_any (hv.keeps h) hbag.1
    rwa [← hn] at this
  rw [← hn]
  obtain ⟨st, sr, hst, hsr⟩ := s
  simp only at SP B0 ⊢
  obtain ⟨F, hF⟩ : ∃ F, fromL l ⟨st, sr, hst, hsr⟩ = F := ⟨_, rfl⟩
  obtain ⟨T, hT⟩ : ∃ T, toL l ⟨st, sr, hst, hsr⟩ = T := ⟨_, rfl⟩
  have AK : Hid (∀ (W : World) (va vb u : Value) (g b n : Nat) (o : Opn), o ∈ l → Runs W va F → Runs W vb T → Runs W u o.pl → SetI W b n (hasO l) → W.cell? ⟨g, 0, none⟩ = some (.map (some b)) → g < W.heap.size →
      Calls Tryz.prog f #[.agg #[va, vb, .func (.func 189) #[] #[.pointer (some ⟨g, 0, none⟩)]], opv o u] W fun e w' => e = .returned (.bool (Q o)) ∧ Below W.heap.size W w') := by
    have := ASK.out
    unfold Asks at this
    rw [hF, hT] at this
    exact this
  rw [hF, hT] at SP
  clear hv hn hcs hQ hbag ASK hE hF hT
  go_enter Tryz.func105, Tryz.ntmps105
  go_wp2_with fail
  refine SP.out.mono ?_
  rintro e w1 ⟨va, vb, rfl, h1, h2, b1⟩
  have R1 : Hid (Runs w1 va F) := Runs.own h1
  have R2 : Hid (Runs w1 vb T) := Runs.own h2
  obtain ⟨fo, fc, rfl⟩ := Runs.shape R1.out
  obtain ⟨to', tc, rfl⟩ := Runs.shape R2.out
  obtain ⟨nf, hnf⟩ : ∃ n, F.length = n := ⟨_, rfl⟩
  obtain ⟨nt, hnt⟩ : ∃ n, T.length = n := ⟨_, rfl⟩
  rw [hnf] at R1 ⊢
  rw [hnt] at R2 ⊢
  have B1 := Lib.hid (bt B0.out b1)
  clear h1 h2 b1 SP B0 hnf hnt
  go_wp2_with fail
  refine (AS.out _ B1.out).mono ?_
  rintro e w2 ⟨g, b, n0, rfl, hg, hc, hs, b2⟩
  have R3 := Lib.hid (R1.out.keeps b2)
  have R4 := Lib.hid (R2.out.keeps b2)
  have B2 := Lib.hid (bt B1.out b2)
  obtain ⟨wm, hwm⟩ : ∃ wm, w2.alloc (.cells #[.slice fo nf fc, .slice to' nt tc, .func (.func 189) #[] #[.pointer (some ⟨g, 0, none⟩)]] 161) = wm := ⟨_, rfl⟩
  have BM : Hid (Below w2.heap.size w2 wm) := by rw [← hwm]; exact (Below.refl _ _).alloc (Nat.le_refl _) _
  have XM : Hid (wm.heap[w2.heap.size]? = some (.cells #[.slice fo nf fc, .slice to' nt tc, .func (.func 189) #[] #[.pointer (some ⟨g, 0, none⟩)]] 161)) := by rw [← hwm]; exact blk_new rfl
  have HWM := Lib.hid hwm
  have S0 : Hid (SetI wm b n0 (hasO l)) := hs.keeps BM.out
  have C0 : Hid (wm.cell? ⟨g, 0, none⟩ = some (.map (some b))) := (BM.out.cell (p := ⟨g, 0, none⟩) hg).trans hc
  have G0 : Hid (g < wm.heap.size) := Nat.lt_of_lt_of_le hg BM.out.size
  have AX : Hid (∀ (W : World) (u : Value) (o : Opn), Below wm.heap.size wm W → o ∈ l → Runs W u o.pl → Calls Tryz.prog f #[.agg #[.slice fo nf fc, .slice to' nt tc, .func (.func 189) #[] #[.pointer (some ⟨g, 0, none⟩)]], opv o u] W fun e w' => e = .returned (.bool (Q o)) ∧ Below W.heap.size W w') := fun W u o h1 h2 h3 =>
    AK.out W _ _ u g b n0 o h2 (R3.out.keeps (bt BM.out h1)) (R4.out.keeps (bt BM.out h1)) h3 (S0.out.keeps h1) ((h1.cell (p := ⟨g, 0, none⟩) G0.out).trans C0.out) (Nat.lt_of_lt_of_le G0.out h1.size)
  have B3 : Hid (Below w.heap.size w wm) := bt B2.out BM.out
  have HZ : Hid (w2.heap.size < wm.heap.size) := (Array.getElem?_eq_some_iff.1 XM.out).1
  have L2 : Hid (OwnL wm wm.heap.size (.slice none 0 0) ((l.take 0).filter (fun o => contB o && Q o))) := OwnL.nil _ _
  have M2 : Hid (0 = ((l.take 0).filter (fun o => contB o && Q o)).length) := rfl
  have Z2 : Hid (Below wm.heap.size wm wm) := Below.refl _ _
  clear b2 hg hc hs hwm R1 R2 R3 R4 B1 B2 S0 C0 G0 AK AS BM
  go_wp2
  rw [HWM.out]
  go_loopw [12, 32] (fun v i wr => ∃ j m : Nat, j ≤ n ∧ i = .int .i64 (j : Int) ∧ m ≤ j ∧ (∃ ao cap, v = .slice ao m cap) ∧ Hid (m = ((l.take j).filter (fun o => contB o && Q o)).length) ∧ Hid (OwnL wr wm.heap.size v ((l.take j).filter (fun o => contB o && Q o))) ∧ Hid (Below wm.heap.size wm wr)) (fun _ i _ => n - (intOf i).toNat)
  case atStart => exact ⟨0, 0, by omega, rfl, by omega, ⟨none, 0, rfl⟩, M2, L2, Z2⟩
  case round =>
    clear M2 L2 Z2 HWM
    obtain ⟨j, m, hj, rfl, hmj, ⟨aoL, capL, rfl⟩, HM, hown, hbm⟩ := hrel
    have hbel : Hid (Below w.heap.size w wr) := bt B3.out hbm.out
    by_cases hjn : j < n
    rotate_left
    · have q3 : decide (j < n) = false := by simpa using hjn
      have hkk : l.take j = l := List.take_of_length_le (by have := HN.out; omega)
      rw [hkk] at hown
      clear hkk
      go_wp2
      go_ret2
      exact ⟨_, rfl, hown.out.base B3.out.size, hbel.out⟩
    have q3 : decide (j < n) = true := by simpa using hjn
    have q4 : (0 : Int) ≤ (j : Int) := by omega
    have q5 : (j : Int) < (n : Int) := by omega
    have hjl : j < l.length := by rw [← HN.out]; exact hjn
    obtain ⟨bb, oo, u, e, hbb, hru, h0, h1, h2, h3, h4⟩ := opl_at (HV.out wr hbel.out) j hjl
    subst e
    obtain ⟨x, hx⟩ : ∃ x, x = l[j]'hjl := ⟨_, rfl⟩
    rw [← hx] at hru h0 h1 h2 h4
    have HO : Hid (∀ v : Value, opv x v = .agg #[.int .u8 (x.k : Int), .int .u32 (x.t : Int), .int .u8 (x.r : Int), v, .int .i64 x.p]) := fun v => rfl
    obtain ⟨uo, uc, rfl⟩ := hru.shape
    obtain ⟨nu, hnu⟩ : ∃ n, n = x.pl.length := ⟨_, rfl⟩
    have HNU := Lib.hid hnu
    rw [← hnu] at hru h3
    clear hnu
    have hxl : x ∈ l := by rw [hx]; exact List.getElem_mem hjl
    have hpx : x.pl.length ≤ 8796093022208 := HP.out x hxl
    have FT : Hid ((l.take (j + 1)).filter (fun o => contB o && Q o) = (l.take j).filter (fun o => contB o && Q o) ++ (if (contB x && Q x) = true then [x] else [])) := by
      unfold Hid
      rw [List.take_succ_eq_append_getElem hjl, List.filter_append, hx]
      congr 1
      simp [List.filter_cons]
    obtain ⟨L, hL⟩ : ∃ z, (l.take j).filter (fun o => contB o && Q o) = z := ⟨_, rfl⟩
    rw [hL] at HM hown FT
    have CO : Hid (∀ W : World, Calls Tryz.prog 148 #[opv x (.slice uo nu uc)] W fun e w' => e = .returned (.bool (contB x)) ∧ Below W.heap.size W w') := fun W => oContent_any W
    have CH : Hid (∀ W : World, Below wr.heap.size wr W → Calls Tryz.prog f #[.agg #[.slice fo nf fc, .slice to' nt tc, .func (.func 189) #[] #[.pointer (some ⟨g, 0, none⟩)]], opv x (.slice uo nu uc)] W fun e w' => e = .returned (.bool (Q x)) ∧ Below W.heap.size W w') := fun W h => AX.out W _ x (bt hbm.out h) hxl (by rw [HNU.out]; rw [HNU.out] at hru; exact hru.keeps h)
    have TW : Hid (∀ W : World, Below wr.heap.size wr W → Calls Tryz.prog 81 #[opv x (.slice uo nu uc)] W fun e w' => ∃ ao cap, e = .returned (opv x (.slice ao nu cap)) ∧ w'.ownsRow wm.heap.size 32 3 (.slice ao nu cap) x.pl.length (runs x.pl) ∧ Below W.heap.size W w') := fun W hW => by
      refine (oTwin_any (hru.keeps hW) hpx).mono ?_
      rintro e w' ⟨v', rfl, ho, hb⟩
      obtain ⟨ao', cap', rfl⟩ : ∃ ao cap, v' = .slice ao x.pl.length cap := Sees.shape (Sees.own ho)
      rw [← HNU.out] at ho ⊢
      exact ⟨ao', cap', rfl, op_base ho (Nat.le_trans hbm.out.size hW.size), hb⟩
    clear hx hru hpx hL hxl
    obtain ⟨k, hk⟩ : ∃ z, x.k = z := ⟨_, rfl⟩
    obtain ⟨t, ht⟩ : ∃ z, x.t = z := ⟨_, rfl⟩
    obtain ⟨r, hr⟩ : ∃ z, x.r = z := ⟨_, rfl⟩
    obtain ⟨p, hp⟩ : ∃ z, x.p = z := ⟨_, rfl⟩
    rw [hk, ht, hr, hp] at HO
    rw [hk] at h0
    rw [ht] at h1
    rw [hr] at h2
    rw [hp] at h4
    simp only [HO.out] at TW CO CH
    have HFV : Hid (∀ v : Value, [.int .u8 (k : Int), .int .u32 (t : Int), .int .u8 (r : Int), v, .int .i64 p] = [Value.int .u8 (x.k : Int), .int .u32 (x.t : Int), .int .u8 (x.r : Int), v, .int .i64 x.p]) := fun v => by rw [hk, ht, hr, hp]
    obtain ⟨qc, hqc⟩ : ∃ q, contB x = q := ⟨_, rfl⟩
    rw [hqc] at CO FT
    obtain ⟨q, hq⟩ : ∃ q, Q x = q := ⟨_, rfl⟩
    rw [hq] at CH FT
    have BL : Hid (Below wr.heap.size wr (wr.alloc (.cells #[.int .u8 (k : Int), .int .u32 (t : Int), .int .u8 (r : Int), .slice uo nu uc, .int .i64 p] 38))) := (Below.refl _ _).alloc (Nat.le_refl _) _
    have SK : Hid (∀ W : World, Below (wr.alloc (.cells #[.int .u8 (k : Int), .int .u32 (t : Int), .int .u8 (r : Int), .slice uo nu uc, .int .i64 p] 38)).heap.size (wr.alloc (.cells #[.int .u8 (k : Int), .int .u32 (t : Int), .int .u8 (r : Int), .slice uo nu uc, .int .i64 p] 38)) W → (W.cell? ⟨wr.heap.size, 0, none⟩ = some (.int .u8 (k : Int)) ∧ W.cell? ⟨wr.heap.size, 1, none⟩ = some (.int .u32 (t : Int)) ∧ W.cell? ⟨wr.heap.size, 2, none⟩ = some (.int .u8 (r : Int)) ∧ W.cell? ⟨wr.heap.size, 3, none⟩ = some (.slice uo nu uc) ∧ W.cell? ⟨wr.heap.size, 4, none⟩ = some (.int .i64 p)) ∧ W.cell? ⟨w2.heap.size, 0, none⟩ = some (.slice fo nf fc) ∧ W.cell? ⟨w2.heap.size, 1, none⟩ = some (.slice to' nt tc) ∧ W.cell? ⟨w2.heap.size, 2, none⟩ = some (.func (.func 189) #[] #[.pointer (some ⟨g, 0, none⟩)])) := fun W h => by
      have g1 := blk_below h (blk_below BL.out (blk_below hbm.out XM.out))
      exact ⟨five_cells h, cell_of_row _ _ 0 _ _ _ g1, cell_of_row _ _ 1 _ _ _ g1, cell_of_row _ _ 2 _ _ _ g1⟩
    clear hk ht hr hp HO hqc hq
    cases qc
    · have FT2 : Hid ((l.take (j + 1)).filter (fun o => contB o && Q o) = L) := by unfold Hid; rw [FT.out]; simp
      clear FT TW HFV SK CH
      go_wp2_with fail
      refine (CO.out _).mono ?_
      rintro e w5 ⟨rfl, b5⟩
      have B5 := Lib.hid (bt BL.out b5)
      clear b5
      have L5 := Lib.hid (hown.out.keeps B5.out)
      have B6 := Lib.hid (bt hbm.out B5.out)
      rw [← FT2.out] at L5 HM
      clear hown
      go_wp2
      go_roundw
      case rel => exact ⟨j + 1, m, by omega, by go_num, by omega, ⟨aoL, capL, rfl⟩, HM, L5, B6⟩
      case measure => simp [intOf]; omega
    cases q
    · have FT2 : Hid ((l.take (j + 1)).filter (fun o => contB o && Q o) = L) := by unfold Hid; rw [FT.out]; simp
      clear FT TW HFV
      go_wp2_with fail
      refine (CO.out _).mono ?_
      rintro e w4 ⟨rfl, b4⟩
      have B4 := Lib.hid (bt BL.out b4)
      obtain ⟨⟨g0, g1, g2, g3, g4⟩, f0, f1, f2⟩ := SK.out _ b4
      clear b4 SK h0 h1 h2 h3 h4
      go_wp2_with fail
      refine (CH.out _ B4.out).mono ?_
      rintro e w5 ⟨rfl, b5⟩
      have B5 := Lib.hid (bt B4.out b5)
      clear b5 g0 g1 g2 g3 g4 f0 f1 f2
      have L5 := Lib.hid (hown.out.keeps B5.out)
      have B6 := Lib.hid (bt hbm.out B5.out)
      rw [← FT2.out] at L5 HM
      clear hown
      go_wp2
      go_roundw
      case rel => exact ⟨j + 1, m, by omega, by go_num, by omega, ⟨aoL, capL, rfl⟩, HM, L5, B6⟩
      case measure => simp [intOf]; omega
    have FT2 : Hid ((l.take (j + 1)).filter (fun o => contB o && Q o) = L ++ [x]) := by unfold Hid; rw [FT.out]; simp
    clear FT
    go_wp2_with fail
    refine (CO.out _).mono ?_
    rintro e w3 ⟨rfl, b3⟩
    have B3' := Lib.hid (bt BL.out b3)
    have BX3 := Lib.hid b3
    obtain ⟨⟨g0, g1, g2, g3, g4⟩, f0, f1, f2⟩ := SK.out _ b3
    clear b3 h0 h1 h2 h3 h4
    go_wp2_with fail
    refine (CH.out _ B3'.out).mono ?_
    rintro e w4 ⟨rfl, b4⟩
    have B4 := Lib.hid (bt B3'.out b4)
    clear g0 g1 g2 g3 g4 f0 f1 f2
    obtain ⟨⟨g0, g1, g2, g3, g4⟩, f0, f1, f2⟩ := SK.out _ (bt BX3.out b4)
    clear b4 SK f0 f1 f2 BX3 B3'
    go_wp2_with fail
    refine (TW.out _ B4.out).mono ?_
    rintro e w5 ⟨aoO, capO, rfl, o5, b5⟩
    have B5 := Lib.hid (bt B4.out b5)
    have BW5 := Lib.hid (bt hbel.out B5.out)
    have BM5 := Lib.hid (bt hbm.out B5.out)
    have LL := Lib.hid (hown.out.keeps B5.out)
    obtain ⟨cs, lo, lh⟩ := LL.out
    rw [← HM.out] at lo
    have LO := Lib.hid lo
    have LH := Lib.hid lh
    have PO : Hid (w5.ownsRow wm.heap.size 32 3 (.slice aoO nu capO) x.pl.length (runs x.pl)) := o5
    have SE : Hid (Sees (w5.alloc (.cells #[.int .u8 (k : Int), .int .u32 (t : Int), .int .u8 (r : Int), .slice aoO nu capO, .int .i64 p] 38)) (.slice (some ⟨w5.heap.size, 0, none⟩) 1 1) 5 1 [.int .u8 (k : Int), .int .u32 (t : Int), .int .u8 (r : Int), .slice aoO nu capO, .int .i64 p]) := sees_new w5 [.int .u8 (k : Int), .int .u32 (t : Int), .int .u8 (r : Int), .slice aoO nu capO, .int .i64 p] 5 1 rfl (by omega) 38 (0, 0)
    have OA : Hid ((w5.alloc (.cells #[.int .u8 (k : Int), .int .u32 (t : Int), .int .u8 (r : Int), .slice aoO nu capO, .int .i64 p] 38)).ownsRow wm.heap.size 38 5 (.slice aoL m capL) m cs) := own_stays LO.out ((Below.refl _ _).alloc (Nat.le_refl _) _)
    have FO2 : Hid (∀ z ∈ ([.int .u8 (k : Int), .int .u32 (t : Int), .int .u8 (r : Int), .slice aoO nu capO, .int .i64 p] : List Value), z.oneCell' = true) := by unfold Hid; rw [HFV.out]; exact five_one x _ ⟨_, _, _, rfl⟩
    have bz : Hid (wm.heap.size ≤ (w5.alloc (.cells #[.int .u8 (k : Int), .int .u32 (t : Int), .int .u8 (r : Int), .slice aoO nu capO, .int .i64 p] 38)).heap.size) := by have := BM5.out.size; unfold Hid; simp; omega
    clear o5 b5 lo lh hown hbel LL g0 g1 g2 g3 g4
    go_wp2_with (at_builtin; refine wpList_append_sees rfl (.tmp 44) (.tmp 47) 22 38 rfl Tryz.underlying22 op_info rfl (by decide) wm.heap.size _ m cs rfl OA.out _ 1 [.int .u8 (k : Int), .int .u32 (t : Int), .int .u8 (r : Int), .slice aoO nu capO, .int .i64 p] rfl SE.out FO2.out ?k1 ?k2 ?k3 ?_)
    case k1 => omega
    case k2 => omega
    case k3 => exact bz.out
    rintro v6 w6 o6 g6 b6
    have L6 : Hid (OwnL w6 wm.heap.size v6 ((l.take (j + 1)).filter (fun o => contB o && Q o))) := by
      have lo2 := LO.out
      have o7 := o6
      rw [HFV.out] at o7
      have po := own_stays PO.out ((Below.refl _ _).alloc (Nat.le_refl _) (.cells #[.int .u8 (k : Int), .int .u32 (t : Int), .int .u8 (r : Int), .slice aoO nu capO, .int .i64 p] 38))
      have gx := g6
      unfold Hid
      rw [FT2.out]
      rw [HM.out] at lo2 gx
      refine OwnL.snoc (W := w5) (W8 := w5.alloc (.cells #[.int .u8 (k : Int), .int .u32 (t : Int), .int .u8 (r : Int), .slice aoO nu capO, .int .i64 p] 38)) (m := m + 1) lo2 LH.out ((Below.refl _ _).alloc (Nat.le_refl _) _) po gx o7 (by rw [HM.out])
    have M6 : Hid (m + 1 = ((l.take (j + 1)).filter (fun o => contB o && Q o)).length) := by unfold Hid; rw [FT2.out, List.length_append, ← HM.out]; rfl
    have B6 : Hid (Below wm.heap.size wm w6) := (BM5.out.alloc BM5.out.size _).trans b6
    obtain ⟨va, vc, rfl⟩ : ∃ ao cap, v6 = .slice ao (m + 1) cap := Sees.shape (Sees.own o6)
    clear o6 g6 b6 OA SE LO LH PO bz
    go_wp2
    go_roundw
    case rel => exact ⟨j + 1, m + 1, by omega, by go_num, by omega, ⟨va, vc, rfl⟩, M6, L6, B6⟩
    case measure => simp [intOf]; omega
theorem homed_filter {l : List Opn} {s : Id} (hE : spanE l s = 0) : l.filter (fun o => contB o && homB (fromL l s) (toL l s) o.pl) = inL l (livesM l l) s := by
  unfold inL
  refine List.filter_congr fun o ho => ?_
  rw [homB_is hE (anyB_may (mayO_parts ((spanE_zero.1 hE).1.2.1 o ho)).2.1)]
theorem counts_filter {l : List Opn} {s : Id} (hE : spanE l s = 0) : l.filter (fun o => contB o && (homB (fromL l s) (toL l s) o.pl && isB l (livesM l l) s o)) = countL l (livesM l l) s := by
  unfold countL
  rw [← homed_filter hE, List.filter_filter]
  refine List.filter_congr fun o ho => ?_
  cases contB o <;> cases homB (fromL l s) (toL l s) o.pl <;> cases isB l (livesM l l) s o <;> rfl
set_option maxRecDepth 100000 in
set_option maxHeartbeats 4000000 in
theorem cCounts_any {v : Value} {l : List Opn} (s : Id) {w : World} (hv : OpL w v l) : Calls Tryz.prog 56 #[v, .agg #[.int .u32 (s.t : Int), .int .u8 (s.r : Int)]] w (DoneN (countsL l s) (spanE l s) w) := by
  have B0 : Hid (Below w.heap.size w (w.alloc (.cells #[.int .u32 (s.t : Int), .int .u8 (s.r : Int)] 28))) := (Below.refl _ _).alloc (Nat.le_refl _) _
  have CH : Hid (Calls Tryz.prog 105 #[v, .agg #[.int .u32 (s.t : Int), .int .u8 (s.r : Int)], .func (.func 106) #[] #[]] (w.alloc (.cells #[.int .u32 (s.t : Int), .int .u8 (s.r : Int)] 28)) (DoneN (countsL l s) (spanE l s) (w.alloc (.cells #[.int .u32 (s.t : Int), .int .u8 (s.r : Int)] 28)))) := by
    have h := chosen_any s 106 (enters_of Tryz.func106 (by kernel_rfl) rfl) (fun o => homB (fromL l s) (toL l s) o.pl && isB l (livesM l l) s o) (hv.keeps B0.out) (fun hE => fun W va vb u g b n o ho ha hb hu hs hc hg => counts_any hE ho ha hb hu hs hc hg)
    have e : (if spanE l s = 0 then l.filter (fun o => contB o && (fun o => homB (fromL l s) (toL l s) o.pl && isB l (livesM l l) s o) o) else []) = countsL l s := by
      unfold countsL
      by_cases hE : spanE l s = 0
      · rw [if_pos hE, if_pos hE]; exact counts_filter hE
      · rw [if_neg hE, if_neg hE]
    rwa [e] at h
  obtain ⟨ao, cap, rfl⟩ := hv.shape
  obtain ⟨n, hn⟩ : ∃ n, n = l.length := ⟨_, rfl⟩
  rw [← hn] at CH ⊢
  obtain ⟨R, hR⟩ : ∃ R, countsL l s = R := ⟨_, rfl⟩
  obtain ⟨c, hc⟩ : ∃ c, spanE l s = c := ⟨_, rfl⟩
  rw [hR, hc] at CH ⊢
  obtain ⟨st, sr, hst, hsr⟩ := s
  simp only at CH B0 ⊢
  clear hv hn hR hc
  go_enter Tryz.func56, Tryz.ntmps56
  go_wp2_with fail
  refine CH.out.mono ?_
  rintro e w1 ⟨va, rfl, o1, b1⟩
  have B1 := Lib.hid (bt B0.out b1)
  have O1 : Hid (OwnL w1 w.heap.size va R) := o1.base B0.out.size
  clear b1 o1 CH B0
  go_wp2
  go_ret2
  exact ⟨_, rfl, O1.out, B1.out⟩
theorem bag_count {l : List Opn} (h : Bag l) (live : List Opn) (s : Id) : Bag (countL l live s) := ⟨Nat.le_trans (countL_sub l live s).length_le h.1, fun o ho => h.2.1 o ((countL_sub l live s).subset ho), h.2.2.sublist (countL_sub l live s)⟩
end Go.Proofs.YtgjbnbojjgbmcaaGreat.Covers

namespace Go.Proofs.YtgjbnbojjgbmcaaGreat.Views
open Go.RowKit Go.WideShapes Stamp Go.Proofs.YtgjbnbojjgbmcaaGreat.Place Ops Codes Bags Marks Homes Covers
attribute [local go_sem ↓] Go.wp_at_zero Go.wp_at_succ
attribute [local go_sem] yielded_undef
theorem ownL_place {w : World} {base n cap bb oo : Nat} {v u : Value} {l : List Opn} (hv : OwnL w base v l) (k : Nat) (h : k < l.length) (e : v = .slice (some ⟨bb, oo, none⟩) n cap) (hc : w.cell? ⟨bb, oo + k * 5 + 3, none⟩ = some u) : w.ownsRow base 32 3 u (l[k]'h).pl.length (runs (l[k]'h).pl) := by
  obtain ⟨g, c2, y, e2, h3, ho⟩ := ownL_at hv k h
  rw [e] at e2
  injection e2 with e2 _ _
  injection e2 with e2
  injection e2 with e3 e4 _
  subst e3 e4
  rw [Nat.zero_add] at hc
  rw [hc] at h3
  injection h3 with h3
  subst h3
  exact ho
set_option maxRecDepth 100000 in
set_option maxHeartbeats 16000000 in
theorem vElements_any {v : Value} {l : List Opn} (s : Id) {w : World} (hv : OpL w v l) : Calls Tryz.prog 23 #[v, .agg #[.int .u32 (s.t : Int), .int .u8 (s.r : Int)]] w (DoneOE (elmL l s) (spanE l s) w) := by
  have B0 : Hid (Below w.heap.size w (w.alloc (.cells #[.int .u32 (s.t : Int), .int .u8 (s.r : Int)] 28))) := (Below.refl _ _).alloc (Nat.le_refl _) _
  have CC : Hid (Calls Tryz.prog 56 #[v, .agg #[.int .u32 (s.t : Int), .int .u8 (s.r : Int)]] (w.alloc (.cells #[.int .u32 (s.t : Int), .int .u8 (s.r : Int)] 28)) (DoneN (countsL l s) (spanE l s) (w.alloc (.cells #[.int .u32 (s.t : Int), .int .u8 (s.r : Int)] 28)))) := cCounts_any s (hv.keeps B0.out)
  obtain ⟨ao, cap, rfl⟩ := hv.shape
  obtain ⟨n0, hn0⟩ : ∃ n, n = l.length := ⟨_, rfl⟩
  rw [← hn0] at CC ⊢
  by_cases hE : spanE l s = 0
  rotate_left
  · have e1 : elmL l s = [] := elm_no hE
    rw [e1]
    obtain ⟨c, hc⟩ : ∃ c, spanE l s = c := ⟨_, rfl⟩
    obtain ⟨R, hR⟩ : ∃ R, countsL l s = R := ⟨_, rfl⟩
    rw [hc] at hE CC ⊢
    rw [hR] at CC
    have q1 : (c != 0) = true := by simpa using hE
    have q2 : decide (c = 0) = false := decide_eq_false hE
    obtain ⟨st, sr, hst, hsr⟩ := s
    simp only at CC B0 ⊢
    clear hv hn0 hc hR e1
    go_enter Tryz.func23, Tryz.ntmps23
    go_wp2_with fail
    refine CC.out.mono ?_
    rintro e w1 ⟨va, rfl, o1, b1⟩
    have B1 := Lib.hid (bt B0.out b1)
    clear o1 b1 CC B0
    go_wp2
    go_ret2
    exact ⟨_, rfl, OwnE.nil _ _, B1.out⟩
  have hbag : Bag (countsL l s) := by
    unfold countsL
    rw [if_pos hE]
    exact bag_count (spanE_zero.1 hE).1 _ _
  rw [hE] at CC ⊢
  unfold elmL
  obtain ⟨C, hC⟩ : ∃ C, countsL l s = C := ⟨_, rfl⟩
  rw [hC] at CC hbag ⊢
  have TA : Hid (∀ (W : World) (y : Value), OpL W y C → Calls Tryz.prog 57 #[y] W fun e w' => e = .returned (.map (some W.heap.size)) ∧ SetI w' W.heap.size C.length (goneM C) ∧ Below W.heap.size W w') := fun W y h => takenAway_any h hbag.2.1 hbag.1
  have SO : Hid (∀ (W : World) (v : Value) (base : Nat), OwnE W base v (pickE C C) → Calls Tryz.prog 58 #[v, .func (.func 59) #[] #[]] W fun e w' => e = .returned (.tuple #[]) ∧ OwnE w' base v (seenM C) ∧ Below base W w') := fun W v base h => by
    refine (sortE_any h (fun o ho => anyB_may (mayO_parts (hbag.2.1 o (mem_pickE.1 ho).1)).2.1) (by have h1 := hbag.1; have h2 : (pickE C C).length ≤ C.length := List.length_filter_le _ _; omega)).mono ?_
    rintro e w' ⟨rfl, l', h1, h2, h3, h4⟩
    rw [pickE_is hbag.2.1 hbag.2.2 h1 h2]
    exact ⟨rfl, h3, h4⟩
  obtain ⟨R, hR⟩ : ∃ z, seenM C = z := ⟨_, rfl⟩
  rw [hR] at SO ⊢
  have hnm : C.length ≤ 1024 := hbag.1
  obtain ⟨n, hn⟩ : ∃ n, n = C.length := ⟨_, rfl⟩
  have HN := Lib.hid hn
  rw [← hn] at hnm TA
  obtain ⟨st, sr, hst, hsr⟩ := s
  simp only at CC B0 ⊢
  clear hv hn0 hbag hE hC hR hn
  go_enter Tryz.func23, Tryz.ntmps23
  go_wp2_with fail
  refine CC.out.mono ?_
  rintro e w1 ⟨va, rfl, o1, b1⟩
  have B1 := Lib.hid (bt B0.out b1)
  have O1 : Hid (OwnL w1 w.heap.size va C) := o1.base B0.out.size
  obtain ⟨va0, vc0, rfl⟩ := O1.out.opl.shape
  rw [← HN.out] at O1 ⊢
  clear o1 b1 CC B0
  go_wp2_with fail
  refine (TA.out _ _ O1.out.opl).mono ?_
  rintro e w2 ⟨rfl, s2, b2⟩
  obtain ⟨N, hN⟩ : ∃ N, w1.heap.size = N := ⟨_, rfl⟩
  have hNw : w.heap.size ≤ N := by rw [← hN]; exact B1.out.size
  rw [hN] at s2
  have SM : Hid (∀ W : World, Below w2.heap.size w2 W → SetI W N n (goneM C)) := fun W h => s2.keeps h
  have HV : Hid (∀ W : World, Below w2.heap.size w2 W → OwnL W w.heap.size (.slice va0 n vc0) C) := fun W h => (O1.out.keeps b2).keeps h
  have B2 := Lib.hid (bt B1.out b2)
  have HNW : Hid (w.heap.size ≤ w2.heap.size) := B2.out.size
  have L2 : Hid (TwE w2 w2.heap.size w.heap.size (.slice none 0 0) (pickE C (C.take 0))) := TwE.nil _ _ _
  have M2 : Hid (0 = (pickE C (C.take 0)).length) := rfl
  have Z2 : Hid (Below w2.heap.size w2 w2) := Below.refl _ _
  rw [hN]
  clear s2 b2 hN O1 B1 TA hNw
  go_wp2
  go_loopw [9, 27] (fun v i wr => ∃ j m : Nat, j ≤ n ∧ i = .int .i64 (j : Int) ∧ m ≤ j ∧ (∃ ao cap, v = .slice ao m cap) ∧ Hid (m = (pickE C (C.take j)).length) ∧ Hid (TwE wr w2.heap.size w.heap.size v (pickE C (C.take j))) ∧ Hid (Below w2.heap.size w2 wr)) (fun _ i _ => n - (intOf i).toNat)
  case atStart => exact ⟨0, 0, by omega, rfl, by omega, ⟨none, 0, rfl⟩, M2, L2, Z2⟩
  case round =>
    clear M2 L2 Z2
    obtain ⟨j, m, hj, rfl, hmj, ⟨aoL, capL, rfl⟩, HM, hown, hbm⟩ := hrel
    have hbel : Hid (Below w.heap.size w wr) := bt B2.out hbm.out
    by_cases hjn : j < n
    rotate_left
    · have q3 : decide (j < n) = false := by simpa using hjn
      have hkk : C.take j = C := List.take_of_length_le (by have := HN.out; omega)
      rw [hkk] at hown
      have SX := Lib.hid (SO.out _ _ _ (hown.out.own HNW.out))
      clear hkk SO HV SM hown HM
      go_wp2_with fail
      refine SX.out.mono ?_
      rintro e w3 ⟨rfl, o3, b3⟩
      have O3 := Lib.hid o3
      have B3 : Hid (Below w.heap.size w w3) := hbel.out.trans b3
      clear o3 b3 SX
      go_wp2
      go_ret2
      exact ⟨_, rfl, O3.out, B3.out⟩
    have q3 : decide (j < n) = true := by simpa using hjn
    have q4 : (0 : Int) ≤ (j : Int) := by omega
    have q5 : (j : Int) < (n : Int) := by omega
    have hjl : j < C.length := by rw [← HN.out]; exact hjn
    have OV := HV.out wr hbm.out
    obtain ⟨bb, oo, u, e, hbb, hru, h0, h1, h2, h3, h4⟩ := opl_at (ao := va0) (m := n) (cap := vc0) OV.opl j hjl
    have hrow := ownL_place OV j hjl (by rw [e]) h3
    subst e
    obtain ⟨x, hx⟩ : ∃ x, x = C[j]'hjl := ⟨_, rfl⟩
    rw [← hx] at hru h0 h1 h2 h4 hrow
    obtain ⟨uo, uc, rfl⟩ := hru.shape
    obtain ⟨nu, hnu⟩ : ∃ n, n = x.pl.length := ⟨_, rfl⟩
    have HNU := Lib.hid hnu
    rw [← hnu] at h3 hrow
    clear hnu
    have hst2 : C.take (j + 1) = C.take j ++ [x] := by rw [List.take_succ_eq_append_getElem hjl, hx]
    have FY : Hid (x.k = 1 → goneM C (idO x) = false → pickE C (C.take (j + 1)) = pickE C (C.take j) ++ [x]) := fun h h2 => by rw [hst2]; exact pickE_yes h h2
    have FN : Hid (¬ (x.k = 1 ∧ goneM C (idO x) = false) → pickE C (C.take (j + 1)) = pickE C (C.take j)) := fun h => by rw [hst2]; exact pickE_no h
    have BL : Hid (Below wr.heap.size wr (wr.alloc (.cells #[.int .u8 (x.k : Int), .int .u32 (x.t : Int), .int .u8 (x.r : Int), .slice uo nu uc, .int .i64 x.p] 38))) := (Below.refl _ _).alloc (Nat.le_refl _) _
    obtain ⟨D, d1, d2⟩ := SM.out _ (bt hbm.out BL.out)
    obtain ⟨vv, ps, hrun, hvv⟩ := d1.look_ok idLaw Tryz.underlying100 (Covers.ZU _) unitElem_mk (key_of (idO x))
    obtain ⟨rfl, _⟩ := unitElem_inv hvv
    rw [d2 (idO x)] at hrun
    unfold idv at hrun
    obtain ⟨q, hq⟩ : ∃ q, goneM C (idO x) = q := ⟨_, rfl⟩
    rw [hq] at hrun FY FN
    rw [show (idO x).t = x.t from rfl, show (idO x).r = x.r from rfl] at hrun
    have HRW := Lib.hid hrow
    clear hru hx hrow d1 d2 hvv hst2 hq
    obtain ⟨k, hk⟩ : ∃ z, x.k = z := ⟨_, rfl⟩
    obtain ⟨t, ht⟩ : ∃ z, x.t = z := ⟨_, rfl⟩
    obtain ⟨r, hr⟩ : ∃ z, x.r = z := ⟨_, rfl⟩
    obtain ⟨p, hp⟩ : ∃ z, x.p = z := ⟨_, rfl⟩
    have HFV : Hid (∀ v : Value, [.int .u32 (t : Int), .int .u8 (r : Int), v, .int .i64 p] = [Value.int .u32 (x.t : Int), .int .u8 (x.r : Int), v, .int .i64 x.p]) := fun v => by rw [ht, hr, hp]
    rw [hk, ht, hr, hp] at hrun BL
    rw [hk] at h0 FY FN
    rw [ht] at h1
    rw [hr] at h2
    rw [hp] at h4
    have BM : Hid (Below wr.heap.size wr ((wr.alloc (.cells #[.int .u8 (k : Int), .int .u32 (t : Int), .int .u8 (r : Int), .slice uo nu uc, .int .i64 p] 38)).alloc (.cells #[] 102))) := BL.out.alloc (by simp) _
    have L5 := Lib.hid (hown.out.keeps BM.out)
    have B5 := Lib.hid (bt hbm.out BM.out)
    clear hk ht hr hp BL
    by_cases hk1 : k = 1
    rotate_left
    · have qk : ((k : Int) == 1) = false := by simp; omega
      have qk2 : decide ((k : Int) = 1) = false := decide_eq_false (by omega)
      have FT := Lib.hid (FN.out (fun h => hk1 h.1))
      rw [← FT.out] at L5 HM
      clear FY FN FT hk1 SO HV SM HRW HFV hown hbel hbb
      go_wp2
      go_roundw
      case rel => exact ⟨j + 1, m, by omega, by go_num, by omega, ⟨aoL, capL, rfl⟩, HM, L5, B5⟩
      case measure => simp [intOf]; omega
    subst hk1
    have e1 : ((1 : Nat) : Int) = 1 := rfl
    rw [e1] at h0 hrun BM L5 B5
    clear e1
    cases q
    rotate_left
    · have FT := Lib.hid (FN.out (by simp))
      rw [← FT.out] at L5 HM
      clear FY FN FT SO HV SM HRW HFV hown hbel hbb
      go_wp2
      go_roundw
      case rel => exact ⟨j + 1, m, by omega, by go_num, by omega, ⟨aoL, capL, rfl⟩, HM, L5, B5⟩
      case measure => simp [intOf]; omega
    have FT := Lib.hid (FY.out (by first | trivial | rfl) (by first | trivial | rfl))
    clear FY FN L5 B5 SO HV SM hbel
    obtain ⟨WM, hWM⟩ : ∃ z, (wr.alloc (.cells #[.int .u8 1, .int .u32 (t : Int), .int .u8 (r : Int), .slice uo nu uc, .int .i64 p] 38)).alloc (.cells #[] 102) = z := ⟨_, rfl⟩
    have hsz : WM.heap.size = wr.heap.size + 1 + 1 := by rw [← hWM]; simp
    rw [hWM] at BM
    have BE : Hid (Below wr.heap.size wr (WM.alloc (.cells #[.int .u32 (t : Int), .int .u8 (r : Int), .slice uo nu uc, .int .i64 p] 91))) := BM.out.alloc (by omega) _
    have SE : Hid (Sees (WM.alloc (.cells #[.int .u32 (t : Int), .int .u8 (r : Int), .slice uo nu uc, .int .i64 p] 91)) (.slice (some ⟨wr.heap.size + 1 + 1, 0, none⟩) 1 1) 4 1 [.int .u32 (t : Int), .int .u8 (r : Int), .slice uo nu uc, .int .i64 p]) := by
      have := sees_new WM [.int .u32 (t : Int), .int .u8 (r : Int), .slice uo nu uc, .int .i64 p] 4 1 rfl (by omega) 91 (0, 0)
      rwa [hsz] at this
    have HW3 : Hid (∃ z, WM.alloc (.cells #[.int .u32 (t : Int), .int .u8 (r : Int), .slice uo nu uc, .int .i64 p] 91) = z) := ⟨_, rfl⟩
    obtain ⟨cs, lo, lh⟩ := hown.out
    rw [← HM.out] at lo
    have LO := Lib.hid lo
    have LH := Lib.hid lh
    have OA : Hid ((WM.alloc (.cells #[.int .u32 (t : Int), .int .u8 (r : Int), .slice uo nu uc, .int .i64 p] 91)).ownsRow w2.heap.size 91 4 (.slice aoL m capL) m cs) := own_stays LO.out BE.out
    have PO : Hid ((WM.alloc (.cells #[.int .u32 (t : Int), .int .u8 (r : Int), .slice uo nu uc, .int .i64 p] 91)).ownsRow w.heap.size 32 3 (.slice uo nu uc) x.pl.length (runs x.pl)) := by unfold Hid; rw [← HNU.out]; exact own_stays HRW.out BE.out
    have FO2 : Hid (∀ z ∈ ([.int .u32 (t : Int), .int .u8 (r : Int), .slice uo nu uc, .int .i64 p] : List Value), z.oneCell' = true) := by unfold Hid; rw [HFV.out]; exact four_one x _ ⟨_, _, _, rfl⟩
    have bz : Hid (w2.heap.size ≤ (WM.alloc (.cells #[.int .u32 (t : Int), .int .u8 (r : Int), .slice uo nu uc, .int .i64 p] 91)).heap.size) := Nat.le_trans hbm.out.size BE.out.size
    subst hWM
    clear lo lh hown HW3 HRW hsz hbb BM
    go_wp2_with (at_builtin; refine wpList_append_sees rfl (.tmp 45) (.tmp 53) 52 91 rfl Tryz.underlying52 elm_info rfl (by decide) w2.heap.size _ m cs rfl OA.out _ 1 [.int .u32 (t : Int), .int .u8 (r : Int), .slice uo nu uc, .int .i64 p] rfl SE.out FO2.out ?k1 ?k2 ?k3 ?_)
    case k1 => omega
    case k2 => omega
    case k3 => exact bz.out
    rintro v6 w6 o6 g6 b6
    have L6 : Hid (TwE w6 w2.heap.size w.heap.size v6 (pickE C (C.take (j + 1)))) := by
      have lo2 := LO.out
      have o7 := o6
      rw [HFV.out] at o7
      have gx := g6
      unfold Hid
      rw [FT.out]
      rw [HM.out] at lo2 gx
      exact TwE.snoc (m := m + 1) lo2 LH.out BE.out PO.out gx o7 (by rw [HM.out])
    have M6 : Hid (m + 1 = (pickE C (C.take (j + 1))).length) := by unfold Hid; rw [FT.out, List.length_append, ← HM.out]; rfl
    have B6 : Hid (Below w2.heap.size w2 w6) := (bt hbm.out BE.out).trans b6
    obtain ⟨va, vc, rfl⟩ : ∃ ao cap, v6 = .slice ao (m + 1) cap := Sees.shape (Sees.own o6)
    clear o6 g6 b6 OA SE LO LH PO bz
    go_wp2
    go_roundw
    case rel => exact ⟨j + 1, m + 1, by omega, by go_num, by omega, ⟨va, vc, rfl⟩, M6, L6, B6⟩
    case measure => simp [intOf]; omega
end Go.Proofs.YtgjbnbojjgbmcaaGreat.Views

namespace Go.Proofs.YtgjbnbojjgbmcaaGreat.Views
open Go.RowKit Go.WideShapes Stamp Go.Proofs.YtgjbnbojjgbmcaaGreat.Place Ops Codes Bags Marks Homes Covers
attribute [local go_sem ↓] Go.wp_at_zero Go.wp_at_succ
attribute [local go_sem] yielded_undef
def put4 (X : World) (g : Nat) (d0 d1 d2 d3 : Value) : World := (((X.setCell ⟨g, 0, none⟩ d0).setCell ⟨g, 1, none⟩ d1).setCell ⟨g, 2, none⟩ d2).setCell ⟨g, 3, none⟩ d3
theorem put4_same {X : World} {g : Nat} {c0 c1 c2 c3 : Value} (d0 d1 d2 d3 : Value) {e : TypeId} (h : X.heap[g]? = some (.cells #[c0, c1, c2, c3] e)) : (put4 X g d0 d1 d2 d3).heap[g]? = some (.cells #[d0, d1, d2, d3] e) := by
  have h0 := heap_setCell_same X g 0 _ _ d0 h
  have h1 := heap_setCell_same _ g 1 _ _ d1 h0
  have h2 := heap_setCell_same _ g 2 _ _ d2 h1
  have h3 := heap_setCell_same _ g 3 _ _ d3 h2
  exact h3
theorem put4_other {X : World} {g k : Nat} (d0 d1 d2 d3 : Value) {o : Obj} (hk : k ≠ g) (h : X.heap[k]? = some o) : (put4 X g d0 d1 d2 d3).heap[k]? = some o := by
  unfold put4
  rw [heap_setCell_other _ _ _ _ hk, heap_setCell_other _ _ _ _ hk, heap_setCell_other _ _ _ _ hk, heap_setCell_other _ _ _ _ hk]
  exact h
theorem put4_below {B g : Nat} {W X : World} (d0 d1 d2 d3 : Value) (hg : B ≤ g) (h : Below B W X) : Below B W (put4 X g d0 d1 d2 d3) :=
  (((h.setCell (p := ⟨g, 0, none⟩) hg _).setCell (p := ⟨g, 1, none⟩) hg _).setCell (p := ⟨g, 2, none⟩) hg _).setCell (p := ⟨g, 3, none⟩) hg _
theorem free4 {X : World} {g : Nat} {cs : Array Value} {e : TypeId} (h : X.heap[g]? = some (.cells cs e)) (o : Nat) : X.frozen? ⟨g, o, none⟩ = false := by simp [World.frozen?, h]
end Go.Proofs.YtgjbnbojjgbmcaaGreat.Views

namespace Go.Proofs.YtgjbnbojjgbmcaaGreat.Point
open Go.RowKit Go.WideShapes
/-- What Points answers: code points, and a code. -/
def pr (s : List UInt8) : List Int × Int := match pts s with
  | none => ([], 40)
  | some l => if l.length ≤ 1024 then (l, 0) else ([], 4)
/-- An answer that the call owns: a slice of numbers and a code. -/
def Ans (L : List Int) (c : Int) (e : Ending) (w w' : World) : Prop :=
  ∃ ao cap, e = .returned (.tuple #[.slice ao L.length cap, .int .i64 c]) ∧ w'.ownsRow w.heap.size 3 1 (.slice ao L.length cap) L.length (is L) ∧ Below w.heap.size w w'
theorem own_iterAt {w : World} {base : Nat} {e : TypeId} {v : Value} {sz n : Nat} {xs : List Value} (h : w.ownsRow base e sz v n xs) {k : Nat} {s : ByteArray} {pos : Nat} (hk : w.heap[k]? = some (.stringIter s pos)) (p : Nat) : (w.iterAt k s p).ownsRow base e sz v n xs := by
  refine h.kept (row := some k) ⟨rfl, rfl, rfl, by rw [Lib.iterAt_size]; exact Nat.le_refl _, fun i _ hi => Lib.iterAt_other w k i s p (fun e => hi (by rw [e]))⟩ (.inr (own_ne h hk (fun c => by simp)))
theorem int_info : (Tryz.prog.info? 3).map (fun i => (i.zero, i.size, i.bytes)) = some (some (.int .i64 0), 1, 8) := by kernel_rfl
theorem str_data (s : ByteArray) (n : Nat) : (s.extract n s.size).data.toList = s.data.toList.drop n := by
  rw [ByteArray.data_extract]
  simp [Array.toList_extract, List.extract_eq_take_drop]
  rw [List.take_of_length_le]
  simp
/-- What is known at a round's head: up to here whole code points, the first 1025 of them in the list. -/
def At (s : ByteArray) (w wr : World) (v : Value) (m pos : Nat) (ns : List Int) : Prop :=
  m = (ns.take 1025).length ∧ pos ≤ s.size ∧ Pts ns ∧ s.data.toList.take pos = flat ns ∧ wr.heap[w.heap.size]? = some (.stringIter s pos) ∧ Below w.heap.size w wr ∧ wr.ownsRow w.heap.size 3 1 v m (is (ns.take 1025))
theorem size_data (s : ByteArray) : s.data.toList.length = s.size := by simp
theorem pr_none {s : List UInt8} (h : pts s = none) : pr s = ([], 40) := by unfold pr; rw [h]
theorem pr_some {s : List UInt8} {l : List Int} (h : pts s = some l) (hl : l.length ≤ 1024) : pr s = (l, 0) := by unfold pr; rw [h]; simp [hl]
theorem pr_many {s : List UInt8} {l : List Int} (h : pts s = some l) (hl : ¬ l.length ≤ 1024) : pr s = ([], 4) := by unfold pr; rw [h]; simp [hl]
theorem at_step {s : ByteArray} {w wr w2 : World} {v v2 : Value} {m m2 pos k : Nat} {ns : List Int} {r : Int} (h : At s w wr v m pos ns) (hp : pos < s.size) (hl : lead (s.data.toList.drop pos) = some (r, k))
    (hit : w2.heap[w.heap.size]? = some (.stringIter s (pos + k))) (hb : Below w.heap.size w w2)
    (hm2 : m2 = if m ≤ 1024 then m + 1 else m) (hown : w2.ownsRow w.heap.size 3 1 v2 m2 (if m ≤ 1024 then is (ns.take 1025) ++ [.int .i64 r] else is (ns.take 1025))) :
    At s w w2 v2 m2 (pos + k) (ns ++ [r]) := by
  obtain ⟨hm, h1, h2, h3, _, _, _⟩ := h
  have hne : s.data.toList.drop pos ≠ [] := by
    intro h0
    have := congrArg List.length h0
    rw [List.length_drop, size_data] at this
    simp at this
    omega
  obtain ⟨g1, g2, g3⟩ := lead_sound hne hl
  have hk : (enc r).length ≤ s.size - pos := by
    have := congrArg List.length g2
    rw [List.length_append, List.length_drop, List.length_drop, size_data] at this
    omega
  have hl2 : (ns.take 1025).length = min 1025 ns.length := List.length_take
  refine ⟨?_, by omega, pts_append.2 ⟨h2, by simpa [Pts] using g1⟩, ?_, hit, hb, ?_⟩
  · rw [hm2, hm, List.length_take, List.length_take, List.length_append]
    simp only [List.length_cons, List.length_nil]
    split <;> omega
  · rw [List.take_add, h3, flat_append, g2]
    congr 1
    rw [g3, List.take_left]
    simp [flat]
  · by_cases hc : ns.length ≤ 1024
    · have e1 : ns.take 1025 = ns := List.take_of_length_le (by omega)
      have e2 : (ns ++ [r]).take 1025 = ns ++ [r] := List.take_of_length_le (by simp; omega)
      rw [e1, if_pos (by omega)] at hown
      rw [e2, is_append]
      exact hown
    · have e2 : (ns ++ [r]).take 1025 = ns.take 1025 := List.take_append_of_le_length (by omega)
      rw [if_neg (by omega)] at hown
      rw [e2]
      exact hown
theorem at_stuck {s : ByteArray} {w wr : World} {v : Value} {m pos : Nat} {ns : List Int} (h : At s w wr v m pos ns) (hp : pos < s.size) (hl : lead (s.data.toList.drop pos) = none) : pts s.data.toList = none := by
  obtain ⟨hm, h1, h2, h3, _, _, _⟩ := h
  have hne : s.data.toList.drop pos ≠ [] := by
    intro h0
    have := congrArg List.length h0
    rw [List.length_drop, size_data] at this
    simp at this
    omega
  refine pts_none fun m hm he => ?_
  have := flat_stuck h2 hne hl m hm
  rw [← h3, List.take_append_drop] at this
  exact this he
theorem at_end {s : ByteArray} {w wr : World} {v : Value} {m pos : Nat} {ns : List Int} (h : At s w wr v m pos ns) (hp : ¬ pos < s.size) : pts s.data.toList = some ns := by
  obtain ⟨_, h1, h2, h3, _, _, _⟩ := h
  rw [List.take_of_length_le (by rw [size_data]; omega)] at h3
  rw [h3]
  exact pts_flat h2
theorem step_fin {s : ByteArray} {w wr w2 w' : World} {ao : Option Addr} {cap m pos k : Nat} {ns : List Int} {r : Int} {v' : Value} (hat : At s w wr (.slice ao m cap) m pos ns) (hp : pos < s.size) (hl : lead (s.data.toList.drop pos) = some (r, k))
    (hit : w2.heap[w.heap.size]? = some (.stringIter s (pos + k))) (hown : w2.ownsRow w.heap.size 3 1 (.slice ao m cap) m (is (ns.take 1025))) (hb : Below w.heap.size w w2) (hc : m ≤ 1024)
    (ho : w'.ownsRow w.heap.size 3 1 v' (m + 1) (is (ns.take 1025) ++ [.int .i64 r])) (hg : (w2.alloc (.cells #[.int .i64 r] 3)).grownBy w' (Value.slice ao m cap).ownBlock) (hb2 : Below w.heap.size (w2.alloc (.cells #[.int .i64 r] 3)) w') :
    w'.iterPos w.heap.size = pos + k ∧ 0 < k ∧ ∃ ao' cap', v' = .slice ao' (m + 1) cap' ∧ At s w w' (.slice ao' (m + 1) cap') (m + 1) (pos + k) (ns ++ [r]) := by
  have hlt : w.heap.size < w2.heap.size := (Array.getElem?_eq_some_iff.1 hit).1
  have hit' : w'.heap[w.heap.size]? = some (.stringIter s (pos + k)) := by
    rw [hg.block w.heap.size (by simp; omega) (fun e => own_ne hown hit (fun c => by simp) e.symm), Lib.alloc_old w2 _ _ hlt]
    exact hit
  obtain ⟨ao', cap', rfl⟩ : ∃ ao cap, v' = .slice ao (m + 1) cap := Sees.shape (Sees.own ho)
  have hk : 0 < k := by
    have hne : s.data.toList.drop pos ≠ [] := by
      intro h0
      have := congrArg List.length h0
      rw [List.length_drop, size_data] at this
      simp at this
      omega
    rw [(lead_sound hne hl).2.2]
    exact (enc_len r).1
  refine ⟨by unfold World.iterPos; rw [hit'], hk, ao', cap', rfl, at_step hat hp hl hit' ((hb.alloc (by omega) _).trans hb2) (by rw [if_pos hc]) (by rw [if_pos hc]; exact ho)⟩
theorem step_stay {s : ByteArray} {w wr w2 : World} {ao : Option Addr} {cap m pos k : Nat} {ns : List Int} {r : Int} (hat : At s w wr (.slice ao m cap) m pos ns) (hp : pos < s.size) (hl : lead (s.data.toList.drop pos) = some (r, k))
    (hit : w2.heap[w.heap.size]? = some (.stringIter s (pos + k))) (hown : w2.ownsRow w.heap.size 3 1 (.slice ao m cap) m (is (ns.take 1025))) (hb : Below w.heap.size w w2) (hc : ¬ m ≤ 1024) :
    w2.iterPos w.heap.size = pos + k ∧ 0 < k ∧ At s w w2 (.slice ao m cap) m (pos + k) (ns ++ [r]) := by
  have hk : 0 < k := by
    have hne : s.data.toList.drop pos ≠ [] := by
      intro h0
      have := congrArg List.length h0
      rw [List.length_drop, size_data] at this
      simp at this
      omega
    rw [(lead_sound hne hl).2.2]
    exact (enc_len r).1
  refine ⟨by unfold World.iterPos; rw [hit], hk, at_step hat hp hl hit hb (by rw [if_neg hc]) (by rw [if_neg hc]; exact hown)⟩
theorem wrap_i64_nat (n : Nat) (h : n ≤ 2147483647) : IntKind.i64.wrap (n : Int) = (n : Int) := IntWalk.i64_in _ (by omega)
theorem prefix_is (s p : ByteArray) (l : List UInt8) (hl : p.data.toList = l) (b : Bool) (hb : l.isPrefixOf s.data.toList = b) (w : World) :
    Calls Tryz.prog 61 #[.string s, .string p] w fun e w' => e = .returned (.bool b) ∧ w = w' := by
  refine (Tryz.strings_HasPrefix s p w).mono ?_
  rintro e w' ⟨rfl, rfl⟩
  refine ⟨?_, rfl⟩
  have : Lib.hasPrefix s.data.toList p.data.toList = b := by rw [hl]; exact hb
  rw [this]
set_option maxHeartbeats 4000000 in
set_option maxRecDepth 1000000 in
theorem points_any (s : ByteArray) (w : World) (hs : s.size ≤ 1073741824) :
    Calls Tryz.prog 24 #[.string s] w (fun e w' => Ans (pr s.data.toList).1 (pr s.data.toList).2 e w w') := by
  go_enter Tryz.func24, Tryz.ntmps24
  go_wp2
  go_loopw [4] (fun v wr => ∃ (ao : Option Addr) (cap m pos : Nat) (ns : List Int), v = .slice ao m cap ∧ Hid (At s w wr (.slice ao m cap) m pos ns)) (fun _ wr => s.size - wr.iterPos w.heap.size)
  case atStart =>
    refine ⟨none, 0, 0, 0, [], rfl, Lib.hid ⟨rfl, by omega, by simp [Pts], rfl, ?_, ?_, ?_⟩⟩
    · exact World.iter_heap w s 0
    · exact (Below.refl _ _).alloc (Nat.le_refl _) _
    · exact World.ownsRow_nil _ _ _ _
  case round =>
    obtain ⟨ao, cap, m, pos, ns, rfl, hat⟩ := hrel
    obtain ⟨hm, h1, h2, h3, hit, hbel, hown⟩ := hat.out
    have hsz : w.heap.size < wr.heap.size := (Array.getElem?_eq_some_iff.1 hit).1
    by_cases hp : pos < s.size
    · obtain ⟨r, hr⟩ : ∃ r, r = (Utf8.decode s pos).1 := ⟨_, rfl⟩
      obtain ⟨k, hk⟩ : ∃ k, k = (Utf8.decode s pos).2 := ⟨_, rfl⟩
      have hnx : ∀ ty, (Instr.next (.pointer (some ⟨w.heap.size, 0, none⟩)) true ty).run Tryz.prog wr = .ok (.tuple #[.bool true, .int .i64 (pos : Int), .int .i32 (r : Int)]) (wr.iterAt w.heap.size s (pos + k)) := fun ty => by
        rw [hr, hk]; exact Lib.run_next_any_at wr w.heap.size s pos ty hit hp
      have hit2 := Lib.iterAt_heap wr w.heap.size s pos (pos + k) hit
      have hbw2 := Lib.below_iterAt hbel (Nat.le_refl w.heap.size) s (pos + k)
      have hown2 := own_iterAt hown hit (pos + k)
      have hr31 : r ≤ 2147483647 := by rw [hr]; exact decode_le s pos
      obtain ⟨w2, hw2⟩ : ∃ w2, w2 = wr.iterAt w.heap.size s (pos + k) := ⟨_, rfl⟩
      rw [← hw2] at hit2 hbw2 hown2 hnx
      have hsz2 : w.heap.size < w2.heap.size := (Array.getElem?_eq_some_iff.1 hit2).1
      have hL1 : m ≤ 1025 := by rw [hm, List.length_take]; omega
      have hdr : lead (s.data.toList.drop pos) = if r = 65533 ∧ ¬ ([239, 191, 189] : List UInt8).isPrefixOf (s.data.toList.drop pos) = true then none else some ((r : Int), k) := by
        unfold lead; rw [hr, hk, dec_at]
      have HD := Lib.hid hdr
      have HI := Lib.hid hit2
      have HO := Lib.hid hown2
      have HB := Lib.hid hbw2
      have HM : Hid (wr.iterPos w.heap.size = pos) := by show World.iterPos _ _ = _; unfold World.iterPos; rw [hit]
      have q0 : (0 : Int) ≤ (pos : Int) := by omega
      have q1 : (pos : Int) ≤ (s.size : Int) := by omega
      have w1 := wrap_i64_nat r hr31
      have HN : Hid (∀ ty, (Instr.next (.pointer (some ⟨w.heap.size, 0, none⟩)) true ty).run Tryz.prog wr = .ok (.tuple #[.bool true, .int .i64 (pos : Int), .int .i32 (r : Int)]) w2) := hnx
      clear hw2 hdr h1 h2 h3 hit hbel hown hr hk hit2 hown2 hbw2 hm
      by_cases hst : r = 65533
      · have t1 : ((r : Int) == 65533) = true := by rw [beq_iff_eq]; omega
        by_cases hpre : ([239, 191, 189] : List UInt8).isPrefixOf (s.data.toList.drop pos) = true
        · have HX := Lib.hid (prefix_is (s.extract pos s.size) (ByteArray.mk #[239, 191, 189]) [239, 191, 189] rfl true (by rw [str_data]; exact hpre))
          have HL : Hid (lead (s.data.toList.drop pos) = some ((r : Int), k)) := by show lead _ = _; rw [HD.out, if_neg (fun h => h.2 hpre)]
          clear hpre hst
          by_cases hc : m ≤ 1024
          · have t2 : decide ((m : Int) ≤ 1024) = true := by simp; omega
            have HS : Hid (Sees (w2.alloc (.cells #[.int .i64 (r : Int)] 3)) (.slice (some ⟨w2.heap.size, 0, none⟩) 1 1) 1 1 [.int .i64 (r : Int)]) := sees_new w2 [.int .i64 (r : Int)] 1 1 rfl (by omega) _ _
            go_wp2_with (first | (go_at_call 61; refine (HX.out _).mono ?_; rintro e w3 ⟨rfl, rfl⟩) | (at_builtin; refine wpList_append_sees rfl (.tmp 25) (.tmp 28) 55 3 rfl Tryz.underlying55 int_info rfl (by decide) w.heap.size _ m _ rfl (HO.out.alloc _) _ 1 _ rfl HS.out ?k1 ?k2 ?k3 ?k4 ?_))
            case k1 => exact is_oneCell [(r : Int)]
            case k2 => omega
            case k3 => omega
            case k4 => simp; omega
            rintro v' w' ho hg hb
            obtain ⟨f1, f2, ao', cap', rfl, f3⟩ := step_fin hat.out hp HL.out HI.out HO.out HB.out hc ho hg hb
            have F1 := Lib.hid f1
            have F3 := Lib.hid f3
            clear f1 f3 ho hg hb hnx
            go_wp2
            go_roundw
            case rel => exact ⟨ao', cap', m + 1, pos + k, ns ++ [(r : Int)], rfl, F3⟩
            case measure => rw [F1.out, HM.out]; omega
          · have t2 : decide ((m : Int) ≤ 1024) = false := by simp; omega
            obtain ⟨f1, f2, f3⟩ := step_stay hat.out hp HL.out HI.out HO.out HB.out hc
            have F1 := Lib.hid f1
            have F3 := Lib.hid f3
            clear f1 f3
            go_wp2_with (go_at_call 61; refine (HX.out _).mono ?_; rintro e w3 ⟨rfl, rfl⟩)
            go_roundw
            case rel => exact ⟨ao, cap, m, pos + k, ns ++ [(r : Int)], rfl, F3⟩
            case measure => rw [F1.out, HM.out]; omega
        · have HX := Lib.hid (prefix_is (s.extract pos s.size) (ByteArray.mk #[239, 191, 189]) [239, 191, 189] rfl false (by rw [str_data]; exact Bool.eq_false_iff.2 hpre))
          have hl := at_stuck hat.out hp (by rw [HD.out, if_pos ⟨hst, hpre⟩])
          have HF := Lib.hid (pr_none hl)
          clear hl hpre
          go_wp2_with fail
          refine (HX.out _).mono ?_
          rintro e w3 ⟨rfl, rfl⟩
          go_wp2
          go_ret2
          rw [HF.out]
          exact ⟨none, 0, rfl, World.ownsRow_nil _ _ _ _, HB.out⟩
      · have t1 : ((r : Int) == 65533) = false := by rw [beq_eq_false_iff_ne]; omega
        have HL : Hid (lead (s.data.toList.drop pos) = some ((r : Int), k)) := by show lead _ = _; rw [HD.out, if_neg (fun h => hst h.1)]
        clear hst
        by_cases hc : m ≤ 1024
        · have t2 : decide ((m : Int) ≤ 1024) = true := by simp; omega
          have HS : Hid (Sees (w2.alloc (.cells #[.int .i64 (r : Int)] 3)) (.slice (some ⟨w2.heap.size, 0, none⟩) 1 1) 1 1 [.int .i64 (r : Int)]) := sees_new w2 [.int .i64 (r : Int)] 1 1 rfl (by omega) _ _
          go_wp2_with (at_builtin; refine wpList_append_sees rfl (.tmp 25) (.tmp 28) 55 3 rfl Tryz.underlying55 int_info rfl (by decide) w.heap.size _ m _ rfl (HO.out.alloc _) _ 1 _ rfl HS.out ?k1 ?k2 ?k3 ?k4 ?_)
          case k1 => exact is_oneCell [(r : Int)]
          case k2 => omega
          case k3 => omega
          case k4 => simp; omega
          rintro v' w' ho hg hb
          obtain ⟨f1, f2, ao', cap', rfl, f3⟩ := step_fin hat.out hp HL.out HI.out HO.out HB.out hc ho hg hb
          have F1 := Lib.hid f1
          have F3 := Lib.hid f3
          clear f1 f3 ho hg hb hnx
          go_wp2
          go_roundw
          case rel => exact ⟨ao', cap', m + 1, pos + k, ns ++ [(r : Int)], rfl, F3⟩
          case measure => rw [F1.out, HM.out]; omega
        · have t2 : decide ((m : Int) ≤ 1024) = false := by simp; omega
          obtain ⟨f1, f2, f3⟩ := step_stay hat.out hp HL.out HI.out HO.out HB.out hc
          have F1 := Lib.hid f1
          have F3 := Lib.hid f3
          clear f1 f3
          go_wp2
          go_roundw
          case rel => exact ⟨ao, cap, m, pos + k, ns ++ [(r : Int)], rfl, F3⟩
          case measure => rw [F1.out, HM.out]; omega
    · have hnx : ∀ ty, (Instr.next (.pointer (some ⟨w.heap.size, 0, none⟩)) true ty).run Tryz.prog wr = .ok (.tuple #[.bool false]) wr := fun ty => Lib.run_next_end_at wr w.heap.size s pos ty hit hp
      have hend := at_end hat.out hp
      by_cases hc : ns.length ≤ 1024
      · have HF := Lib.hid (pr_some hend hc)
        have e1 : ns.take 1025 = ns := List.take_of_length_le (by omega)
        rw [e1] at hown hm
        have t1 : decide ((1024 : Int) < (m : Int)) = false := by simp; omega
        have t2 : decide (1024 < m) = false := by simp; omega
        have HO := Lib.hid hown
        have HM := Lib.hid hm
        clear hown e1 hend h3 hat hm
        go_wp2
        go_ret2
        rw [HF.out]
        have := HO.out
        rw [HM.out] at this
        exact ⟨ao, cap, by rw [HM.out]; rfl, this, hbel⟩
      · have HF := Lib.hid (pr_many hend hc)
        have t1 : decide ((1024 : Int) < (m : Int)) = true := by rw [hm, List.length_take]; simp; omega
        have t2 : decide (1024 < m) = true := by rw [hm, List.length_take]; simp; omega
        clear hown hend h3 hat hm
        go_wp2
        go_ret2
        rw [HF.out]
        exact ⟨none, 0, rfl, World.ownsRow_nil _ _ _ _, hbel⟩
end Go.Proofs.YtgjbnbojjgbmcaaGreat.Point
