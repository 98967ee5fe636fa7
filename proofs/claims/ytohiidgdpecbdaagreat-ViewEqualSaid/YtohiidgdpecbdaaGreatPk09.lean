/- octavo/cover.chosen, Homed, Counts, Version: what each answers. Conditions: the slice's cells are operations. octavo/view.Elements: what it answers. Conditions: the slice's cells are operations. octavoref15.Word, Text: what each answers. Conditions: the slices' cells are elements, operations. A strings.Builder that a call has made: what its methods do. Conditions: the new length takes at most 2 to the 47 bytes. octavo/view.Text, Offset, At: what each answers. Conditions: the slice's cells are operations. octavoref15.Same, SameAll: of like elements, like lists. Conditions: the slices' cells are elements. -/
import Derived.Test.YtohiidgdpecbdaaGreatChecked
import Derived.WalkKit
import Derived.WalkSpells
import Derived.WalkLawsBesides
import Derived.Laws.BytesArg
import Derived.Lib.Hide
import Derived.Deep.LoopGhost
import Derived.Laws.AppendOwnNone
import Derived.Laws.OwnMore
import Derived.WideShapes
import Derived.Maps.AppendAt
import Derived.RegionTactic
import Derived.Deep.RegionHeld3
import Derived.Deep.DrawnRows
import Derived.Deep.QuietTactic
import Derived.BigQuiet
import Derived.IntWalk
import Derived.Deep.DeepCutAuto
import Derived.ScopeJumps
import Derived.Test.YtohiidgdpecbdaaGreatProg
import Derived.LoopTactic
import Derived.Laws.EntriesVeiled
import Derived.RowKit
import Derived.Maps.Own
import Derived.Maps.OwnOps
import Derived.Maps.OwnSet
import Derived.Maps.Views
import Derived.DeepKeys4
import Derived.Scope
import Derived.Shelf.Abstract
import Derived.Shelf.SlSortCmp.InsertionK
import Derived.Calls
import Derived.StepT
import Derived.Below
import Derived.Sort.Grow
import Derived.Deep.Draws
import Derived.Shelf.SlLaysF0
import Derived.Shelf.SlSortCmp.NoneTotal
import Derived.RangeFuncBox
import Derived.RangeFuncLeaves
import Derived.RangeFuncNested
import Derived.RangeFuncBound
import Derived.RangeFuncCalls
import Derived.OwnWalkIn
import Derived.TacticsInMore
import Derived.LoopNIn
import Derived.LoopIn
import Derived.Lib.Tables
import Derived.Laws.Bits64
import Derived.Lib.DecodeN
import Derived.Lib.RuneBytes
import Derived.Test.YtohiidgdpecbdaaGreatShelf
import Derived.Lib.OthersKept
import Derived.BigCall
import Derived.Test.YtohiidgdpecbdaaGreatRw
import Derived.Test.YtohiidgdpecbdaaGreatPk07
import Derived.Test.YtohiidgdpecbdaaGreatPk06
import Derived.Test.YtohiidgdpecbdaaGreatPk05
import Derived.Test.YtohiidgdpecbdaaGreatPk04
import Derived.Test.YtohiidgdpecbdaaGreatPk03
import Derived.Test.YtohiidgdpecbdaaGreatPk02
import Derived.Test.YtohiidgdpecbdaaGreatPk01
import Derived.Test.YtohiidgdpecbdaaGreatPk08

namespace Go.Proofs.YtohiidgdpecbdaaGreat.Covers
open Go.RowKit Go.WideShapes Stamp Go.Proofs.YtohiidgdpecbdaaGreat.Place Ops Codes Bags Marks Homes
attribute [local go_sem ↓] Go.wp_at_zero Go.wp_at_succ
attribute [local go_sem] yielded_undef
/-- What a choice answers, asked of content of the bag. -/
def Asks (f : Nat) (l : List Opn) (s : Id) (Q : Opn → Bool) : Prop := ∀ (W : World) (va vb u : Value) (g b n : Nat) (o : Opn), o ∈ l → Runs W va (fromL l s) → Runs W vb (toL l s) → Runs W u o.pl → SetI W b n (hasO l) → W.cell? ⟨g, 0, none⟩ = some (.map (some b)) → g < W.heap.size →
  Calls Tryz.prog f #[.agg #[va, vb, .func (.func 125) #[] #[.pointer (some ⟨g, 0, none⟩)]], opv o u] W fun e w' => e = .returned (.bool (Q o)) ∧ Below W.heap.size W w'
set_option maxRecDepth 100000 in
set_option maxHeartbeats 8000000 in
theorem chosen_any {v0 : Value} {l : List Opn} (s : Id) (f : Nat) (eg : ∀ args w, (callFunc f args).run Tryz.prog w = .ok (.enter f args) w) (Q : Opn → Bool) {w : World} (hv : OpL w v0 l) (hQ : spanE l s = 0 → Asks f l s Q) :
    Calls Tryz.prog 50 #[v0, .agg #[.int .u32 (s.t : Int), .int .u8 (s.r : Int)], .func (.func f) #[] #[]] w (DoneN (if spanE l s = 0 then l.filter (fun o => contB o && Q o) else []) (spanE l s) w) := by
  obtain ⟨ao, cap, rfl⟩ := hv.shape
  obtain ⟨n, hn⟩ : ∃ n, n = l.length := ⟨_, rfl⟩
  have HV : Hid (∀ W : World, Below w.heap.size w W → OpL W (.slice ao l.length cap) l) := fun W h => hv.keeps h
  have HN := Lib.hid hn
  have B0 : Hid (Below w.heap.size w (w.alloc (.cells #[.int .u32 (s.t : Int), .int .u8 (s.r : Int)] 25))) := (Below.refl _ _).alloc (Nat.le_refl _) _
  have SP : Hid (Calls Tryz.prog 78 #[.slice ao n cap, .agg #[.int .u32 (s.t : Int), .int .u8 (s.r : Int)]] (w.alloc (.cells #[.int .u32 (s.t : Int), .int .u8 (s.r : Int)] 25)) (TwoR (fromL l s) (toL l s) (spanE l s) (w.alloc (.cells #[.int .u32 (s.t : Int), .int .u8 (s.r : Int)] 25)))) := by
    have := hSpan_any s (hv.keeps B0.out)
    rwa [← hn] at this
  have hcs := spanE_cases l s
  by_cases hE : spanE l s = 0
  rotate_left
  · obtain ⟨c, hc⟩ : ∃ c, spanE l s = c := ⟨_, rfl⟩
    rw [hc] at hE hcs SP ⊢
    rw [if_neg hE, ← hn]
    have q1 : (c != 0) = true := by simpa using hE
    have q2 : decide (c = 0) = false := decide_eq_false hE
    obtain ⟨st, sr, hst, hsr⟩ := s
    simp only at SP B0 ⊢
    clear hv hn HV HN hcs hQ hc
    go_enter Tryz.func50, Tryz.ntmps50
    go_wp2_with fail
    refine SP.out.mono ?_
    rintro e w1 ⟨va, vb, rfl, h1, h2, b1⟩
    have B1 := Lib.hid (bt B0.out b1)
    clear h1 h2 b1 SP B0
    go_wp2
    go_ret2
    exact ⟨_, rfl, OwnL.nil _ _, B1.out⟩
  have hbag := (spanE_zero.1 hE).1
  have ASK : Hid (Asks f l s Q) := hQ hE
  rw [if_pos hE]
  rw [hE] at SP ⊢
  have hnm : n ≤ 1024 := by rw [hn]; exact hbag.1
  have HP : Hid (∀ o ∈ l, o.pl.length ≤ 8796093022208) := (bag_fits hbag).2
  have AS : Hid (∀ W : World, Below w.heap.size w W → Calls Tryz.prog 79 #[.slice ao n cap] W fun e w' => ∃ g b n, e = .returned (.func (.func 125) #[] #[.pointer (some ⟨g, 0, none⟩)]) ∧ g < w'.heap.size ∧ w'.cell? ⟨g, 0, none⟩ = some (.map (some b)) ∧ SetI w' b n (hasO l) ∧ Below W.heap.size W w') := fun W h => by
    have := asking_any (hv.keeps h) hbag.1
    rwa [← hn] at this
  rw [← hn]
  obtain ⟨st, sr, hst, hsr⟩ := s
  simp only at SP B0 ⊢
  obtain ⟨F, hF⟩ : ∃ F, fromL l ⟨st, sr, hst, hsr⟩ = F := ⟨_, rfl⟩
  obtain ⟨T, hT⟩ : ∃ T, toL l ⟨st, sr, hst, hsr⟩ = T := ⟨_, rfl⟩
  have AK : Hid (∀ (W : World) (va vb u : Value) (g b n : Nat) (o : Opn), o ∈ l → Runs W va F → Runs W vb T → Runs W u o.pl → SetI W b n (hasO l) → W.cell? ⟨g, 0, none⟩ = some (.map (some b)) → g < W.heap.size →
      Calls Tryz.prog f #[.agg #[va, vb, .func (.func 125) #[] #[.pointer (some ⟨g, 0, none⟩)]], opv o u] W fun e w' => e = .returned (.bool (Q o)) ∧ Below W.heap.size W w') := by
    have := ASK.out
    unfold Asks at this
    rw [hF, hT] at this
    exact this
  rw [hF, hT] at SP
  clear hv hn hcs hQ hbag ASK hE hF hT
  go_enter Tryz.func50, Tryz.ntmps50
  go_wp2_with fail
  refine SP.out.mono ?_
  rintro e w1 ⟨va, vb, rfl, h1, h2, b1⟩
  have R1 : Hid (Runs w1 va F) := Runs.own h1
  have R2 : Hid (Runs w1 vb T) := Runs.own h2
  obtain ⟨fo, fc, rfl⟩ := Runs.shape R1.out
  obtain ⟨to', tc, rfl⟩ := Runs.shape R2.out
  obtain ⟨nf, hnf⟩ : ∃ n, F.length = n := ⟨_, rfl⟩
  obtain ⟨nt, hnt⟩ : ∃ n, T.length = n := ⟨_, rfl⟩
  rw [hnf] at R1 ⊢
  rw [hnt] at R2 ⊢
  have B1 := Lib.hid (bt B0.out b1)
  clear h1 h2 b1 SP B0 hnf hnt
  go_wp2_with fail
  refine (AS.out _ B1.out).mono ?_
  rintro e w2 ⟨g, b, n0, rfl, hg, hc, hs, b2⟩
  have R3 := Lib.hid (R1.out.keeps b2)
  have R4 := Lib.hid (R2.out.keeps b2)
  have B2 := Lib.hid (bt B1.out b2)
  obtain ⟨wm, hwm⟩ : ∃ wm, w2.alloc (.cells #[.slice fo nf fc, .slice to' nt tc, .func (.func 125) #[] #[.pointer (some ⟨g, 0, none⟩)]] 108) = wm := ⟨_, rfl⟩
  have BM : Hid (Below w2.heap.size w2 wm) := by rw [← hwm]; exact (Below.refl _ _).alloc (Nat.le_refl _) _
  have XM : Hid (wm.heap[w2.heap.size]? = some (.cells #[.slice fo nf fc, .slice to' nt tc, .func (.func 125) #[] #[.pointer (some ⟨g, 0, none⟩)]] 108)) := by rw [← hwm]; exact blk_new rfl
  have HWM := Lib.hid hwm
  have S0 : Hid (SetI wm b n0 (hasO l)) := hs.keeps BM.out
  have C0 : Hid (wm.cell? ⟨g, 0, none⟩ = some (.map (some b))) := (BM.out.cell (p := ⟨g, 0, none⟩) hg).trans hc
  have G0 : Hid (g < wm.heap.size) := Nat.lt_of_lt_of_le hg BM.out.size
  have AX : Hid (∀ (W : World) (u : Value) (o : Opn), Below wm.heap.size wm W → o ∈ l → Runs W u o.pl → Calls Tryz.prog f #[.agg #[.slice fo nf fc, .slice to' nt tc, .func (.func 125) #[] #[.pointer (some ⟨g, 0, none⟩)]], opv o u] W fun e w' => e = .returned (.bool (Q o)) ∧ Below W.heap.size W w') := fun W u o h1 h2 h3 =>
    AK.out W _ _ u g b n0 o h2 (R3.out.keeps (bt BM.out h1)) (R4.out.keeps (bt BM.out h1)) h3 (S0.out.keeps h1) ((h1.cell (p := ⟨g, 0, none⟩) G0.out).trans C0.out) (Nat.lt_of_lt_of_le G0.out h1.size)
  have B3 : Hid (Below w.heap.size w wm) := bt B2.out BM.out
  have HZ : Hid (w2.heap.size < wm.heap.size) := (Array.getElem?_eq_some_iff.1 XM.out).1
  have L2 : Hid (OwnL wm wm.heap.size (.slice none 0 0) ((l.take 0).filter (fun o => contB o && Q o))) := OwnL.nil _ _
  have M2 : Hid (0 = ((l.take 0).filter (fun o => contB o && Q o)).length) := rfl
  have Z2 : Hid (Below wm.heap.size wm wm) := Below.refl _ _
  clear b2 hg hc hs hwm R1 R2 R3 R4 B1 B2 S0 C0 G0 AK AS BM
  go_wp2
  rw [HWM.out]
  go_loopw [12, 32] (fun v i wr => ∃ j m : Nat, j ≤ n ∧ i = .int .i64 (j : Int) ∧ m ≤ j ∧ (∃ ao cap, v = .slice ao m cap) ∧ Hid (m = ((l.take j).filter (fun o => contB o && Q o)).length) ∧ Hid (OwnL wr wm.heap.size v ((l.take j).filter (fun o => contB o && Q o))) ∧ Hid (Below wm.heap.size wm wr)) (fun _ i _ => n - (intOf i).toNat)
  case atStart => exact ⟨0, 0, by omega, rfl, by omega, ⟨none, 0, rfl⟩, M2, L2, Z2⟩
  case round =>
    clear M2 L2 Z2 HWM
    obtain ⟨j, m, hj, rfl, hmj, ⟨aoL, capL, rfl⟩, HM, hown, hbm⟩ := hrel
    have hbel : Hid (Below w.heap.size w wr) := bt B3.out hbm.out
    by_cases hjn : j < n
    rotate_left
    · have q3 : decide (j < n) = false := by simpa using hjn
      have hkk : l.take j = l := List.take_of_length_le (by have := HN.out; omega)
      rw [hkk] at hown
      clear hkk
      go_wp2
      go_ret2
      exact ⟨_, rfl, hown.out.base B3.out.size, hbel.out⟩
    have q3 : decide (j < n) = true := by simpa using hjn
    have q4 : (0 : Int) ≤ (j : Int) := by omega
    have q5 : (j : Int) < (n : Int) := by omega
    have hjl : j < l.length := by rw [← HN.out]; exact hjn
    obtain ⟨bb, oo, u, e, hbb, hru, h0, h1, h2, h3, h4⟩ := opl_at (HV.out wr hbel.out) j hjl
    subst e
    obtain ⟨x, hx⟩ : ∃ x, x = l[j]'hjl := ⟨_, rfl⟩
    rw [← hx] at hru h0 h1 h2 h4
    have HO : Hid (∀ v : Value, opv x v = .agg #[.int .u8 (x.k : Int), .int .u32 (x.t : Int), .int .u8 (x.r : Int), v, .int .i64 x.p]) := fun v => rfl
    obtain ⟨uo, uc, rfl⟩ := hru.shape
    obtain ⟨nu, hnu⟩ : ∃ n, n = x.pl.length := ⟨_, rfl⟩
    have HNU := Lib.hid hnu
    rw [← hnu] at hru h3
    clear hnu
    have hxl : x ∈ l := by rw [hx]; exact List.getElem_mem hjl
    have hpx : x.pl.length ≤ 8796093022208 := HP.out x hxl
    have FT : Hid ((l.take (j + 1)).filter (fun o => contB o && Q o) = (l.take j).filter (fun o => contB o && Q o) ++ (if (contB x && Q x) = true then [x] else [])) := by
      unfold Hid
      rw [List.take_succ_eq_append_getElem hjl, List.filter_append, hx]
      congr 1
      simp [List.filter_cons]
    obtain ⟨L, hL⟩ : ∃ z, (l.take j).filter (fun o => contB o && Q o) = z := ⟨_, rfl⟩
    rw [hL] at HM hown FT
    have CO : Hid (∀ W : World, Calls Tryz.prog 80 #[opv x (.slice uo nu uc)] W fun e w' => e = .returned (.bool (contB x)) ∧ Below W.heap.size W w') := fun W => oContent_any W
    have CH : Hid (∀ W : World, Below wr.heap.size wr W → Calls Tryz.prog f #[.agg #[.slice fo nf fc, .slice to' nt tc, .func (.func 125) #[] #[.pointer (some ⟨g, 0, none⟩)]], opv x (.slice uo nu uc)] W fun e w' => e = .returned (.bool (Q x)) ∧ Below W.heap.size W w') := fun W h => AX.out W _ x (bt hbm.out h) hxl (by rw [HNU.out]; rw [HNU.out] at hru; exact hru.keeps h)
    have TW : Hid (∀ W : World, Below wr.heap.size wr W → Calls Tryz.prog 81 #[opv x (.slice uo nu uc)] W fun e w' => ∃ ao cap, e = .returned (opv x (.slice ao nu cap)) ∧ w'.ownsRow wm.heap.size 52 3 (.slice ao nu cap) x.pl.length (runs x.pl) ∧ Below W.heap.size W w') := fun W hW => by
      refine (oTwin_any (hru.keeps hW) hpx).mono ?_
      rintro e w' ⟨v', rfl, ho, hb⟩
      obtain ⟨ao', cap', rfl⟩ : ∃ ao cap, v' = .slice ao x.pl.length cap := Sees.shape (Sees.own ho)
      rw [← HNU.out] at ho ⊢
      exact ⟨ao', cap', rfl, op_base ho (Nat.le_trans hbm.out.size hW.size), hb⟩
    clear hx hru hpx hL hxl
    obtain ⟨k, hk⟩ : ∃ z, x.k = z := ⟨_, rfl⟩
    obtain ⟨t, ht⟩ : ∃ z, x.t = z := ⟨_, rfl⟩
    obtain ⟨r, hr⟩ : ∃ z, x.r = z := ⟨_, rfl⟩
    obtain ⟨p, hp⟩ : ∃ z, x.p = z := ⟨_, rfl⟩
    rw [hk, ht, hr, hp] at HO
    rw [hk] at h0
    rw [ht] at h1
    rw [hr] at h2
    rw [hp] at h4
    simp only [HO.out] at TW CO CH
    have HFV : Hid (∀ v : Value, [.int .u8 (k : Int), .int .u32 (t : Int), .int .u8 (r : Int), v, .int .i64 p] = [Value.int .u8 (x.k : Int), .int .u32 (x.t : Int), .int .u8 (x.r : Int), v, .int .i64 x.p]) := fun v => by rw [hk, ht, hr, hp]
    obtain ⟨qc, hqc⟩ : ∃ q, contB x = q := ⟨_, rfl⟩
    rw [hqc] at CO FT
    obtain ⟨q, hq⟩ : ∃ q, Q x = q := ⟨_, rfl⟩
    rw [hq] at CH FT
    have BL : Hid (Below wr.heap.size wr (wr.alloc (.cells #[.int .u8 (k : Int), .int .u32 (t : Int), .int .u8 (r : Int), .slice uo nu uc, .int .i64 p] 62))) := (Below.refl _ _).alloc (Nat.le_refl _) _
    have SK : Hid (∀ W : World, Below (wr.alloc (.cells #[.int .u8 (k : Int), .int .u32 (t : Int), .int .u8 (r : Int), .slice uo nu uc, .int .i64 p] 62)).heap.size (wr.alloc (.cells #[.int .u8 (k : Int), .int .u32 (t : Int), .int .u8 (r : Int), .slice uo nu uc, .int .i64 p] 62)) W → (W.cell? ⟨wr.heap.size, 0, none⟩ = some (.int .u8 (k : Int)) ∧ W.cell? ⟨wr.heap.size, 1, none⟩ = some (.int .u32 (t : Int)) ∧ W.cell? ⟨wr.heap.size, 2, none⟩ = some (.int .u8 (r : Int)) ∧ W.cell? ⟨wr.heap.size, 3, none⟩ = some (.slice uo nu uc) ∧ W.cell? ⟨wr.heap.size, 4, none⟩ = some (.int .i64 p)) ∧ W.cell? ⟨w2.heap.size, 0, none⟩ = some (.slice fo nf fc) ∧ W.cell? ⟨w2.heap.size, 1, none⟩ = some (.slice to' nt tc) ∧ W.cell? ⟨w2.heap.size, 2, none⟩ = some (.func (.func 125) #[] #[.pointer (some ⟨g, 0, none⟩)])) := fun W h => by
      have g1 := blk_below h (blk_below BL.out (blk_below hbm.out XM.out))
      exact ⟨five_cells h, cell_of_row _ _ 0 _ _ _ g1, cell_of_row _ _ 1 _ _ _ g1, cell_of_row _ _ 2 _ _ _ g1⟩
    clear hk ht hr hp HO hqc hq
    cases qc
    · have FT2 : Hid ((l.take (j + 1)).filter (fun o => contB o && Q o) = L) := by unfold Hid; rw [FT.out]; simp
      clear FT TW HFV SK CH
      go_wp2_with fail
      refine (CO.out _).mono ?_
      rintro e w5 ⟨rfl, b5⟩
      have B5 := Lib.hid (bt BL.out b5)
      clear b5
      have L5 := Lib.hid (hown.out.keeps B5.out)
      have B6 := Lib.hid (bt hbm.out B5.out)
      rw [← FT2.out] at L5 HM
      clear hown
      go_wp2
      go_roundw
      case rel => exact ⟨j + 1, m, by omega, by go_num, by omega, ⟨aoL, capL, rfl⟩, HM, L5, B6⟩
      case measure => simp [intOf]; omega
    cases q
    · have FT2 : Hid ((l.take (j + 1)).filter (fun o => contB o && Q o) = L) := by unfold Hid; rw [FT.out]; simp
      clear FT TW HFV
      go_wp2_with fail
      refine (CO.out _).mono ?_
      rintro e w4 ⟨rfl, b4⟩
      have B4 := Lib.hid (bt BL.out b4)
      obtain ⟨⟨g0, g1, g2, g3, g4⟩, f0, f1, f2⟩ := SK.out _ b4
      clear b4 SK h0 h1 h2 h3 h4
      go_wp2_with fail
      refine (CH.out _ B4.out).mono ?_
      rintro e w5 ⟨rfl, b5⟩
      have B5 := Lib.hid (bt B4.out b5)
      clear b5 g0 g1 g2 g3 g4 f0 f1 f2
      have L5 := Lib.hid (hown.out.keeps B5.out)
      have B6 := Lib.hid (bt hbm.out B5.out)
      rw [← FT2.out] at L5 HM
      clear hown
      go_wp2
      go_roundw
      case rel => exact ⟨j + 1, m, by omega, by go_num, by omega, ⟨aoL, capL, rfl⟩, HM, L5, B6⟩
      case measure => simp [intOf]; omega
    have FT2 : Hid ((l.take (j + 1)).filter (fun o => contB o && Q o) = L ++ [x]) := by unfold Hid; rw [FT.out]; simp
    clear FT
    go_wp2_with fail
    refine (CO.out _).mono ?_
    rintro e w3 ⟨rfl, b3⟩
    have B3' := Lib.hid (bt BL.out b3)
    have BX3 := Lib.hid b3
    obtain ⟨⟨g0, g1, g2, g3, g4⟩, f0, f1, f2⟩ := SK.out _ b3
    clear b3 h0 h1 h2 h3 h4
    go_wp2_with fail
    refine (CH.out _ B3'.out).mono ?_
    rintro e w4 ⟨rfl, b4⟩
    have B4 := Lib.hid (bt B3'.out b4)
    clear g0 g1 g2 g3 g4 f0 f1 f2
    obtain ⟨⟨g0, g1, g2, g3, g4⟩, f0, f1, f2⟩ := SK.out _ (bt BX3.out b4)
    clear b4 SK f0 f1 f2 BX3 B3'
    go_wp2_with fail
    refine (TW.out _ B4.out).mono ?_
    rintro e w5 ⟨aoO, capO, rfl, o5, b5⟩
    have B5 := Lib.hid (bt B4.out b5)
    have BW5 := Lib.hid (bt hbel.out B5.out)
    have BM5 := Lib.hid (bt hbm.out B5.out)
    have LL := Lib.hid (hown.out.keeps B5.out)
    obtain ⟨cs, lo, lh⟩ := LL.out
    rw [← HM.out] at lo
    have LO := Lib.hid lo
    have LH := Lib.hid lh
    have PO : Hid (w5.ownsRow wm.heap.size 52 3 (.slice aoO nu capO) x.pl.length (runs x.pl)) := o5
    have SE : Hid (Sees (w5.alloc (.cells #[.int .u8 (k : Int), .int .u32 (t : Int), .int .u8 (r : Int), .slice aoO nu capO, .int .i64 p] 62)) (.slice (some ⟨w5.heap.size, 0, none⟩) 1 1) 5 1 [.int .u8 (k : Int), .int .u32 (t : Int), .int .u8 (r : Int), .slice aoO nu capO, .int .i64 p]) := sees_new w5 [.int .u8 (k : Int), .int .u32 (t : Int), .int .u8 (r : Int), .slice aoO nu capO, .int .i64 p] 5 1 rfl (by omega) 62 (0, 0)
    have OA : Hid ((w5.alloc (.cells #[.int .u8 (k : Int), .int .u32 (t : Int), .int .u8 (r : Int), .slice aoO nu capO, .int .i64 p] 62)).ownsRow wm.heap.size 62 5 (.slice aoL m capL) m cs) := own_stays LO.out ((Below.refl _ _).alloc (Nat.le_refl _) _)
    have FO2 : Hid (∀ z ∈ ([.int .u8 (k : Int), .int .u32 (t : Int), .int .u8 (r : Int), .slice aoO nu capO, .int .i64 p] : List Value), z.oneCell' = true) := by unfold Hid; rw [HFV.out]; exact five_one x _ ⟨_, _, _, rfl⟩
    have bz : Hid (wm.heap.size ≤ (w5.alloc (.cells #[.int .u8 (k : Int), .int .u32 (t : Int), .int .u8 (r : Int), .slice aoO nu capO, .int .i64 p] 62)).heap.size) := by have := BM5.out.size; unfold Hid; simp; omega
    clear o5 b5 lo lh hown hbel LL g0 g1 g2 g3 g4
    go_wp2_with (at_builtin; refine wpList_append_sees rfl (.tmp 44) (.tmp 47) 22 62 rfl Tryz.underlying22 op_info rfl (by decide) wm.heap.size _ m cs rfl OA.out _ 1 [.int .u8 (k : Int), .int .u32 (t : Int), .int .u8 (r : Int), .slice aoO nu capO, .int .i64 p] rfl SE.out FO2.out ?k1 ?k2 ?k3 ?_)
    case k1 => omega
    case k2 => omega
    case k3 => exact bz.out
    rintro v6 w6 o6 g6 b6
    have L6 : Hid (OwnL w6 wm.heap.size v6 ((l.take (j + 1)).filter (fun o => contB o && Q o))) := by
      have lo2 := LO.out
      have o7 := o6
      rw [HFV.out] at o7
      have po := own_stays PO.out ((Below.refl _ _).alloc (Nat.le_refl _) (.cells #[.int .u8 (k : Int), .int .u32 (t : Int), .int .u8 (r : Int), .slice aoO nu capO, .int .i64 p] 62))
      have gx := g6
      unfold Hid
      rw [FT2.out]
      rw [HM.out] at lo2 gx
      refine OwnL.snoc (W := w5) (W8 := w5.alloc (.cells #[.int .u8 (k : Int), .int .u32 (t : Int), .int .u8 (r : Int), .slice aoO nu capO, .int .i64 p] 62)) (m := m + 1) lo2 LH.out ((Below.refl _ _).alloc (Nat.le_refl _) _) po gx o7 (by rw [HM.out])
    have M6 : Hid (m + 1 = ((l.take (j + 1)).filter (fun o => contB o && Q o)).length) := by unfold Hid; rw [FT2.out, List.length_append, ← HM.out]; rfl
    have B6 : Hid (Below wm.heap.size wm w6) := (BM5.out.alloc BM5.out.size _).trans b6
    obtain ⟨va, vc, rfl⟩ : ∃ ao cap, v6 = .slice ao (m + 1) cap := Sees.shape (Sees.own o6)
    clear o6 g6 b6 OA SE LO LH PO bz
    go_wp2
    go_roundw
    case rel => exact ⟨j + 1, m + 1, by omega, by go_num, by omega, ⟨va, vc, rfl⟩, M6, L6, B6⟩
    case measure => simp [intOf]; omega
theorem homed_filter {l : List Opn} {s : Id} (hE : spanE l s = 0) : l.filter (fun o => contB o && homB (fromL l s) (toL l s) o.pl) = inL l (livesM l l) s := by
  unfold inL
  refine List.filter_congr fun o ho => ?_
  rw [homB_is hE (anyB_may (mayO_parts ((spanE_zero.1 hE).1.2.1 o ho)).2.1)]
theorem counts_filter {l : List Opn} {s : Id} (hE : spanE l s = 0) : l.filter (fun o => contB o && (homB (fromL l s) (toL l s) o.pl && isB l (livesM l l) s o)) = countL l (livesM l l) s := by
  unfold countL
  rw [← homed_filter hE, List.filter_filter]
  refine List.filter_congr fun o ho => ?_
  cases contB o <;> cases homB (fromL l s) (toL l s) o.pl <;> cases isB l (livesM l l) s o <;> rfl
set_option maxRecDepth 100000 in
set_option maxHeartbeats 4000000 in
theorem cCounts_any {v : Value} {l : List Opn} (s : Id) {w : World} (hv : OpL w v l) : Calls Tryz.prog 23 #[v, .agg #[.int .u32 (s.t : Int), .int .u8 (s.r : Int)]] w (DoneN (countsL l s) (spanE l s) w) := by
  have B0 : Hid (Below w.heap.size w (w.alloc (.cells #[.int .u32 (s.t : Int), .int .u8 (s.r : Int)] 25))) := (Below.refl _ _).alloc (Nat.le_refl _) _
  have CH : Hid (Calls Tryz.prog 50 #[v, .agg #[.int .u32 (s.t : Int), .int .u8 (s.r : Int)], .func (.func 51) #[] #[]] (w.alloc (.cells #[.int .u32 (s.t : Int), .int .u8 (s.r : Int)] 25)) (DoneN (countsL l s) (spanE l s) (w.alloc (.cells #[.int .u32 (s.t : Int), .int .u8 (s.r : Int)] 25)))) := by
    have h := chosen_any s 51 (enters_of Tryz.func51 (by kernel_rfl) rfl) (fun o => homB (fromL l s) (toL l s) o.pl && isB l (livesM l l) s o) (hv.keeps B0.out) (fun hE => fun W va vb u g b n o ho ha hb hu hs hc hg => counts_any hE ho ha hb hu hs hc hg)
    have e : (if spanE l s = 0 then l.filter (fun o => contB o && (fun o => homB (fromL l s) (toL l s) o.pl && isB l (livesM l l) s o) o) else []) = countsL l s := by
      unfold countsL
      by_cases hE : spanE l s = 0
      · rw [if_pos hE, if_pos hE]; exact counts_filter hE
      · rw [if_neg hE, if_neg hE]
    rwa [e] at h
  obtain ⟨ao, cap, rfl⟩ := hv.shape
  obtain ⟨n, hn⟩ : ∃ n, n = l.length := ⟨_, rfl⟩
  rw [← hn] at CH ⊢
  obtain ⟨R, hR⟩ : ∃ R, countsL l s = R := ⟨_, rfl⟩
  obtain ⟨c, hc⟩ : ∃ c, spanE l s = c := ⟨_, rfl⟩
  rw [hR, hc] at CH ⊢
  obtain ⟨st, sr, hst, hsr⟩ := s
  simp only at CH B0 ⊢
  clear hv hn hR hc
  go_enter Tryz.func23, Tryz.ntmps23
  go_wp2_with fail
  refine CH.out.mono ?_
  rintro e w1 ⟨va, rfl, o1, b1⟩
  have B1 := Lib.hid (bt B0.out b1)
  have O1 : Hid (OwnL w1 w.heap.size va R) := o1.base B0.out.size
  clear b1 o1 CH B0
  go_wp2
  go_ret2
  exact ⟨_, rfl, O1.out, B1.out⟩
theorem bag_count {l : List Opn} (h : Bag l) (live : List Opn) (s : Id) : Bag (countL l live s) := ⟨Nat.le_trans (countL_sub l live s).length_le h.1, fun o ho => h.2.1 o ((countL_sub l live s).subset ho), h.2.2.sublist (countL_sub l live s)⟩
end Go.Proofs.YtohiidgdpecbdaaGreat.Covers

namespace Go.Proofs.YtohiidgdpecbdaaGreat.Views
open Go.RowKit Go.WideShapes Stamp Go.Proofs.YtohiidgdpecbdaaGreat.Place Ops Codes Bags Marks Homes Covers
attribute [local go_sem ↓] Go.wp_at_zero Go.wp_at_succ
attribute [local go_sem] yielded_undef
theorem ownL_place {w : World} {base n cap bb oo : Nat} {v u : Value} {l : List Opn} (hv : OwnL w base v l) (k : Nat) (h : k < l.length) (e : v = .slice (some ⟨bb, oo, none⟩) n cap) (hc : w.cell? ⟨bb, oo + k * 5 + 3, none⟩ = some u) : w.ownsRow base 52 3 u (l[k]'h).pl.length (runs (l[k]'h).pl) := by
  obtain ⟨g, c2, y, e2, h3, ho⟩ := ownL_at hv k h
  rw [e] at e2
  injection e2 with e2 _ _
  injection e2 with e2
  injection e2 with e3 e4 _
  subst e3 e4
  rw [Nat.zero_add] at hc
  rw [hc] at h3
  injection h3 with h3
  subst h3
  exact ho
set_option maxRecDepth 100000 in
set_option maxHeartbeats 16000000 in
theorem vElements_any {v : Value} {l : List Opn} (s : Id) {w : World} (hv : OpL w v l) : Calls Tryz.prog 7 #[v, .agg #[.int .u32 (s.t : Int), .int .u8 (s.r : Int)]] w (DoneOE (elmL l s) (spanE l s) w) := by
  have B0 : Hid (Below w.heap.size w (w.alloc (.cells #[.int .u32 (s.t : Int), .int .u8 (s.r : Int)] 25))) := (Below.refl _ _).alloc (Nat.le_refl _) _
  have CC : Hid (Calls Tryz.prog 23 #[v, .agg #[.int .u32 (s.t : Int), .int .u8 (s.r : Int)]] (w.alloc (.cells #[.int .u32 (s.t : Int), .int .u8 (s.r : Int)] 25)) (DoneN (countsL l s) (spanE l s) (w.alloc (.cells #[.int .u32 (s.t : Int), .int .u8 (s.r : Int)] 25)))) := cCounts_any s (hv.keeps B0.out)
  obtain ⟨ao, cap, rfl⟩ := hv.shape
  obtain ⟨n0, hn0⟩ : ∃ n, n = l.length := ⟨_, rfl⟩
  rw [← hn0] at CC ⊢
  by_cases hE : spanE l s = 0
  rotate_left
  · have e1 : elmL l s = [] := elm_no hE
    rw [e1]
    obtain ⟨c, hc⟩ : ∃ c, spanE l s = c := ⟨_, rfl⟩
    obtain ⟨R, hR⟩ : ∃ R, countsL l s = R := ⟨_, rfl⟩
    rw [hc] at hE CC ⊢
    rw [hR] at CC
    have q1 : (c != 0) = true := by simpa using hE
    have q2 : decide (c = 0) = false := decide_eq_false hE
    obtain ⟨st, sr, hst, hsr⟩ := s
    simp only at CC B0 ⊢
    clear hv hn0 hc hR e1
    go_enter Tryz.func7, Tryz.ntmps7
    go_wp2_with fail
    refine CC.out.mono ?_
    rintro e w1 ⟨va, rfl, o1, b1⟩
    have B1 := Lib.hid (bt B0.out b1)
    clear o1 b1 CC B0
    go_wp2
    go_ret2
    exact ⟨_, rfl, OwnE.nil _ _, B1.out⟩
  have hbag : Bag (countsL l s) := by
    unfold countsL
    rw [if_pos hE]
    exact bag_count (spanE_zero.1 hE).1 _ _
  rw [hE] at CC ⊢
  unfold elmL
  obtain ⟨C, hC⟩ : ∃ C, countsL l s = C := ⟨_, rfl⟩
  rw [hC] at CC hbag ⊢
  have TA : Hid (∀ (W : World) (y : Value), OpL W y C → Calls Tryz.prog 24 #[y] W fun e w' => e = .returned (.map (some W.heap.size)) ∧ SetI w' W.heap.size C.length (goneM C) ∧ Below W.heap.size W w') := fun W y h => takenAway_any h hbag.2.1 hbag.1
  have SO : Hid (∀ (W : World) (v : Value) (base : Nat), OwnE W base v (pickE C C) → Calls Tryz.prog 25 #[v, .func (.func 26) #[] #[]] W fun e w' => e = .returned (.tuple #[]) ∧ OwnE w' base v (seenM C) ∧ Below base W w') := fun W v base h => by
    refine (sortE_any h (fun o ho => anyB_may (mayO_parts (hbag.2.1 o (mem_pickE.1 ho).1)).2.1) (by have h1 := hbag.1; have h2 : (pickE C C).length ≤ C.length := List.length_filter_le _ _; omega)).mono ?_
    rintro e w' ⟨rfl, l', h1, h2, h3, h4⟩
    rw [pickE_is hbag.2.1 hbag.2.2 h1 h2]
    exact ⟨rfl, h3, h4⟩
  obtain ⟨R, hR⟩ : ∃ z, seenM C = z := ⟨_, rfl⟩
  rw [hR] at SO ⊢
  have hnm : C.length ≤ 1024 := hbag.1
  obtain ⟨n, hn⟩ : ∃ n, n = C.length := ⟨_, rfl⟩
  have HN := Lib.hid hn
  rw [← hn] at hnm TA
  obtain ⟨st, sr, hst, hsr⟩ := s
  simp only at CC B0 ⊢
  clear hv hn0 hbag hE hC hR hn
  go_enter Tryz.func7, Tryz.ntmps7
  go_wp2_with fail
  refine CC.out.mono ?_
  rintro e w1 ⟨va, rfl, o1, b1⟩
  have B1 := Lib.hid (bt B0.out b1)
  have O1 : Hid (OwnL w1 w.heap.size va C) := o1.base B0.out.size
  obtain ⟨va0, vc0, rfl⟩ := O1.out.opl.shape
  rw [← HN.out] at O1 ⊢
  clear o1 b1 CC B0
  go_wp2_with fail
  refine (TA.out _ _ O1.out.opl).mono ?_
  rintro e w2 ⟨rfl, s2, b2⟩
  obtain ⟨N, hN⟩ : ∃ N, w1.heap.size = N := ⟨_, rfl⟩
  have hNw : w.heap.size ≤ N := by rw [← hN]; exact B1.out.size
  rw [hN] at s2
  have SM : Hid (∀ W : World, Below w2.heap.size w2 W → SetI W N n (goneM C)) := fun W h => s2.keeps h
  have HV : Hid (∀ W : World, Below w2.heap.size w2 W → OwnL W w.heap.size (.slice va0 n vc0) C) := fun W h => (O1.out.keeps b2).keeps h
  have B2 := Lib.hid (bt B1.out b2)
  have HNW : Hid (w.heap.size ≤ w2.heap.size) := B2.out.size
  have L2 : Hid (TwE w2 w2.heap.size w.heap.size (.slice none 0 0) (pickE C (C.take 0))) := TwE.nil _ _ _
  have M2 : Hid (0 = (pickE C (C.take 0)).length) := rfl
  have Z2 : Hid (Below w2.heap.size w2 w2) := Below.refl _ _
  rw [hN]
  clear s2 b2 hN O1 B1 TA hNw
  go_wp2
  go_loopw [9, 27] (fun v i wr => ∃ j m : Nat, j ≤ n ∧ i = .int .i64 (j : Int) ∧ m ≤ j ∧ (∃ ao cap, v = .slice ao m cap) ∧ Hid (m = (pickE C (C.take j)).length) ∧ Hid (TwE wr w2.heap.size w.heap.size v (pickE C (C.take j))) ∧ Hid (Below w2.heap.size w2 wr)) (fun _ i _ => n - (intOf i).toNat)
  case atStart => exact ⟨0, 0, by omega, rfl, by omega, ⟨none, 0, rfl⟩, M2, L2, Z2⟩
  case round =>
    clear M2 L2 Z2
    obtain ⟨j, m, hj, rfl, hmj, ⟨aoL, capL, rfl⟩, HM, hown, hbm⟩ := hrel
    have hbel : Hid (Below w.heap.size w wr) := bt B2.out hbm.out
    by_cases hjn : j < n
    rotate_left
    · have q3 : decide (j < n) = false := by simpa using hjn
      have hkk : C.take j = C := List.take_of_length_le (by have := HN.out; omega)
      rw [hkk] at hown
      have SX := Lib.hid (SO.out _ _ _ (hown.out.own HNW.out))
      clear hkk SO HV SM hown HM
      go_wp2_with fail
      refine SX.out.mono ?_
      rintro e w3 ⟨rfl, o3, b3⟩
      have O3 := Lib.hid o3
      have B3 : Hid (Below w.heap.size w w3) := hbel.out.trans b3
      clear o3 b3 SX
      go_wp2
      go_ret2
      exact ⟨_, rfl, O3.out, B3.out⟩
    have q3 : decide (j < n) = true := by simpa using hjn
    have q4 : (0 : Int) ≤ (j : Int) := by omega
    have q5 : (j : Int) < (n : Int) := by omega
    have hjl : j < C.length := by rw [← HN.out]; exact hjn
    have OV := HV.out wr hbm.out
    obtain ⟨bb, oo, u, e, hbb, hru, h0, h1, h2, h3, h4⟩ := opl_at (ao := va0) (m := n) (cap := vc0) OV.opl j hjl
    have hrow := ownL_place OV j hjl (by rw [e]) h3
    subst e
    obtain ⟨x, hx⟩ : ∃ x, x = C[j]'hjl := ⟨_, rfl⟩
    rw [← hx] at hru h0 h1 h2 h4 hrow
    obtain ⟨uo, uc, rfl⟩ := hru.shape
    obtain ⟨nu, hnu⟩ : ∃ n, n = x.pl.length := ⟨_, rfl⟩
    have HNU := Lib.hid hnu
    rw [← hnu] at h3 hrow
    clear hnu
    have hst2 : C.take (j + 1) = C.take j ++ [x] := by rw [List.take_succ_eq_append_getElem hjl, hx]
    have FY : Hid (x.k = 1 → goneM C (idO x) = false → pickE C (C.take (j + 1)) = pickE C (C.take j) ++ [x]) := fun h h2 => by rw [hst2]; exact pickE_yes h h2
    have FN : Hid (¬ (x.k = 1 ∧ goneM C (idO x) = false) → pickE C (C.take (j + 1)) = pickE C (C.take j)) := fun h => by rw [hst2]; exact pickE_no h
    have BL : Hid (Below wr.heap.size wr (wr.alloc (.cells #[.int .u8 (x.k : Int), .int .u32 (x.t : Int), .int .u8 (x.r : Int), .slice uo nu uc, .int .i64 x.p] 62))) := (Below.refl _ _).alloc (Nat.le_refl _) _
    obtain ⟨D, d1, d2⟩ := SM.out _ (bt hbm.out BL.out)
    obtain ⟨vv, ps, hrun, hvv⟩ := d1.look_ok idLaw Tryz.underlying65 (Covers.ZU _) unitElem_mk (key_of (idO x))
    obtain ⟨rfl, _⟩ := unitElem_inv hvv
    rw [d2 (idO x)] at hrun
    unfold idv at hrun
    obtain ⟨q, hq⟩ : ∃ q, goneM C (idO x) = q := ⟨_, rfl⟩
    rw [hq] at hrun FY FN
    rw [show (idO x).t = x.t from rfl, show (idO x).r = x.r from rfl] at hrun
    have HRW := Lib.hid hrow
    clear hru hx hrow d1 d2 hvv hst2 hq
    obtain ⟨k, hk⟩ : ∃ z, x.k = z := ⟨_, rfl⟩
    obtain ⟨t, ht⟩ : ∃ z, x.t = z := ⟨_, rfl⟩
    obtain ⟨r, hr⟩ : ∃ z, x.r = z := ⟨_, rfl⟩
    obtain ⟨p, hp⟩ : ∃ z, x.p = z := ⟨_, rfl⟩
    have HFV : Hid (∀ v : Value, [.int .u32 (t : Int), .int .u8 (r : Int), v, .int .i64 p] = [Value.int .u32 (x.t : Int), .int .u8 (x.r : Int), v, .int .i64 x.p]) := fun v => by rw [ht, hr, hp]
    rw [hk, ht, hr, hp] at hrun BL
    rw [hk] at h0 FY FN
    rw [ht] at h1
    rw [hr] at h2
    rw [hp] at h4
    have BM : Hid (Below wr.heap.size wr ((wr.alloc (.cells #[.int .u8 (k : Int), .int .u32 (t : Int), .int .u8 (r : Int), .slice uo nu uc, .int .i64 p] 62)).alloc (.cells #[] 67))) := BL.out.alloc (by simp) _
    have L5 := Lib.hid (hown.out.keeps BM.out)
    have B5 := Lib.hid (bt hbm.out BM.out)
    clear hk ht hr hp BL
    by_cases hk1 : k = 1
    rotate_left
    · have qk : ((k : Int) == 1) = false := by simp; omega
      have qk2 : decide ((k : Int) = 1) = false := decide_eq_false (by omega)
      have FT := Lib.hid (FN.out (fun h => hk1 h.1))
      rw [← FT.out] at L5 HM
      clear FY FN FT hk1 SO HV SM HRW HFV hown hbel hbb
      go_wp2
      go_roundw
      case rel => exact ⟨j + 1, m, by omega, by go_num, by omega, ⟨aoL, capL, rfl⟩, HM, L5, B5⟩
      case measure => simp [intOf]; omega
    subst hk1
    have e1 : ((1 : Nat) : Int) = 1 := rfl
    rw [e1] at h0 hrun BM L5 B5
    clear e1
    cases q
    rotate_left
    · have FT := Lib.hid (FN.out (by simp))
      rw [← FT.out] at L5 HM
      clear FY FN FT SO HV SM HRW HFV hown hbel hbb
      go_wp2
      go_roundw
      case rel => exact ⟨j + 1, m, by omega, by go_num, by omega, ⟨aoL, capL, rfl⟩, HM, L5, B5⟩
      case measure => simp [intOf]; omega
    have FT := Lib.hid (FY.out (by first | trivial | rfl) (by first | trivial | rfl))
    clear FY FN L5 B5 SO HV SM hbel
    obtain ⟨WM, hWM⟩ : ∃ z, (wr.alloc (.cells #[.int .u8 1, .int .u32 (t : Int), .int .u8 (r : Int), .slice uo nu uc, .int .i64 p] 62)).alloc (.cells #[] 67) = z := ⟨_, rfl⟩
    have hsz : WM.heap.size = wr.heap.size + 1 + 1 := by rw [← hWM]; simp
    rw [hWM] at BM
    have BE : Hid (Below wr.heap.size wr (WM.alloc (.cells #[.int .u32 (t : Int), .int .u8 (r : Int), .slice uo nu uc, .int .i64 p] 44))) := BM.out.alloc (by omega) _
    have SE : Hid (Sees (WM.alloc (.cells #[.int .u32 (t : Int), .int .u8 (r : Int), .slice uo nu uc, .int .i64 p] 44)) (.slice (some ⟨wr.heap.size + 1 + 1, 0, none⟩) 1 1) 4 1 [.int .u32 (t : Int), .int .u8 (r : Int), .slice uo nu uc, .int .i64 p]) := by
      have := sees_new WM [.int .u32 (t : Int), .int .u8 (r : Int), .slice uo nu uc, .int .i64 p] 4 1 rfl (by omega) 44 (0, 0)
      rwa [hsz] at this
    have HW3 : Hid (∃ z, WM.alloc (.cells #[.int .u32 (t : Int), .int .u8 (r : Int), .slice uo nu uc, .int .i64 p] 44) = z) := ⟨_, rfl⟩
    obtain ⟨cs, lo, lh⟩ := hown.out
    rw [← HM.out] at lo
    have LO := Lib.hid lo
    have LH := Lib.hid lh
    have OA : Hid ((WM.alloc (.cells #[.int .u32 (t : Int), .int .u8 (r : Int), .slice uo nu uc, .int .i64 p] 44)).ownsRow w2.heap.size 44 4 (.slice aoL m capL) m cs) := own_stays LO.out BE.out
    have PO : Hid ((WM.alloc (.cells #[.int .u32 (t : Int), .int .u8 (r : Int), .slice uo nu uc, .int .i64 p] 44)).ownsRow w.heap.size 52 3 (.slice uo nu uc) x.pl.length (runs x.pl)) := by unfold Hid; rw [← HNU.out]; exact own_stays HRW.out BE.out
    have FO2 : Hid (∀ z ∈ ([.int .u32 (t : Int), .int .u8 (r : Int), .slice uo nu uc, .int .i64 p] : List Value), z.oneCell' = true) := by unfold Hid; rw [HFV.out]; exact four_one x _ ⟨_, _, _, rfl⟩
    have bz : Hid (w2.heap.size ≤ (WM.alloc (.cells #[.int .u32 (t : Int), .int .u8 (r : Int), .slice uo nu uc, .int .i64 p] 44)).heap.size) := Nat.le_trans hbm.out.size BE.out.size
    subst hWM
    clear lo lh hown HW3 HRW hsz hbb BM
    go_wp2_with (at_builtin; refine wpList_append_sees rfl (.tmp 45) (.tmp 53) 29 44 rfl Tryz.underlying29 elm_info rfl (by decide) w2.heap.size _ m cs rfl OA.out _ 1 [.int .u32 (t : Int), .int .u8 (r : Int), .slice uo nu uc, .int .i64 p] rfl SE.out FO2.out ?k1 ?k2 ?k3 ?_)
    case k1 => omega
    case k2 => omega
    case k3 => exact bz.out
    rintro v6 w6 o6 g6 b6
    have L6 : Hid (TwE w6 w2.heap.size w.heap.size v6 (pickE C (C.take (j + 1)))) := by
      have lo2 := LO.out
      have o7 := o6
      rw [HFV.out] at o7
      have gx := g6
      unfold Hid
      rw [FT.out]
      rw [HM.out] at lo2 gx
      exact TwE.snoc (m := m + 1) lo2 LH.out BE.out PO.out gx o7 (by rw [HM.out])
    have M6 : Hid (m + 1 = (pickE C (C.take (j + 1))).length) := by unfold Hid; rw [FT.out, List.length_append, ← HM.out]; rfl
    have B6 : Hid (Below w2.heap.size w2 w6) := (bt hbm.out BE.out).trans b6
    obtain ⟨va, vc, rfl⟩ : ∃ ao cap, v6 = .slice ao (m + 1) cap := Sees.shape (Sees.own o6)
    clear o6 g6 b6 OA SE LO LH PO bz
    go_wp2
    go_roundw
    case rel => exact ⟨j + 1, m + 1, by omega, by go_num, by omega, ⟨va, vc, rfl⟩, M6, L6, B6⟩
    case measure => simp [intOf]; omega
end Go.Proofs.YtohiidgdpecbdaaGreat.Views

namespace Go.Proofs.YtohiidgdpecbdaaGreat.Views
open Go.RowKit Go.WideShapes Stamp Go.Proofs.YtohiidgdpecbdaaGreat.Place Ops Codes Bags Marks Homes Covers
attribute [local go_sem ↓] Go.wp_at_zero Go.wp_at_succ
attribute [local go_sem] yielded_undef
theorem ins_pt {o : Opn} (h : mayO o = true) (hk : o.k = 1) : Point.IsPt o.p := by
  have h3 := (mayO_parts h).2.2
  unfold kindB kindF at h3
  rw [if_pos hk, Bool.and_eq_true] at h3
  exact of_decide_eq_true h3.2
theorem wordM_snoc {c : List Opn} {j : Nat} (h : j < c.length) : wordM (c.take (j + 1)) = wordM (c.take j) ++ Point.enc (c[j]'h).p := by
  unfold wordM
  rw [List.take_succ_eq_append_getElem h, List.map_append, Point.flat_append]
  simp [Point.flat]
theorem wordM_len (c : List Opn) : (wordM c).length ≤ 4 * c.length := by
  unfold wordM
  have := (Point.flat_len (c.map (·.p))).2
  rwa [List.length_map] at this
end Go.Proofs.YtohiidgdpecbdaaGreat.Views

namespace Go.Proofs.YtohiidgdpecbdaaGreat.Strb
open Go.RowKit
abbrev Is (B b : Nat) (l : List UInt8) (w : World) : Prop := Lib.IsBuilderF 78 5 B b (Lib.byteCells l) w
theorem size_b : (Tryz.prog.info? 78).map (·.size) = some 2 := by kernel_rfl
theorem lies_b : liesAt Tryz.prog Tryz.prog.depth 78 (2 / Tryz.prog.cellsOf 78) 0 78 1 = true := by kernel_rfl
set_option maxHeartbeats 1000000 in
set_option maxRecDepth 100000 in
theorem copyCheck_used (b : Nat) (w : World) (h0 : w.cell? ⟨b, 0, none⟩ = some (.pointer (some ⟨b, 0, none⟩))) :
    Calls Tryz.prog 66 #[.pointer (some ⟨b, 0, none⟩)] w fun e w' => e = .returned (.tuple #[]) ∧ w' = w := by
  obtain ⟨j, hj, _⟩ := Option.map_eq_some_iff.1 size_b
  go_enter Tryz.func66, Tryz.ntmps66
  go_wp2
  rw [Lib.run_neq_ptr_same w _ Tryz.underlying75 hj]
  go_wp2
  go_end0
  exact ⟨rfl, rfl⟩
set_option maxHeartbeats 1000000 in
set_option maxRecDepth 100000 in
theorem copyCheck_fresh (b : Nat) (w : World) (h0 : w.cell? ⟨b, 0, none⟩ = some (.pointer none)) (hsh : w.shape? b = some (78, 2)) (hfz : w.frozen? ⟨b, 0, none⟩ = false) :
    Calls Tryz.prog 66 #[.pointer (some ⟨b, 0, none⟩)] w fun e w' => e = .returned (.tuple #[]) ∧ w' = w.setCell ⟨b, 0, none⟩ (.pointer (some ⟨b, 0, none⟩)) := by
  obtain ⟨j, hj, hjs⟩ := Option.map_eq_some_iff.1 size_b
  go_enter Tryz.func66, Tryz.ntmps66
  go_wp2
  rw [Lib.run_to_unsafe w ⟨b, 0, none⟩ Tryz.underlying75 Tryz.underlying156 hj (by rw [hjs]; decide) hsh (Nat.zero_lt_succ 1)]
  simp only [Result.andThen]
  rw [Oper.upon_value]
  go_wp2
  rw [run_callFunc_extern Tryz.func109 (by kernel_rfl) (by kernel_rfl) (by kernel_rfl) (e := Extern.AbiNoEscape.same) (by kernel_rfl)]
  rw [Lib.run_noEscape]
  simp only [Result.andThen]
  rw [Oper.upon_value]
  go_wp2
  rw [Lib.run_from_unsafe w ⟨b, 0, none⟩ Tryz.underlying156 Tryz.underlying75 hj hsh lies_b]
  simp only [Result.andThen]
  rw [Oper.upon_value]
  go_wp2
  go_end0
  exact ⟨rfl, rfl⟩
theorem copyCheck_any (B b : Nat) (l : List Value) (w : World) (h : Lib.IsBuilderF 78 5 B b l w) :
    Calls Tryz.prog 66 #[.pointer (some ⟨b, 0, none⟩)] w fun e w' => e = .returned (.tuple #[]) ∧ Lib.BuilderAtF 78 5 B b (.pointer (some ⟨b, 0, none⟩)) l w' ∧ Below B w w' ∧ Lib.OthersKept 5 (some b) w w' := by
  rcases h with h | h
  · refine (copyCheck_fresh b w h.cell0 h.shape h.frozen0).mono ?_
    rintro e w' ⟨rfl, rfl⟩
    exact ⟨rfl, h.used _, (Below.refl B w).setCell (p := ⟨b, 0, none⟩) h.1 _, (Lib.OthersKept.refl _ _ w).setCell ⟨b, 0, none⟩ rfl _⟩
  · refine (copyCheck_used b w h.cell0).mono ?_
    rintro e w' ⟨rfl, rfl⟩
    exact ⟨rfl, h, Below.refl B _, Lib.OthersKept.refl _ _ _⟩
set_option maxHeartbeats 4000000 in
set_option maxRecDepth 100000 in
theorem writeRune_any (B b : Nat) (l : List UInt8) (r : Int) (hr0 : -2147483648 ≤ r) (hr1 : r ≤ 2147483647) (w : World) (h : Is B b l w) (hlen : l.length + 4 ≤ 140737488355328) (hBw : B ≤ w.heap.size) :
    Calls Tryz.prog 32 #[.pointer (some ⟨b, 0, none⟩), .int .i32 r] w fun e w' => (∃ v, e = .returned v) ∧ Is B b (l ++ Lib.encodeRune r) w' ∧ Below B w w' ∧ Lib.OthersKept 5 (some b) w w' := by
  have hk4 := Lib.runeCells_le r
  obtain ⟨xs, hxs⟩ : ∃ xs, xs = Lib.byteCells l := ⟨_, rfl⟩
  have hxl : xs.length = l.length := by rw [hxs, Lib.byteCells_length]
  have HX := Lib.hid hxs
  unfold Is at h
  rw [← hxs] at h
  rw [← hxl] at hlen
  clear hxs hxl
  go_enter Tryz.func32, Tryz.ntmps32
  go_wp2_with fail
  refine (copyCheck_any B b xs _ h).mono ?_
  rintro e w1 ⟨rfl, h1, hb1, hk1⟩
  obtain ⟨hB, v, hbk, hown, hne⟩ := h1
  obtain ⟨ao, cap, rfl⟩ : ∃ ao cap, v = .slice ao xs.length cap := by
    rcases hown.2 with ⟨hv, h0⟩ | ⟨g, cap, cur, fz, hv, _⟩
    · exact ⟨none, 0, by rw [hv, h0]⟩
    · exact ⟨_, _, hv⟩
  have c0 : w1.cell? ⟨b, 0, none⟩ = some (.pointer (some ⟨b, 0, none⟩)) := by rw [Lib.cell_of_heap hbk]; rfl
  have c1 : w1.cell? ⟨b, 1, none⟩ = some (.slice ao xs.length cap) := by rw [Lib.cell_of_heap hbk]; rfl
  go_wp2_with fail
  refine (Tryz.utf8_AppendRune_row B _ xs.length xs r hr0 hr1 _ hown hlen (by have := hb1.size; omega)).mono ?_
  rintro e w2 ⟨v', rfl, hown', o, hgrow⟩
  have hlt : b < w1.heap.size := by
    rcases Nat.lt_or_ge b w1.heap.size with h' | h'
    · exact h'
    · simp [Array.getElem?_eq_none h'] at hbk
  have hb2 : w2.heap[b]? = some (.cells #[.pointer (some ⟨b, 0, none⟩), .slice ao xs.length cap] 78 (0, 0)) := by
    rw [hgrow.block b (by simp; omega) (fun e => hne e.symm), Lib.alloc_old w1 _ b hlt]
    exact hbk
  have d0 : w2.cell? ⟨b, 0, none⟩ = some (.pointer (some ⟨b, 0, none⟩)) := by rw [Lib.cell_of_heap hb2]; rfl
  have d1 : w2.cell? ⟨b, 1, none⟩ = some (.slice ao xs.length cap) := by rw [Lib.cell_of_heap hb2]; rfl
  have f1 : w2.frozen? ⟨b, 1, none⟩ = false := Lib.frozen_of_heap hb2 1
  obtain ⟨g, cap', rfl⟩ : ∃ g cap', v' = .slice (some ⟨g, 0, none⟩) (xs.length + (Lib.runeCells r).length) cap' := by
    rcases hown'.2 with ⟨_, h0⟩ | ⟨g, cap', cur, fz, hv, _⟩
    · omega
    · exact ⟨g, cap', hv⟩
  go_wp2
  go_ret2
  refine ⟨⟨_, rfl⟩, ?_, ?_, ((hk1.alloc _).grown hgrow (Lib.ownsRowF_kind (hown.alloc _))).setCell ⟨b, 1, none⟩ rfl _⟩
  · right
    rw [Lib.byteCells_append, Lib.byteCells_encodeRune, ← HX.out]
    exact Lib.BuilderAtF.put (T := 78) (e := 5) hB hb2 (bs' := xs ++ Lib.runeCells r) (by simpa using hown') (by decide)
  · exact ((hb1.alloc (by have := hb1.size; omega) _).grown hgrow (by have := hb1.size; simp; omega) (fun k hk => (hown.lt k hk).1)).setCell (p := ⟨b, 1, none⟩) hB _
end Go.Proofs.YtohiidgdpecbdaaGreat.Strb

namespace Go.Proofs.YtohiidgdpecbdaaGreat.Views
open Go.RowKit Go.WideShapes Stamp Go.Proofs.YtohiidgdpecbdaaGreat.Place Ops Codes Bags Marks Homes Covers
attribute [local go_sem ↓] Go.wp_at_zero Go.wp_at_succ
attribute [local go_sem] yielded_undef
theorem is_below {B b : Nat} {l : List UInt8} {W W' : World} (h : Strb.Is B b l W) (hb : Below W.heap.size W W') : Strb.Is B b l W' := by
  have one : ∀ {p : Value}, Lib.BuilderAtF 78 5 B b p (Lib.byteCells l) W → Lib.BuilderAtF 78 5 B b p (Lib.byteCells l) W' := by
    intro p h
    have hlt := h.lt
    obtain ⟨h1, v, h2, h3, h4⟩ := h
    have hg : W.grownBy W' none := ⟨hb.os, hb.tape, hb.output, hb.size, fun k hk _ => hb.block k hk⟩
    exact ⟨h1, v, (hb.block b hlt).trans h2, h3.kept hg (Classical.em _), h4⟩
  rcases h with h | h
  · exact .inl (one h)
  · exact .inr (one h)
set_option maxRecDepth 1000000 in
set_option maxHeartbeats 8000000 in
theorem vText_any {v : Value} {l : List Opn} (s : Id) {w : World} (hv : OpL w v l) : Calls Tryz.prog 9 #[v, .agg #[.int .u32 (s.t : Int), .int .u8 (s.r : Int)]] w fun e w' => e = .returned (.tuple #[.string (str (textL l s)), .int .i64 (spanE l s)]) ∧ Below w.heap.size w w' := by
  obtain ⟨wl, hwl⟩ : ∃ x, x = w.alloc (.cells #[.int .u32 (s.t : Int), .int .u8 (s.r : Int)] 25) := ⟨_, rfl⟩
  have B0 : Hid (Below w.heap.size w wl) := by rw [hwl]; exact (Below.refl _ _).alloc (Nat.le_refl _) _
  have Y0 : Hid (wl.heap[w.heap.size]? = some (.cells #[.int .u32 (s.t : Int), .int .u8 (s.r : Int)] 25)) := by rw [hwl]; exact blk_new rfl
  have HW := Lib.hid hwl
  have EL : Hid (Calls Tryz.prog 7 #[v, .agg #[.int .u32 (s.t : Int), .int .u8 (s.r : Int)]] wl (DoneOE (elmL l s) (spanE l s) wl)) := vElements_any s (hv.keeps B0.out)
  have HT : Hid (spanE l s ≠ 0 → textL l s = []) := fun h => by unfold textL; rw [elm_no h]; rfl
  have HP : Hid (∀ o ∈ elmL l s, Point.IsPt o.p) := fun o ho => ins_pt (mem_elm_l ho).2.2.2.2.1 (mem_elm_l ho).2.2.2.2.2
  have hlen := (elm_fits l s).1
  have hT0 : textL l s = wordM (elmL l s) := rfl
  rw [hT0] at HT ⊢
  unfold DoneOE at EL
  obtain ⟨L, hL⟩ : ∃ L, elmL l s = L := ⟨_, rfl⟩
  obtain ⟨x, hx⟩ : ∃ x, spanE l s = x := ⟨_, rfl⟩
  rw [hL, hx] at EL
  rw [hL] at HP hlen
  rw [hL, hx] at HT ⊢
  clear hv hwl hL hx hT0
  obtain ⟨ts, rs, hts, hrs⟩ := s
  simp only at Y0 HW EL ⊢
  by_cases h0 : x = 0
  rotate_left
  · have q0 : (x != 0) = true := by simpa using h0
    have q1 : decide (x = 0) = false := decide_eq_false h0
    have e0 : (str (wordM L) : ByteArray) = { data := #[] } := by rw [HT.out h0]; rfl
    rw [e0]
    clear e0 HT HP
    have d0 := cell_of_row _ _ 0 _ _ _ Y0.out
    have d1 := cell_of_row _ _ 1 _ _ _ Y0.out
    go_enter Tryz.func9, Tryz.ntmps9
    go_wp2_with fail
    rw [← HW.out]
    refine EL.out.mono ?_
    rintro e w1 ⟨v1, rfl, o1, b1⟩
    have B1 := Lib.hid (bt B0.out b1)
    clear b1 o1 Y0 B0 HW EL d0 d1
    go_wp2
    exact bodyPost_ret (v := .tuple #[.string { data := #[] }, .int .i64 x]) (by simp [results, Tryz.results9, go_sem]) rfl ⟨rfl, B1.out⟩
  subst h0
  clear HT
  obtain ⟨n, hn⟩ : ∃ n, L.length = n := ⟨_, rfl⟩
  have HN := Lib.hid hn
  rw [hn] at hlen
  have d0 := cell_of_row _ _ 0 _ _ _ Y0.out
  have d1 := cell_of_row _ _ 1 _ _ _ Y0.out
  go_enter Tryz.func9, Tryz.ntmps9
  go_wp2_with fail
  rw [← HW.out]
  refine EL.out.mono ?_
  rintro e w1 ⟨v1, rfl, o1, b1⟩
  obtain ⟨ea, ec, rfl⟩ := o1.el.shape
  have HV : Hid (∀ W : World, Below w1.heap.size w1 W → ElL W (.slice ea L.length ec) L) := fun W h => o1.el.keeps h
  have B1 := Lib.hid (bt B0.out b1)
  rw [hn] at HV ⊢
  have hB1 : Hid (w.heap.size ≤ w1.heap.size) := B1.out.size
  clear b1 o1 Y0 B0 HW EL d0 d1 hn
  have Z0 : Hid (Strb.Is w1.heap.size w1.heap.size (wordM (L.take 0)) (w1.alloc (.cells #[.pointer none, .slice none 0 0] 78))) := Lib.IsBuilderF.of (Lib.fresh_isBuilder _ _ w1)
  have Z1 : Hid (Below w1.heap.size w1 (w1.alloc (.cells #[.pointer none, .slice none 0 0] 78))) := (Below.refl _ _).alloc (Nat.le_refl _) _
  go_wp2
  go_loopw [22] (fun i wr => ∃ j : Nat, j ≤ n ∧ i = .int .i64 (j : Int) ∧ Hid (Strb.Is w1.heap.size w1.heap.size (wordM (L.take j)) wr) ∧ Hid (Below w1.heap.size w1 wr)) (fun i _ => n - (intOf i).toNat)
  case atStart => exact ⟨0, by omega, rfl, Z0, Z1⟩
  case round =>
    clear Z0 Z1
    obtain ⟨j, hj, rfl, hbu, hbm⟩ := hrel
    have hsz : w1.heap.size ≤ wr.heap.size := hbm.out.size
    by_cases hjn : j < n
    rotate_left
    · have q3 : decide (j < n) = false := by simpa using hjn
      have hkk : L.take j = L := List.take_of_length_le (by have := HN.out; omega)
      rw [hkk] at hbu
      clear hkk HV HP
      go_wp2_with fail
      refine (Tryz.Builder_String_any_k w1.heap.size w1.heap.size (wordM L) _ hbu.out hsz).mono ?_
      rintro e w3 ⟨rfl, _, g2, _⟩
      have G2 : Hid (Below w.heap.size w w3) := B1.out.trans ((hbm.out.trans g2).mono hB1.out)
      clear g2
      go_wp2
      exact bodyPost_ret (v := .tuple #[.string (str (wordM L)), .int .i64 0]) (by simp [results, Tryz.results9, go_sem]; rfl) rfl ⟨rfl, G2.out⟩
    have q3 : decide (j < n) = true := by simpa using hjn
    have q4 : (0 : Int) ≤ (j : Int) := by omega
    have q5 : (j : Int) < (n : Int) := by omega
    have hjl : j < L.length := by rw [HN.out]; exact hjn
    obtain ⟨bb, oo, u, e, hbb, hru, h0, h1, h2, h3⟩ := el_at (ao := ea) (m := n) (cap := ec) (HV.out wr hbm.out) j hjl
    subst e
    have hpt := HP.out _ (List.getElem_mem hjl)
    have HWS := Lib.hid (wordM_snoc hjl)
    have hwl := wordM_len (L.take j)
    rw [List.length_take] at hwl
    have hfl : (wordM (L.take j)).length ≤ 4096 := by omega
    obtain ⟨uo, uc, rfl⟩ := hru.shape
    obtain ⟨nu, hnu⟩ : ∃ z, (L[j]'hjl).pl.length = z := ⟨_, rfl⟩
    obtain ⟨t, ht⟩ : ∃ z, (L[j]'hjl).t = z := ⟨_, rfl⟩
    obtain ⟨r, hr⟩ : ∃ z, (L[j]'hjl).r = z := ⟨_, rfl⟩
    obtain ⟨p, hp⟩ : ∃ p, (L[j]'hjl).p = p := ⟨_, rfl⟩
    rw [hnu] at h2
    rw [ht] at h0
    rw [hr] at h1
    rw [hp] at h3 hpt HWS
    have x1 : -2147483648 ≤ p := by have := hpt.1; omega
    have x2 : p ≤ 2147483647 := by have := hpt.2.1; omega
    have w1' : IntKind.i32.wrap p = p := IntWalk.i32_in _ (by omega)
    have BL : Hid (Below wr.heap.size wr (wr.alloc (.cells #[.int .u32 (t : Int), .int .u8 (r : Int), .slice uo nu uc, .int .i64 p] 44))) := (Below.refl _ _).alloc (Nat.le_refl _) _
    have BU := Lib.hid (is_below hbu.out BL.out)
    have BW := Lib.hid (bt hbm.out BL.out)
    have hs2 : Hid (w1.heap.size ≤ (wr.alloc (.cells #[.int .u32 (t : Int), .int .u8 (r : Int), .slice uo nu uc, .int .i64 p] 44)).heap.size) := BW.out.size
    clear hru hnu ht hr hp hwl hbb hbu HV HP hpt BL
    go_wp2_with fail
    refine (Strb.writeRune_any w1.heap.size w1.heap.size _ p x1 x2 _ BU.out (by omega) hs2.out).mono ?_
    rintro e w3 ⟨⟨y, rfl⟩, g1, g2, g3⟩
    have G1 : Hid (Strb.Is w1.heap.size w1.heap.size (wordM (L.take (j + 1))) w3) := by
      unfold Hid
      rw [HWS.out]
      exact g1
    have G2 : Hid (Below w1.heap.size w1 w3) := BW.out.trans g2
    clear g1 g2 g3 BU BW hs2 HWS h0 h1 h2 h3
    go_wp2
    go_roundw
    case rel => exact ⟨j + 1, by omega, by go_num, G1, G2⟩
    case measure => simp [intOf]; omega
end Go.Proofs.YtohiidgdpecbdaaGreat.Views

namespace Go.Proofs.YtohiidgdpecbdaaGreat.Views
open Go.RowKit Go.WideShapes Stamp Go.Proofs.YtohiidgdpecbdaaGreat.Place Ops Codes Bags Marks Homes Covers
attribute [local go_sem ↓] Go.wp_at_zero Go.wp_at_succ
attribute [local go_sem] yielded_undef
set_option maxRecDepth 100000 in
set_option maxHeartbeats 8000000 in
theorem refSameE_yes {u v : Value} {x : Opn} {w : World} (hu : Runs w u x.pl) (hv : Runs w v x.pl) : Calls Tryz.prog 16 #[elv x u, elv x v] w fun e w' => e = .returned (.bool true) ∧ Below w.heap.size w w' := by
  have SR : Hid (∀ W : World, Below w.heap.size w W → Calls Tryz.prog 40 #[u, v] W fun e w' => e = .returned (.bool true) ∧ Below W.heap.size W w') := fun W h => by
    have := Go.Proofs.YtohiidgdpecbdaaGreat.Place.refSame_any (hu.keeps h) (hv.keeps h)
    rwa [decide_eq_true rfl] at this
  obtain ⟨uo, uc, rfl⟩ := hu.shape
  obtain ⟨vo, vc, rfl⟩ := hv.shape
  obtain ⟨n, hn⟩ : ∃ n, x.pl.length = n := ⟨_, rfl⟩
  rw [hn] at SR ⊢
  unfold elv
  obtain ⟨t, ht⟩ : ∃ z, x.t = z := ⟨_, rfl⟩
  obtain ⟨r, hr⟩ : ∃ z, x.r = z := ⟨_, rfl⟩
  obtain ⟨p, hp⟩ : ∃ z, x.p = z := ⟨_, rfl⟩
  rw [ht, hr, hp]
  have B0 : Hid (Below w.heap.size w ((w.alloc (.cells #[.int .u32 (t : Int), .int .u8 (r : Int), .slice uo n uc, .int .i64 p] 44)).alloc (.cells #[.int .u32 (t : Int), .int .u8 (r : Int), .slice vo n vc, .int .i64 p] 44))) := ((Below.refl _ _).alloc (Nat.le_refl _) _).alloc (by simp) _
  have CE : Hid (∀ w2 : World, Below ((w.alloc (.cells #[.int .u32 (t : Int), .int .u8 (r : Int), .slice uo n uc, .int .i64 p] 44)).alloc (.cells #[.int .u32 (t : Int), .int .u8 (r : Int), .slice vo n vc, .int .i64 p] 44)).heap.size ((w.alloc (.cells #[.int .u32 (t : Int), .int .u8 (r : Int), .slice uo n uc, .int .i64 p] 44)).alloc (.cells #[.int .u32 (t : Int), .int .u8 (r : Int), .slice vo n vc, .int .i64 p] 44)) w2 →
      w2.cell? ⟨w.heap.size, 3, none⟩ = some (.int .i64 p) ∧ w2.cell? ⟨w.heap.size + 1, 3, none⟩ = some (.int .i64 p)) := fun w2 h => by
    have g1 : w2.heap[w.heap.size]? = some (.cells #[.int .u32 (t : Int), .int .u8 (r : Int), .slice uo n uc, .int .i64 p] 44) := blk_below h (blk_old (blk_new rfl))
    have g2 : w2.heap[w.heap.size + 1]? = some (.cells #[.int .u32 (t : Int), .int .u8 (r : Int), .slice vo n vc, .int .i64 p] 44) := blk_below h (blk_new (by simp))
    exact ⟨(cells4 g1).2.2.2, (cells4 g2).2.2.2⟩
  clear hu hv hn ht hr hp
  go_enter Tryz.func16, Tryz.ntmps16
  go_wp2_with fail
  refine (SR.out _ B0.out).mono ?_
  rintro e w1 ⟨rfl, b1⟩
  obtain ⟨g1, g2⟩ := CE.out _ b1
  have B1 := Lib.hid (bt B0.out b1)
  clear b1 CE B0 SR
  go_wp2
  go_ret
  exact ⟨rfl, B1.out⟩
set_option maxRecDepth 100000 in
set_option maxHeartbeats 8000000 in
theorem refSameAll_yes {u v : Value} {c : List Opn} {w : World} (hu : ElL w u c) (hv : ElL w v c) : Calls Tryz.prog 15 #[u, v] w fun e w' => e = .returned (.bool true) ∧ Below w.heap.size w w' := by
  obtain ⟨ao, ac, rfl⟩ := hu.shape
  obtain ⟨bo, bc, rfl⟩ := hv.shape
  obtain ⟨n, hn⟩ : ∃ n, n = c.length := ⟨_, rfl⟩
  have hmx : n ≤ 9223372036854775807 := by rw [hn]; exact hu.max
  have HU : Hid (∀ W : World, Below w.heap.size w W → ElL W (.slice ao c.length ac) c) := fun W h => hu.keeps h
  have HV : Hid (∀ W : World, Below w.heap.size w W → ElL W (.slice bo c.length bc) c) := fun W h => hv.keeps h
  have HN := Lib.hid hn
  rw [← hn]
  have B0 : Hid (Below w.heap.size w w) := Below.refl _ _
  clear hu hv hn
  go_enter Tryz.func15, Tryz.ntmps15
  go_wp2
  go_loopw [5] (fun i wr => ∃ j : Nat, j ≤ n ∧ i = .int .i64 (j : Int) ∧ Hid (Below w.heap.size w wr)) (fun i _ => n - (intOf i).toNat)
  case atStart => exact ⟨0, by omega, rfl, B0⟩
  case round =>
    clear B0
    obtain ⟨j, hj, rfl, hbel⟩ := hrel
    by_cases hjn : j < n
    rotate_left
    · have q3 : decide (j < n) = false := by simpa using hjn
      go_wp2
      go_ret
      exact ⟨rfl, hbel.out⟩
    have q3 : decide (j < n) = true := by simpa using hjn
    have q4 : (0 : Int) ≤ (j : Int) := by omega
    have q5 : (j : Int) < (n : Int) := by omega
    have hjl : j < c.length := by rw [← HN.out]; exact hjn
    obtain ⟨b1, o1, y1, e1, k1, r1, h0, h1, h2, h3⟩ := el_at (HU.out wr hbel.out) j hjl
    obtain ⟨b2, o2, y2, e2, k2, r2, g0, g1, g2, g3⟩ := el_at (HV.out wr hbel.out) j hjl
    cases e1
    cases e2
    obtain ⟨x, hx⟩ : ∃ x, c[j]'hjl = x := ⟨_, rfl⟩
    rw [hx] at r1 r2 h0 h1 h3 g0 g1 g3
    have SX : Hid (∀ W : World, Below wr.heap.size wr W → Calls Tryz.prog 16 #[elv x y1, elv x y2] W fun e w' => e = .returned (.bool true) ∧ Below W.heap.size W w') := fun W h => refSameE_yes (r1.keeps h) (r2.keeps h)
    have HOE : Hid (∀ u : Value, elv x u = .agg #[.int .u32 (x.t : Int), .int .u8 (x.r : Int), u, .int .i64 x.p]) := fun u => rfl
    simp only [HOE.out] at SX
    obtain ⟨uo, uc, rfl⟩ := r1.shape
    obtain ⟨vo, vc, rfl⟩ := r2.shape
    obtain ⟨nx, hnx⟩ : ∃ z, x.pl.length = z := ⟨_, rfl⟩
    rw [hnx] at SX h2 g2
    obtain ⟨t, ht⟩ : ∃ z, x.t = z := ⟨_, rfl⟩
    obtain ⟨r, hr⟩ : ∃ z, x.r = z := ⟨_, rfl⟩
    obtain ⟨p, hp⟩ : ∃ z, x.p = z := ⟨_, rfl⟩
    rw [ht, hr, hp] at SX
    rw [ht] at h0 g0
    rw [hr] at h1 g1
    rw [hp] at h3 g3
    have SK : Hid (∀ w' : World, Below wr.heap.size wr w' → Below wr.heap.size wr w' ∧ w'.cell? ⟨b1, o1 + j * 4, none⟩ = some (.int .u32 (t : Int)) ∧ w'.cell? ⟨b1, o1 + j * 4 + 1, none⟩ = some (.int .u8 (r : Int)) ∧ w'.cell? ⟨b1, o1 + j * 4 + 2, none⟩ = some (.slice uo nx uc) ∧ w'.cell? ⟨b1, o1 + j * 4 + 3, none⟩ = some (.int .i64 p) ∧ w'.cell? ⟨b2, o2 + j * 4, none⟩ = some (.int .u32 (t : Int)) ∧ w'.cell? ⟨b2, o2 + j * 4 + 1, none⟩ = some (.int .u8 (r : Int)) ∧ w'.cell? ⟨b2, o2 + j * 4 + 2, none⟩ = some (.slice vo nx vc) ∧ w'.cell? ⟨b2, o2 + j * 4 + 3, none⟩ = some (.int .i64 p)) := fun W h => ⟨h, (h.cell (p := ⟨b1, o1 + j * 4, none⟩) k1).trans h0, (h.cell (p := ⟨b1, o1 + j * 4 + 1, none⟩) k1).trans h1, (h.cell (p := ⟨b1, o1 + j * 4 + 2, none⟩) k1).trans h2, (h.cell (p := ⟨b1, o1 + j * 4 + 3, none⟩) k1).trans h3, (h.cell (p := ⟨b2, o2 + j * 4, none⟩) k2).trans g0, (h.cell (p := ⟨b2, o2 + j * 4 + 1, none⟩) k2).trans g1, (h.cell (p := ⟨b2, o2 + j * 4 + 2, none⟩) k2).trans g2, (h.cell (p := ⟨b2, o2 + j * 4 + 3, none⟩) k2).trans g3⟩
    clear h0 h1 h2 h3 g0 g1 g2 g3 k1 k2 r1 r2 hx hnx ht hr hp HOE HU HV
    go_wp2
    refine wp_region_held_drew (S := fun w' => Below wr.heap.size wr w' ∧ w'.cell? ⟨b1, o1 + j * 4, none⟩ = some (.int .u32 (t : Int)) ∧ w'.cell? ⟨b1, o1 + j * 4 + 1, none⟩ = some (.int .u8 (r : Int)) ∧ w'.cell? ⟨b1, o1 + j * 4 + 2, none⟩ = some (.slice uo nx uc) ∧ w'.cell? ⟨b1, o1 + j * 4 + 3, none⟩ = some (.int .i64 p) ∧ w'.cell? ⟨b2, o2 + j * 4, none⟩ = some (.int .u32 (t : Int)) ∧ w'.cell? ⟨b2, o2 + j * 4 + 1, none⟩ = some (.int .u8 (r : Int)) ∧ w'.cell? ⟨b2, o2 + j * 4 + 2, none⟩ = some (.slice vo nx vc) ∧ w'.cell? ⟨b2, o2 + j * 4 + 3, none⟩ = some (.int .i64 p)) (by kernel_rfl) (SK.out _ (drew1 _)) (fun hHeld => ?_)
    refine rN 0 ?_
    refine rN 1 ?_
    refine rN 2 ?_
    refine rN 3 ?_
    refine rN 4 ?_
    refine rN 5 ?_
    refine rN 6 ?_
    refine rN 7 ?_
    refine wpAnyH_ready (rs := [8]) (by kernel_rfl) (by simp) ?_
    refine AllReadyH.cons rfl (fun K hK => ?_) ?za8
    case za8 => exact AllReadyH.nil
    go_simp
    refine (SX.out _ hHeld.1).mono ?_
    rintro e w9a8 ⟨rfl, b9⟩
    refine hK.out _ _ (SK.out _ (bt hHeld.1 b9)) (fun hNew => ?_)
    clear hHeld
    have hHeld := hNew
    clear hNew hK K
    refine rX ?_
    refine rN 9 ?_
    refine wpAnyH_done (by kernel_rfl) ?_ _
    have BE := Lib.hid (bt hbel.out hHeld.1)
    clear hHeld SK SX hbel
    go_wp2
    go_roundw
    case rel => exact ⟨j + 1, by omega, by go_num, BE⟩
    case measure => simp [intOf]; omega
end Go.Proofs.YtohiidgdpecbdaaGreat.Views
