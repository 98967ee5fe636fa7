/- MarksTell answers true, and changes nothing that was there. Conditions: the places are not longer than memory holds. -/
import Derived.Deep.DrawnRows
import Derived.Deep.RegionHeld3
import Derived.Test.YtpgdnenkjommfaaGreatPk22
import Derived.Test.YtpgdnenkjommfaaGreatPk11

namespace Go.Proofs.YtpgdnenkjommfaaGreat.Marks
open Go.RowKit Go.WideShapes Stamp Go.Proofs.YtpgdnenkjommfaaGreat.Place Ops Codes Bags
attribute [local go_sem ↓] Go.wp_at_zero Go.wp_at_succ
attribute [local go_sem] yielded_undef

set_option maxRecDepth 100000 in
set_option maxHeartbeats 16000000 in
theorem tell_walk {l : List Opn} {ao0 : Option Addr} {cap0 : Nat} (a : Id) {w : World} (hr0 : OpL w (.slice ao0 l.length cap0) l) (hz0 : ∀ o ∈ l, o.pl.length ≤ 8796093022208) :
    Calls Tryz.prog 3 #[.slice ao0 l.length cap0, .agg #[.int .u32 (a.t : Int), .int .u8 (a.r : Int)]] w fun e w' => e = .returned (.bool true) ∧ Below w.heap.size w w' := by
  have HV : Hid (∀ W : World, Below w.heap.size w W → OpL W (.slice ao0 l.length cap0) l) := fun W h => hr0.keeps h
  have GR : Hid (∀ W : World, Below w.heap.size w W → Calls Tryz.prog 4 #[.slice ao0 l.length cap0, .int .i64 100] W fun e w' => GrtO l 100 e ∧ W = w') := fun W h => greatO_any (HV.out W h)
  have hgr : ∀ {e : Ending}, GrtO l 100 e → ∃ g, e = .returned (.bool g) ∧ Hid (g = false → l.length ≤ 100) := fun ⟨g, h1, h2⟩ => ⟨g, h1, fun h => by have := (h2 h).1; omega⟩
  have TW : Hid (l.length ≤ 100 → ∀ W : World, Below w.heap.size w W → Calls Tryz.prog 5 #[.slice ao0 l.length cap0] W fun e w' => ∃ v', e = .returned v' ∧ OwnL w' W.heap.size v' l ∧ Below W.heap.size W w') := fun hl W h => refTwinL_any (HV.out W h) (by omega) hz0
  have LI : Hid (∀ (W : World) (v : Value), OpL W v l → Calls Tryz.prog 6 #[v] W (DoneN (liveL l) (chkL l) W)) := fun W v h => mLive_any h
  have RL : Hid (∀ W : World, Below w.heap.size w W → Calls Tryz.prog 7 #[.slice ao0 l.length cap0] W (DoneL (liveL l) (chkL l) W)) := fun W h => refLive_any (HV.out W h)
  have ID : Hid (∀ (W : World) (v : Value), OpL W v l → Calls Tryz.prog 8 #[v] W (DoneC (idsM l) (chkL l) W)) := fun W v h => mIds_any h
  have RI : Hid (∀ W : World, Below w.heap.size w W → Calls Tryz.prog 9 #[.slice ao0 l.length cap0] W (DoneC (idsM l) (chkL l) W)) := fun W h => refIdsM_any (HV.out W h)
  have JO : Hid (∀ (W : World) (v : Value), OpL W v l → Calls Tryz.prog 12 #[v, .agg #[.int .u32 (a.t : Int), .int .u8 (a.r : Int)]] W fun e w' => e = .returned (.bool (joinedM l a)) ∧ Below W.heap.size W w') := fun W v h => mJoined_any a h
  have RJ : Hid (∀ W : World, Below w.heap.size w W → Calls Tryz.prog 13 #[.slice ao0 l.length cap0, .agg #[.int .u32 (a.t : Int), .int .u8 (a.r : Int)]] W fun e w' => e = .returned (.bool (joinedM l a)) ∧ Below W.heap.size W w') := fun W h => refJoinedM_any a (HV.out W h)
  have SO : Hid (∀ (W : World) (u v : Value) (m : List Opn), OpL W u m → OpL W v m → Calls Tryz.prog 10 #[u, v] W fun e w' => e = .returned (.bool true) ∧ Below W.heap.size W w') := fun W u v m h h2 => by
    have := sameL_any h h2
    rwa [decide_eq_true rfl] at this
  have SC : Hid (∀ (W : World) (u v : Value) (c : List Clocks.Tm), Tms W u c → Tms W v c → Calls Tryz.prog 11 #[u, v] W fun e w' => e = .returned (.bool true) ∧ Below W.heap.size W w') := fun W u v c h h2 => by
    have := Clocks.refSameC_any h h2
    rwa [decide_eq_true rfl] at this
  have SB : Hid (∀ (W : World) (u : Value), OpL W u l → Below w.heap.size w W → Calls Tryz.prog 14 #[u, .slice ao0 l.length cap0] W fun e w' => e = .returned (.bool true) ∧ Below W.heap.size W w') := fun W u h h2 => by
    have := refSameL_any h (HV.out W h2)
    rwa [decide_eq_true rfl] at this
  obtain ⟨n0, hn0⟩ : ∃ n, n = l.length := ⟨_, rfl⟩
  rw [← hn0] at GR TW RL RI RJ SB hgr ⊢
  obtain ⟨s, hs⟩ : ∃ z, a.t = z := ⟨_, rfl⟩
  obtain ⟨b, hb⟩ : ∃ z, a.r = z := ⟨_, rfl⟩
  rw [hs, hb] at JO RJ ⊢
  obtain ⟨LL, hLL⟩ : ∃ z, liveL l = z := ⟨_, rfl⟩
  obtain ⟨E, hE⟩ : ∃ z, chkL l = z := ⟨_, rfl⟩
  obtain ⟨C, hC⟩ : ∃ z, idsM l = z := ⟨_, rfl⟩
  obtain ⟨q, hq⟩ : ∃ z, joinedM l a = z := ⟨_, rfl⟩
  rw [hLL, hE] at LI RL
  rw [hC, hE] at ID RI
  rw [hq] at JO RJ
  have B0 : Hid (Below w.heap.size w (w.alloc (.cells #[.int .u32 (s : Int), .int .u8 (b : Int)] 25))) := (Below.refl _ _).alloc (Nat.le_refl _) _
  have CE : Hid (∀ W : World, Below (w.alloc (.cells #[.int .u32 (s : Int), .int .u8 (b : Int)] 25)).heap.size (w.alloc (.cells #[.int .u32 (s : Int), .int .u8 (b : Int)] 25)) W → W.cell? ⟨w.heap.size, 0, none⟩ = some (.int .u32 (s : Int)) ∧ W.cell? ⟨w.heap.size, 1, none⟩ = some (.int .u8 (b : Int))) := fun W h => by
    have g2 := cells_blk (blk_below h (blk_new rfl))
    exact ⟨g2.1, g2.2.1⟩
  have K0 : Hid (Below (w.alloc (.cells #[.int .u32 (s : Int), .int .u8 (b : Int)] 25)).heap.size (w.alloc (.cells #[.int .u32 (s : Int), .int .u8 (b : Int)] 25)) (w.alloc (.cells #[.int .u32 (s : Int), .int .u8 (b : Int)] 25))) := Below.refl _ _
  have e11 : (E == E) = true := by simp
  have e12 : (q == q) = true := by simp
  clear hr0 hz0 hn0 hs hb hLL hE hC hq HV
  go_enter Tryz.func3, Tryz.ntmps3
  go_wp2_with fail
  refine (GR.out _ B0.out).mono ?_
  rintro e w1 ⟨hg, rfl⟩
  obtain ⟨g, rfl, hg2⟩ := hgr hg
  clear hg hgr GR
  cases g
  rotate_left
  · go_wp2
    go_ret
    exact ⟨rfl, B0.out⟩
  have TW2 := Lib.hid (TW.out (hg2.out rfl))
  clear TW hg2
  go_wp2_with fail
  refine (TW2.out _ B0.out).mono ?_
  rintro e w2 ⟨vo, rfl, o2, b2⟩
  have B2 := Lib.hid (bt B0.out b2)
  have K2 := Lib.hid (bt K0.out b2)
  have V2 := Lib.hid o2.opl
  have Z2 : Hid (Below w2.heap.size w2 w2) := Below.refl _ _
  clear o2 b2 TW2 B0 K0
  go_wp2_with fail
  refine (LI.out _ _ V2.out).mono ?_
  rintro e w3 ⟨va, rfl, o3, b3⟩
  have B3 := Lib.hid (bt B2.out b3)
  have K3 := Lib.hid (bt K2.out b3)
  have V3 := Lib.hid (V2.out.keeps b3)
  have Z3 := Lib.hid b3
  have P3 := Lib.hid (own_spl o3)
  have A3 := Lib.hid o3.opl
  obtain ⟨la, ca, rfl⟩ := A3.out.shape
  clear o3 b3 LI Z2 K2
  go_wp2_with fail
  refine (RL.out _ B3.out).mono ?_
  rintro e w4 ⟨vb, rfl, o4, b4⟩
  have B4 := Lib.hid (bt B3.out b4)
  have K4 := Lib.hid (bt K3.out b4)
  have V4 := Lib.hid (V3.out.keeps b4)
  have Z4 := Lib.hid (bt Z3.out b4)
  have P4 := Lib.hid (P3.out.keeps b4)
  have A4 := Lib.hid (A3.out.keeps b4)
  have Q4 := Lib.hid o4
  clear o4 b4 RL B3 K3 V3 Z3 P3 A3
  go_wp2_with fail
  refine (ID.out _ _ V4.out).mono ?_
  rintro e w5 ⟨vc, rfl, o5, b5⟩
  have B5 := Lib.hid (bt B4.out b5)
  have K5 := Lib.hid (bt K4.out b5)
  have V5 := Lib.hid (V4.out.keeps b5)
  have Z5 := Lib.hid (bt Z4.out b5)
  have P5 := Lib.hid (P4.out.keeps b5)
  have A5 := Lib.hid (A4.out.keeps b5)
  have Q5 := Lib.hid (Q4.out.keeps b5)
  have C5 := Lib.hid o5.tms
  clear o5 b5 ID B4 K4 V4 Z4 P4 A4 Q4
  go_wp2_with fail
  refine (RI.out _ B5.out).mono ?_
  rintro e w6 ⟨vd, rfl, o6, b6⟩
  have B6 := Lib.hid (bt B5.out b6)
  have K6 := Lib.hid (bt K5.out b6)
  have V6 := Lib.hid (V5.out.keeps b6)
  have Z6 := Lib.hid (bt Z5.out b6)
  have P6 := Lib.hid (P5.out.keeps b6)
  have A6 := Lib.hid (A5.out.keeps b6)
  have Q6 := Lib.hid (Q5.out.keeps b6)
  have C6 := Lib.hid (C5.out.keeps b6)
  have D6 := Lib.hid o6.tms
  clear o6 b6 RI B5 K5 V5 Z5 P5 A5 Q5 C5
  have X1 : Hid (∀ W : World, Below w6.heap.size w6 W → Calls Tryz.prog 10 #[.slice la LL.length ca, vb] W fun e w' => e = .returned (.bool true) ∧ Below W.heap.size W w') := fun W h => SO.out W _ _ _ (A6.out.keeps h) (Q6.out.keeps h)
  have X2 : Hid (∀ W : World, Below w6.heap.size w6 W → Calls Tryz.prog 11 #[vc, vd] W fun e w' => e = .returned (.bool true) ∧ Below W.heap.size W w') := fun W h => SC.out W _ _ _ (C6.out.keeps h) (D6.out.keeps h)
  have X3 : Hid (∀ W : World, Below w6.heap.size w6 W → Calls Tryz.prog 12 #[vo, .agg #[.int .u32 (s : Int), .int .u8 (b : Int)]] W fun e w' => e = .returned (.bool q) ∧ Below W.heap.size W w') := fun W h => JO.out W _ (V6.out.keeps h)
  have X4 : Hid (∀ W : World, Below w6.heap.size w6 W → Calls Tryz.prog 13 #[.slice ao0 n0 cap0, .agg #[.int .u32 (s : Int), .int .u8 (b : Int)]] W fun e w' => e = .returned (.bool q) ∧ Below W.heap.size W w') := fun W h => RJ.out W (bt B6.out h)
  have SK : Hid (∀ w' : World, Below w6.heap.size w6 w' → Below w6.heap.size w6 w' ∧ w'.cell? ⟨w.heap.size, 0, none⟩ = some (.int .u32 (s : Int)) ∧ w'.cell? ⟨w.heap.size, 1, none⟩ = some (.int .u8 (b : Int))) := fun W h => by
    have a2 := CE.out W (bt K6.out h)
    exact ⟨h, a2.1, a2.2⟩
  obtain ⟨nl, hnl⟩ : ∃ z, z = LL.length := ⟨_, rfl⟩
  have hnlm : nl ≤ 9223372036854775807 := by rw [hnl]; exact A6.out.max
  rw [← hnl] at X1 P6 ⊢
  clear SO SC JO RJ CE K6 A6 Q6 C6 D6 hnl
  go_wp2
  refine wp_region_held_drew (S := fun w' => Below w6.heap.size w6 w' ∧ w'.cell? ⟨w.heap.size, 0, none⟩ = some (.int .u32 (s : Int)) ∧ w'.cell? ⟨w.heap.size, 1, none⟩ = some (.int .u8 (b : Int))) (by kernel_rfl) (SK.out _ (drew1 _)) (fun hHeld => ?_)
  refine wpAnyH_take (i := 0) (v := ?va0) rfl (by kernel_rfl) (by kernel_rfl) (by kernel_rfl) (fun _ _ _ h => h) (Or.inl ⟨by rfl, ?ya0⟩) (by assumption) ?_
  case ya0 => intro w hSw; (try dsimp only at hSw); go_simp <;> with_reducible rfl
  try simp only [List.getElem_toArray, List.getElem_cons_zero, Act.put, List.setIfInBounds_toArray, List.set_cons_zero, List.set_cons_succ]
  refine wpAnyH_take (i := 1) (v := ?va1) rfl (by kernel_rfl) (by kernel_rfl) (by kernel_rfl) (fun _ _ _ h => h) (Or.inl ⟨by rfl, ?ya1⟩) (by assumption) ?_
  case ya1 => intro w hSw; (try dsimp only at hSw); go_simp <;> with_reducible rfl
  try simp only [List.getElem_toArray, List.getElem_cons_succ, List.getElem_cons_zero, Act.put, List.setIfInBounds_toArray, List.set_cons_zero, List.set_cons_succ]
  refine wpAnyH_ready (rs := [2]) (by kernel_rfl) (by simp) ?_
  refine AllReadyH.cons rfl (fun K hK => ?_) ?za2
  case za2 => exact AllReadyH.nil
  go_simp
  refine (X1.out _ hHeld.1).mono ?_
  rintro e w9a2 ⟨rfl, b9⟩
  refine hK.out _ _ (SK.out _ (bt hHeld.1 b9)) (fun hNew => ?_)
  clear hHeld
  have hHeld := hNew
  clear hNew hK K
  try simp only [List.getElem_toArray, List.getElem_cons_succ, List.getElem_cons_zero, Act.put, List.setIfInBounds_toArray, List.set_cons_zero, List.set_cons_succ]
  refine wpAnyH_take (i := 3) (v := ?va3) rfl (by kernel_rfl) (by kernel_rfl) (by kernel_rfl) (fun _ _ _ h => h) (Or.inl ⟨by rfl, ?ya3⟩) (by assumption) ?_
  case ya3 => intro w hSw; (try dsimp only at hSw); go_simp <;> with_reducible rfl
  try simp only [List.getElem_toArray, List.getElem_cons_succ, List.getElem_cons_zero, Act.put, List.setIfInBounds_toArray, List.set_cons_zero, List.set_cons_succ]
  refine wpAnyH_take (i := 4) (v := ?va4) rfl (by kernel_rfl) (by kernel_rfl) (by kernel_rfl) (fun _ _ _ h => h) (Or.inl ⟨by rfl, ?ya4⟩) (by assumption) ?_
  case ya4 => intro w hSw; (try dsimp only at hSw); go_simp <;> with_reducible rfl
  try simp only [List.getElem_toArray, List.getElem_cons_succ, List.getElem_cons_zero, Act.put, List.setIfInBounds_toArray, List.set_cons_zero, List.set_cons_succ]
  refine wpAnyH_take (i := 5) (v := ?va5) rfl (by kernel_rfl) (by kernel_rfl) (by kernel_rfl) (fun _ _ _ h => h) (Or.inl ⟨by rfl, ?ya5⟩) (by assumption) ?_
  case ya5 => intro w hSw; (try dsimp only at hSw); go_simp <;> with_reducible rfl
  try simp only [List.getElem_toArray, List.getElem_cons_succ, List.getElem_cons_zero, Act.put, List.setIfInBounds_toArray, List.set_cons_zero, List.set_cons_succ]
  refine wpAnyH_take (i := 6) (v := ?va6) rfl (by kernel_rfl) (by kernel_rfl) (by kernel_rfl) (fun _ _ _ h => h) (Or.inl ⟨by rfl, ?ya6⟩) (by assumption) ?_
  case ya6 => intro w hSw; (try dsimp only at hSw); go_simp <;> with_reducible rfl
  try simp only [List.getElem_toArray, List.getElem_cons_succ, List.getElem_cons_zero, Act.put, List.setIfInBounds_toArray, List.set_cons_zero, List.set_cons_succ]
  refine wpAnyH_take (i := 7) (v := ?va7) rfl (by kernel_rfl) (by kernel_rfl) (by kernel_rfl) (fun _ _ _ h => h) (Or.inl ⟨by rfl, ?ya7⟩) (by assumption) ?_
  case ya7 => intro w hSw; (try dsimp only at hSw); go_simp <;> with_reducible rfl
  try simp only [List.getElem_toArray, List.getElem_cons_succ, List.getElem_cons_zero, Act.put, List.setIfInBounds_toArray, List.set_cons_zero, List.set_cons_succ]
  refine wpAnyH_take (i := 8) (v := ?va8) rfl (by kernel_rfl) (by kernel_rfl) (by kernel_rfl) (fun _ _ _ h => h) (Or.inl ⟨by rfl, ?ya8⟩) (by assumption) ?_
  case ya8 => intro w hSw; (try dsimp only at hSw); go_simp <;> with_reducible rfl
  try simp only [List.getElem_toArray, List.getElem_cons_succ, List.getElem_cons_zero, Act.put, List.setIfInBounds_toArray, List.set_cons_zero, List.set_cons_succ]
  refine wpAnyH_take (i := 9) (v := ?va9) rfl (by kernel_rfl) (by kernel_rfl) (by kernel_rfl) (fun _ _ _ h => h) (Or.inl ⟨by rfl, ?ya9⟩) (by assumption) ?_
  case ya9 => intro w hSw; (try dsimp only at hSw); go_simp <;> with_reducible rfl
  try simp only [List.getElem_toArray, List.getElem_cons_succ, List.getElem_cons_zero, Act.put, List.setIfInBounds_toArray, List.set_cons_zero, List.set_cons_succ]
  refine wpAnyH_take (i := 10) (v := ?va10) rfl (by kernel_rfl) (by kernel_rfl) (by kernel_rfl) (fun _ _ _ h => h) (Or.inl ⟨by rfl, ?ya10⟩) (by assumption) ?_
  case ya10 => intro w hSw; (try dsimp only at hSw); go_simp <;> with_reducible rfl
  try simp only [List.getElem_toArray, List.getElem_cons_succ, List.getElem_cons_zero, Act.put, List.setIfInBounds_toArray, List.set_cons_zero, List.set_cons_succ]
  refine wpAnyH_ready (rs := [11]) (by kernel_rfl) (by simp) ?_
  refine AllReadyH.cons rfl (fun K hK => ?_) ?za11
  case za11 => exact AllReadyH.nil
  go_simp
  refine (X2.out _ hHeld.1).mono ?_
  rintro e w9a11 ⟨rfl, b9⟩
  refine hK.out _ _ (SK.out _ (bt hHeld.1 b9)) (fun hNew => ?_)
  clear hHeld
  have hHeld := hNew
  clear hNew hK K
  try simp only [List.getElem_toArray, List.getElem_cons_succ, List.getElem_cons_zero, Act.put, List.setIfInBounds_toArray, List.set_cons_zero, List.set_cons_succ]
  refine wpAnyH_take (i := 12) (v := ?va12) rfl (by kernel_rfl) (by kernel_rfl) (by kernel_rfl) (fun _ _ _ h => h) (Or.inl ⟨by rfl, ?ya12⟩) (by assumption) ?_
  case ya12 => intro w hSw; (try dsimp only at hSw); go_simp <;> with_reducible rfl
  try simp only [List.getElem_toArray, List.getElem_cons_succ, List.getElem_cons_zero, Act.put, List.setIfInBounds_toArray, List.set_cons_zero, List.set_cons_succ]
  refine wpAnyH_take (i := 13) (v := ?va13) rfl (by kernel_rfl) (by kernel_rfl) (by kernel_rfl) (fun _ _ _ h => h) (Or.inl ⟨by rfl, ?ya13⟩) (by assumption) ?_
  case ya13 => intro w hSw; (try dsimp only at hSw); go_simp <;> with_reducible rfl
  try simp only [List.getElem_toArray, List.getElem_cons_succ, List.getElem_cons_zero, Act.put, List.setIfInBounds_toArray, List.set_cons_zero, List.set_cons_succ]
  refine wpAnyH_take (i := 14) (v := ?va14) rfl (by kernel_rfl) (by kernel_rfl) (by kernel_rfl) (fun _ _ _ h => h) (Or.inl ⟨by rfl, ?ya14⟩) (by assumption) ?_
  case ya14 => intro w hSw; (try dsimp only at hSw); go_simp <;> with_reducible rfl
  try simp only [List.getElem_toArray, List.getElem_cons_succ, List.getElem_cons_zero, Act.put, List.setIfInBounds_toArray, List.set_cons_zero, List.set_cons_succ]
  refine wpAnyH_take (i := 15) (v := ?va15) rfl (by kernel_rfl) (by kernel_rfl) (by kernel_rfl) (fun _ _ _ h => h) (Or.inl ⟨by rfl, ?ya15⟩) (by assumption) ?_
  case ya15 => intro w hSw; (try dsimp only at hSw); go_simp <;> with_reducible rfl
  try simp only [List.getElem_toArray, List.getElem_cons_succ, List.getElem_cons_zero, Act.put, List.setIfInBounds_toArray, List.set_cons_zero, List.set_cons_succ]
  refine wpAnyH_take (i := 16) (v := ?va16) rfl (by kernel_rfl) (by kernel_rfl) (by kernel_rfl) (fun _ _ _ h => h) (Or.inl ⟨by rfl, ?ya16⟩) (by assumption) ?_
  case ya16 => intro w hSw; (try dsimp only at hSw); go_simp <;> with_reducible rfl
  try simp only [List.getElem_toArray, List.getElem_cons_succ, List.getElem_cons_zero, Act.put, List.setIfInBounds_toArray, List.set_cons_zero, List.set_cons_succ]
  refine wpAnyH_take (i := 17) (v := ?va17) rfl (by kernel_rfl) (by kernel_rfl) (by kernel_rfl) (fun _ _ _ h => h) (Or.inl ⟨by rfl, ?ya17⟩) (by assumption) ?_
  case ya17 => intro w hSw; (try dsimp only at hSw); go_simp <;> with_reducible rfl
  try simp only [List.getElem_toArray, List.getElem_cons_succ, List.getElem_cons_zero, Act.put, List.setIfInBounds_toArray, List.set_cons_zero, List.set_cons_succ]
  refine wpAnyH_take (i := 18) (v := ?va18) rfl (by kernel_rfl) (by kernel_rfl) (by kernel_rfl) (fun _ _ _ h => h) (Or.inl ⟨by rfl, ?ya18⟩) (by assumption) ?_
  case ya18 => intro w hSw; (try dsimp only at hSw); go_simp <;> with_reducible rfl
  try simp only [List.getElem_toArray, List.getElem_cons_succ, List.getElem_cons_zero, Act.put, List.setIfInBounds_toArray, List.set_cons_zero, List.set_cons_succ]
  refine wpAnyH_take (i := 19) (v := ?va19) rfl (by kernel_rfl) (by kernel_rfl) (by kernel_rfl) (fun _ _ _ h => h) (Or.inl ⟨by rfl, ?ya19⟩) (by assumption) ?_
  case ya19 => intro w hSw; (try dsimp only at hSw); go_simp <;> with_reducible rfl
  try simp only [List.getElem_toArray, List.getElem_cons_succ, List.getElem_cons_zero, Act.put, List.setIfInBounds_toArray, List.set_cons_zero, List.set_cons_succ]
  refine wpAnyH_take (i := 20) (v := ?va20) rfl (by kernel_rfl) (by kernel_rfl) (by kernel_rfl) (fun _ _ _ h => h) (Or.inl ⟨by rfl, ?ya20⟩) (by assumption) ?_
  case ya20 => intro w hSw; (try dsimp only at hSw); go_simp <;> with_reducible rfl
  try simp only [List.getElem_toArray, List.getElem_cons_succ, List.getElem_cons_zero, Act.put, List.setIfInBounds_toArray, List.set_cons_zero, List.set_cons_succ]
  refine wpAnyH_take (i := 22) (v := ?va22) rfl (by kernel_rfl) (by kernel_rfl) (by kernel_rfl) (fun _ _ _ h => h) (Or.inl ⟨by rfl, ?ya22⟩) (by assumption) ?_
  case ya22 => intro w hSw; (try dsimp only at hSw); go_simp <;> with_reducible rfl
  try simp only [List.getElem_toArray, List.getElem_cons_succ, List.getElem_cons_zero, Act.put, List.setIfInBounds_toArray, List.set_cons_zero, List.set_cons_succ]
  refine wpAnyH_take (i := 23) (v := ?va23) rfl (by kernel_rfl) (by kernel_rfl) (by kernel_rfl) (fun _ _ _ h => h) (Or.inl ⟨by rfl, ?ya23⟩) (by assumption) ?_
  case ya23 => intro w hSw; (try dsimp only at hSw); go_simp <;> with_reducible rfl
  try simp only [List.getElem_toArray, List.getElem_cons_succ, List.getElem_cons_zero, Act.put, List.setIfInBounds_toArray, List.set_cons_zero, List.set_cons_succ]
  refine wpAnyH_ready (rs := [21]) (by kernel_rfl) (by simp) ?_
  refine AllReadyH.cons rfl (fun K hK => ?_) ?za21
  case za21 => exact AllReadyH.nil
  go_simp
  refine (X3.out _ hHeld.1).mono ?_
  rintro e w9a21 ⟨rfl, b9⟩
  refine hK.out _ _ (SK.out _ (bt hHeld.1 b9)) (fun hNew => ?_)
  clear hHeld
  have hHeld := hNew
  clear hNew hK K
  try simp only [List.getElem_toArray, List.getElem_cons_succ, List.getElem_cons_zero, Act.put, List.setIfInBounds_toArray, List.set_cons_zero, List.set_cons_succ]
  refine wpAnyH_ready (rs := [24]) (by kernel_rfl) (by simp) ?_
  refine AllReadyH.cons rfl (fun K hK => ?_) ?za24
  case za24 => exact AllReadyH.nil
  go_simp
  refine (X4.out _ hHeld.1).mono ?_
  rintro e w9a24 ⟨rfl, b9⟩
  refine hK.out _ _ (SK.out _ (bt hHeld.1 b9)) (fun hNew => ?_)
  clear hHeld
  have hHeld := hNew
  clear hNew hK K
  try simp only [List.getElem_toArray, List.getElem_cons_succ, List.getElem_cons_zero, Act.put, List.setIfInBounds_toArray, List.set_cons_zero, List.set_cons_succ]
  refine wpAnyH_take (i := 25) (v := ?va25) rfl (by kernel_rfl) (by kernel_rfl) (by kernel_rfl) (fun _ _ _ h => h) (Or.inl ⟨by rfl, ?ya25⟩) (by assumption) ?_
  case ya25 => intro w hSw; (try dsimp only at hSw); go_simp <;> with_reducible rfl
  try simp only [List.getElem_toArray, List.getElem_cons_succ, List.getElem_cons_zero, Act.put, List.setIfInBounds_toArray, List.set_cons_zero, List.set_cons_succ]
  refine wpAnyH_take (i := 26) (v := ?va26) rfl (by kernel_rfl) (by kernel_rfl) (by kernel_rfl) (fun _ _ _ h => h) (Or.inl ⟨by rfl, ?ya26⟩) (by assumption) ?_
  case ya26 => intro w hSw; (try dsimp only at hSw); go_simp <;> with_reducible rfl
  try simp only [List.getElem_toArray, List.getElem_cons_succ, List.getElem_cons_zero, Act.put, List.setIfInBounds_toArray, List.set_cons_zero, List.set_cons_succ]
  refine wpAnyH_take (i := 27) (v := ?va27) rfl (by kernel_rfl) (by kernel_rfl) (by kernel_rfl) (fun _ _ _ h => h) (Or.inl ⟨by rfl, ?ya27⟩) (by assumption) ?_
  case ya27 => intro w hSw; (try dsimp only at hSw); go_simp <;> with_reducible rfl
  try simp only [List.getElem_toArray, List.getElem_cons_succ, List.getElem_cons_zero, Act.put, List.setIfInBounds_toArray, List.set_cons_zero, List.set_cons_succ]
  refine wpAnyH_done (by kernel_rfl) ?_ _
  obtain ⟨w8, hw8⟩ : ∃ x : World, x = w9a24 := ⟨_, rfl⟩
  have B8 := Lib.hid (bt B6.out hHeld.1)
  have Z8 := Lib.hid (bt Z6.out hHeld.1)
  have P8 := Lib.hid (P6.out.keeps hHeld.1)
  rw [← hw8] at B8 Z8 P8 ⊢
  clear hHeld hw8 SK X1 X2 X3 X4 B6 Z6 P6 V6
  have S8 : Hid (Sand w2.heap.size w3.heap.size w8 w8) := Sand.refl _ _ _
  go_wp2
  go_loopw [15, 16] (fun i c wr => ∃ k : Nat, k ≤ nl ∧ i = .int .i64 (k : Int) ∧ Hid (SplO wr w2.heap.size w3.heap.size (.slice la nl ca) nl) ∧ Hid (Sand w2.heap.size w3.heap.size w8 wr)) (fun i _ _ => nl - (intOf i).toNat)
  case atStart => exact ⟨0, by omega, rfl, P8, S8⟩
  case round =>
    clear P8 S8
    obtain ⟨k, hk, rfl, hsp, hsa⟩ := hrel
    by_cases hkn : k < nl
    rotate_left
    · have q1 : decide (k < nl) = false := by simpa using hkn
      have B9 : Hid (Below w.heap.size w wr) := B8.out.trans (hsa.out.1.mono B2.out.size)
      have V9 : Hid (OpL wr vo l) := V2.out.keeps (Z8.out.trans hsa.out.1)
      have X5 := Lib.hid (SB.out wr _ V9.out B9.out)
      clear hsp hsa SB
      go_wp2_with fail
      refine X5.out.mono ?_
      rintro e w10 ⟨rfl, b10⟩
      have B10 := Lib.hid (bt B9.out b10)
      clear b10
      go_wp2
      go_ret
      exact ⟨rfl, B10.out⟩
    have q1 : decide (k < nl) = true := by simpa using hkn
    have q2 : (0 : Int) ≤ (k : Int) := by omega
    have q3 : (k : Int) < (nl : Int) := by omega
    obtain ⟨bl, rfl⟩ : ∃ b, la = some ⟨b, 0, none⟩ := by
      obtain ⟨_, _, h0, _, h3⟩ := hsp
      obtain ⟨rfl, -, -⟩ := Value.slice.inj h0
      rcases h3 with h3 | ⟨b, _, h3, _⟩
      · omega
      · exact ⟨b, h3⟩
    have at1 : ∀ W : World, SplO W w2.heap.size w3.heap.size (.slice (some ⟨bl, 0, none⟩) nl ca) nl → ∃ so m sc, W.cell? ⟨bl, k * 5 + 3, none⟩ = some (.slice so m sc) ∧ m ≤ 9223372036854775807 ∧
        (m = 0 ∨ ∃ g cur, so = some ⟨g, 0, none⟩ ∧ w2.heap.size ≤ g ∧ g < w3.heap.size ∧ g ≠ bl ∧ W.heap[g]? = some (.cells cur 45 (0, 0)) ∧ m * 3 ≤ cur.size) := fun W h => by
      obtain ⟨_, _, h0, _, h3⟩ := h
      obtain ⟨rfl, -, -⟩ := Value.slice.inj h0
      rcases h3 with h3 | ⟨b', cb, h3, h4, h5, h6, h7, h8⟩
      · omega
      · cases h3
        obtain ⟨so, m, sc, f1, f2⟩ := h8 k hkn
        exact ⟨so, m, sc, (cell_of_row W bl (k * 5 + 3) cb _ _ h6).trans f1, f2⟩
    have AT := Lib.hid at1
    obtain ⟨so, m, sc, c1, hm2, -⟩ := at1 _ hsp.out
    have C1 := Lib.hid c1
    clear at1
    go_wp2
    go_loopw [16] (fun i wr => ∃ j : Nat, j ≤ m ∧ i = .int .i64 (j : Int) ∧ Hid (SplO wr w2.heap.size w3.heap.size (.slice (some ⟨bl, 0, none⟩) nl ca) nl) ∧ Hid (Sand w2.heap.size w3.heap.size w8 wr) ∧ Hid (wr.cell? ⟨bl, k * 5 + 3, none⟩ = some (.slice so m sc))) (fun i _ => m - (intOf i).toNat)
    case atStart => exact ⟨0, by omega, rfl, hsp, hsa, C1⟩
    case round =>
      clear C1 hsp hsa c1
      obtain ⟨j, hj, rfl, hsp, hsa, hc⟩ := hrel
      have c1 := hc.out
      by_cases hjm : j < m
      · have p1 : decide (j < m) = true := by simpa using hjm
        have p2 : (0 : Int) ≤ (j : Int) := by omega
        have p3 : (j : Int) < (m : Int) := by omega
        obtain ⟨so', m', sc', d1, _, d3⟩ := AT.out wr hsp.out
        rw [c1] at d1
        obtain ⟨rfl, rfl, rfl⟩ := Value.slice.inj (Option.some.inj d1)
        obtain ⟨g, cur, rfl, g2, g3, g4, g5, g6⟩ : ∃ g cur, so = some ⟨g, 0, none⟩ ∧ w2.heap.size ≤ g ∧ g < w3.heap.size ∧ g ≠ bl ∧ wr.heap[g]? = some (.cells cur 45 (0, 0)) ∧ m * 3 ≤ cur.size := by
          rcases d3 with d3 | d3
          · omega
          · exact d3
        have f1 : wr.frozen? ⟨g, j * 3 + 2, none⟩ = false := by simp [World.frozen?, g5]
        have f2 : wr.cell? ⟨g, j * 3 + 2, none⟩ = cur[j * 3 + 2]? := cell_of_row wr g (j * 3 + 2) cur _ _ g5
        have f3 : cur[j * 3 + 2]? = some cur[j * 3 + 2] := Array.getElem?_eq_getElem (by omega)
        obtain ⟨y4, f4⟩ : ∃ y, wr.cell? ⟨g, j * 3 + 2, none⟩ = some y := ⟨_, f2.trans f3⟩
        have S2 := Lib.hid (hsp.out.setG (g := g) (j := j * 3 + 2) (u := .int .i64 (-7)) (fun b' cap' h => by
          obtain ⟨h1, -, -⟩ := Value.slice.inj h
          cases h1
          exact g4))
        have A2 : Hid (Sand w2.heap.size w3.heap.size w8 (wr.setCell ⟨g, j * 3 + 2, none⟩ (.int .i64 (-7)))) :=
          hsa.out.trans ⟨(Below.refl _ _).setCell (p := ⟨g, j * 3 + 2, none⟩) g2 _, fun q hq => heap_setCell_other _ _ _ _ (show q ≠ g by omega)⟩
        have C2 : Hid ((wr.setCell ⟨g, j * 3 + 2, none⟩ (.int .i64 (-7))).cell? ⟨bl, k * 5 + 3, none⟩ = some (.slice (some ⟨g, 0, none⟩) m sc)) :=
          (World.cell?_of_block (a := ⟨bl, k * 5 + 3, none⟩) (heap_setCell_other wr ⟨g, j * 3 + 2, none⟩ bl _ (fun e => g4 e.symm))).trans c1
        clear d1 d3 f2 f3 g5 g6 hsp hsa hc
        go_wp2
        go_roundw
        case rel => exact ⟨j + 1, by omega, by go_num, S2, A2, C2⟩
        case measure => simp [intOf]; omega
      · have p1 : decide (j < m) = false := by simpa using hjm
        clear hc
        go_wp2
        go_roundw
        case rel => exact ⟨k + 1, by omega, by go_num, hsp, hsa⟩
        case measure => simp [intOf]; omega
end Go.Proofs.YtpgdnenkjommfaaGreat.Marks
