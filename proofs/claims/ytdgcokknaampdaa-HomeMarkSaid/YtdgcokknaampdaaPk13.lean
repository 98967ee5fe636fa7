/- octavoref13.Begin, All, Of, Ahead, Span: what each answers. Conditions: the slices' cells are operations, runs. -/
import Derived.Deep.DrawnRows
import Derived.Test.YtdgcokknaampdaaPk12
import Derived.Test.YtdgcokknaampdaaPk09

namespace Go.Proofs.Ytdgcokknaampdaa.Homes
open Go.RowKit Go.WideShapes Stamp Go.Proofs.Ytdgcokknaampdaa.Place Ops Codes Bags Marks
attribute [local go_sem ↓] Go.wp_at_zero Go.wp_at_succ
attribute [local go_sem] yielded_undef

theorem begin_low {live : List Opn} {a : Int} (h : a < 1) : beginM live a = [] := by unfold beginM; rw [if_neg (by omega)]
theorem begin_high {live : List Opn} {a : Int} (h : (live.length : Int) < a) : beginM live a = [] := by unfold beginM; rw [if_neg (by omega)]
set_option maxRecDepth 100000 in
set_option maxHeartbeats 4000000 in
theorem refBegin_any {v : Value} {live : List Opn} {w : World} (a : Int) (hv : OpL w v live) (ha : -1 ≤ a) (hb : a ≤ 2000000) :
    Calls Try.prog 44 #[v, .int .i64 a] w fun e w' => ∃ ao cap, e = .returned (.slice ao (beginM live a).length cap) ∧ Runs w (.slice ao (beginM live a).length cap) (beginM live a) ∧ w' = w := by
  obtain ⟨ao, cap, rfl⟩ := hv.shape
  by_cases h1 : a < 1
  · have d1 : decide (a < 1) = true := decide_eq_true h1
    rw [begin_low h1]
    generalize live.length = n
    clear hv
    go_enter Try.func44, Try.ntmps44
    go_wp2
    go_ret
    exact ⟨_, _, rfl, Sees.nil _ _, rfl⟩
  have d1 : decide (a < 1) = false := decide_eq_false h1
  by_cases h2 : (live.length : Int) < a
  · rw [begin_high h2]
    obtain ⟨n, hn⟩ : ∃ n, live.length = n := ⟨_, rfl⟩
    rw [hn] at h2 ⊢
    have d2 : decide ((n : Int) < a) = true := decide_eq_true h2
    clear hv hn
    go_enter Try.func44, Try.ntmps44
    go_wp2
    go_ret
    exact ⟨_, _, rfl, Sees.nil _ _, rfl⟩
  obtain ⟨i, hi⟩ : ∃ i : Nat, (i : Int) + 1 = a := ⟨(a - 1).toNat, by omega⟩
  have hil : i < live.length := by omega
  have hbg := begin_succ hil
  rw [hi] at hbg
  obtain ⟨bb, oo, y, e, hbb, hru, h0, h1', h2', h3, h4⟩ := opl_at hv i hil
  subst e
  rw [hbg]
  obtain ⟨L, hL⟩ : ∃ z, (live[i]'hil).pl = z := ⟨_, rfl⟩
  rw [hL] at hru ⊢
  obtain ⟨n, hn⟩ : ∃ n, live.length = n := ⟨_, rfl⟩
  rw [hn] at h2 hil ⊢
  have d2 : decide ((n : Int) < a) = false := decide_eq_false h2
  have ej : a - 1 = (i : Int) := by omega
  have ew : IntKind.i64.wrap (i : Int) = (i : Int) := IntWalk.i64_in _ (by omega)
  have q6 : (0 : Int) ≤ (i : Int) := by omega
  have q7 : (i : Int) < (n : Int) := by omega
  have RU := Lib.hid hru
  obtain ⟨yo, yc, rfl⟩ := hru.shape
  obtain ⟨m, hm⟩ : ∃ m, L.length = m := ⟨_, rfl⟩
  rw [hm] at RU h3 ⊢
  clear hv hbg hru h0 h1' h2' h4 hL hn hm hi
  go_enter Try.func44, Try.ntmps44
  go_wp2
  go_ret
  exact ⟨_, _, rfl, RU.out, rfl⟩

/-- Stamps of the call's own, and an error. -/
def AllI (L : List Id) (x : Int) (w : World) (e : Ending) (w' : World) : Prop := ∃ ao cap, e = .returned (.tuple #[.slice ao L.length cap, .int .i64 x]) ∧ OwnI w' w.heap.size (.slice ao L.length cap) L ∧ Below w.heap.size w w'
/-- A stamp, and an error. -/
def OneI (a : Id) (x : Int) (w : World) (e : Ending) (w' : World) : Prop := e = .returned (.tuple #[.agg #[.int .u32 (a.t : Int), .int .u8 (a.r : Int)], .int .i64 x]) ∧ Below w.heap.size w w'
theorem lives_fits {l : List Opn} (h : Bag l) : (livesM l l).length ≤ 1024 ∧ ∀ o ∈ livesM l l, mayO o = true := ⟨Nat.le_trans (livesM_le l l) h.1, lives_may h.2.1⟩

set_option maxRecDepth 100000 in
set_option maxHeartbeats 4000000 in
theorem refAll13_any {v : Value} {l : List Opn} {w : World} (hv : OpL w v l) : Calls Try.prog 16 #[v] w (AllI (allL l) (chkL l) w) := by
  have ML := Lib.hid (refMayL_any hv)
  by_cases hb : Bag l
  rotate_left
  · have e1 : chkL l = 8 := by unfold chkL; rw [bagB_no hb]; rfl
    have e2 : allL l = [] := by unfold allL; rw [bagB_no hb]; rfl
    rw [bagB_no hb] at ML
    rw [e1, e2]
    clear hv e1 e2 hb
    go_enter Try.func16, Try.ntmps16
    go_wp2_with fail
    refine ML.out.mono ?_
    rintro e w1 ⟨rfl, b1⟩
    have B1 := Lib.hid b1
    clear b1
    go_wp2
    go_ret2
    exact ⟨_, _, rfl, World.ownsRow_nil _ _ _ _, B1.out⟩
  have e1 : chkL l = 0 := by unfold chkL; rw [(bagB_iff l).2 hb]; rfl
  have e2 : allL l = sectsM (livesM l l) := by unfold allL; rw [(bagB_iff l).2 hb]; rfl
  have LV : Hid (∀ W : World, Below w.heap.size w W → Calls Try.prog 40 #[v] W fun e w' => ∃ v', e = .returned v' ∧ OpL w' v' (livesM l l) ∧ Below W.heap.size W w') := fun W h => refLives_any (hv.keeps h) hb.2.1 hb.1
  have SE : Hid (∀ (W : World) (u : Value), OpL W u (livesM l l) → Calls Try.prog 39 #[u] W fun e w' => ∃ ao cap, e = .returned (.slice ao (sectsM (livesM l l)).length cap) ∧ OwnI w' W.heap.size (.slice ao (sectsM (livesM l l)).length cap) (sectsM (livesM l l)) ∧ Below W.heap.size W w') := fun W u h => by
    have := refSections_any h (by have := (lives_fits hb).1; omega)
    rwa [← sectsM_len] at this
  rw [(bagB_iff l).2 hb] at ML
  rw [e1, e2]
  obtain ⟨L, hL⟩ : ∃ z, sectsM (livesM l l) = z := ⟨_, rfl⟩
  rw [hL] at SE ⊢
  clear hv e1 e2 hb hL
  go_enter Try.func16, Try.ntmps16
  go_wp2_with fail
  refine ML.out.mono ?_
  rintro e w1 ⟨rfl, b1⟩
  have B1 := Lib.hid b1
  clear b1
  go_wp2_with fail
  refine (LV.out _ B1.out).mono ?_
  rintro e w2 ⟨v2, rfl, o2, b2⟩
  have B2 := Lib.hid (bt B1.out b2)
  have O2 := Lib.hid o2
  clear b2 o2
  go_wp2_with fail
  refine (SE.out _ _ O2.out).mono ?_
  rintro e w3 ⟨ao, cap, rfl, o3, b3⟩
  have B3 := Lib.hid (bt B2.out b3)
  have O3 : Hid (OwnI w3 w.heap.size (.slice ao L.length cap) L) := op_base o3 B2.out.size
  clear b3 o3 O2 B1
  go_wp2
  go_ret2
  exact ⟨_, _, rfl, O3.out, B3.out⟩

set_option maxRecDepth 100000 in
set_option maxHeartbeats 4000000 in
theorem refOf13_any {v u : Value} {l : List Opn} {p : List Run} {w : World} (hv : OpL w v l) (hu : Runs w u p) : Calls Try.prog 17 #[v, u] w (OneI (homeL l p) (homeE l p) w) := by
  obtain ⟨wl, hwl⟩ : ∃ x, x = w.alloc (.cells #[.int .u32 0, .int .u8 0] 24) := ⟨_, rfl⟩
  have X0 : Hid (wl.heap[w.heap.size]? = some (.cells #[.int .u32 0, .int .u8 0] 24)) := by rw [hwl]; exact blk_new rfl
  have B0 : Hid (Below w.heap.size w wl) := by rw [hwl]; exact (Below.refl _ _).alloc (Nat.le_refl _) _
  have ML : Hid (Calls Try.prog 38 #[v] wl fun e w' => e = .returned (.bool (bagB l)) ∧ Below wl.heap.size wl w') := refMayL_any (hv.keeps B0.out)
  have AN : Hid (∀ W : World, Below w.heap.size w W → Calls Try.prog 41 #[u] W fun e w' => e = .returned (.bool (anyB p)) ∧ Below W.heap.size W w') := fun W h => refAny_any (hu.keeps h)
  have LV : Hid (Bag l → ∀ W : World, Below w.heap.size w W → Calls Try.prog 40 #[v] W fun e w' => ∃ v', e = .returned v' ∧ OpL w' v' (livesM l l) ∧ Below W.heap.size W w') := fun hb W h => refLives_any (hv.keeps h) hb.2.1 hb.1
  have HO : Hid (Bag l → anyB p = true → ∀ (W : World) (y : Value), OpL W y (livesM l l) → Below w.heap.size w W → Calls Try.prog 42 #[y, u] W fun e w' => e = .returned (.agg #[.int .u32 ((homeM (livesM l l) p).t : Int), .int .u8 ((homeM (livesM l l) p).r : Int)]) ∧ Below W.heap.size W w') := fun hb hp W y h h2 => refHome_any h (hu.keeps h2) (lives_fits hb).2 hp
  have HW := Lib.hid hwl
  clear hv hu hwl
  have BAD : Hid ((bagB l && anyB p) = false → homeL l p = zid ∧ homeE l p = 8) := fun h => by unfold homeL homeE; rw [h]; exact ⟨rfl, rfl⟩
  have GOOD : Hid ((bagB l && anyB p) = true → homeL l p = homeM (livesM l l) p ∧ homeE l p = 0) := fun h => by unfold homeL homeE; rw [h]; exact ⟨rfl, rfl⟩
  by_cases hb : Bag l
  rotate_left
  · obtain ⟨e1, e2⟩ := BAD.out (by rw [bagB_no hb]; rfl)
    rw [bagB_no hb] at ML
    rw [e1, e2]
    clear BAD GOOD LV HO AN hb e1 e2
    go_enter Try.func17, Try.ntmps17
    go_wp2_with fail
    rw [← HW.out]
    refine ML.out.mono ?_
    rintro e w1 ⟨rfl, b1⟩
    have B1 := Lib.hid (bt B0.out b1)
    have X1 := Lib.hid (blk_below b1 X0.out)
    clear b1 X0 B0 HW
    have c0 := cell_of_row _ _ 0 _ _ _ X1.out
    have c1 := cell_of_row _ _ 1 _ _ _ X1.out
    have f0 : ∀ o, w1.frozen? ⟨w.heap.size, o, none⟩ = false := fun o => frz2 X1.out o
    have HF := Lib.hid (put2_same (.int .u32 0) (.int .u8 0) X1.out)
    have BF := Lib.hid (put2_below (.int .u32 0) (.int .u8 0) (Nat.le_refl w.heap.size) B1.out)
    obtain ⟨WF, hWF⟩ : ∃ WF, put2 w1 w.heap.size (.int .u32 0) (.int .u8 0) = WF := ⟨_, rfl⟩
    rw [hWF] at HF BF
    unfold put2 at hWF
    have HX := Lib.hid hWF
    clear hWF X1 B1
    go_wp2
    rw [HX.out]
    have e0 := cell_of_row _ _ 0 _ _ _ HF.out
    have e1 := cell_of_row _ _ 1 _ _ _ HF.out
    exact bodyPost_ret (v := .tuple #[.agg #[.int .u32 0, .int .u8 0], .int .i64 8]) (by simp [results, Try.results17, go_sem, e0, e1]) rfl ⟨rfl, BF.out⟩
  rw [(bagB_iff l).2 hb] at ML BAD GOOD
  by_cases hp : anyB p = true
  rotate_left
  · have hp' : anyB p = false := by simpa using hp
    obtain ⟨e1, e2⟩ := BAD.out (by rw [hp']; rfl)
    rw [hp'] at AN
    rw [e1, e2]
    clear BAD GOOD LV HO hb hp hp' e1 e2
    go_enter Try.func17, Try.ntmps17
    go_wp2_with fail
    rw [← HW.out]
    refine ML.out.mono ?_
    rintro e w1 ⟨rfl, b1⟩
    have B1 := Lib.hid (bt B0.out b1)
    have X1 := Lib.hid (blk_below b1 X0.out)
    clear b1 X0 B0 HW ML
    go_wp2_with fail
    refine (AN.out _ B1.out).mono ?_
    rintro e w2 ⟨rfl, b2⟩
    have B2 := Lib.hid (bt B1.out b2)
    have X2 := Lib.hid (blk_below b2 X1.out)
    clear b2 X1 B1 AN
    have c0 := cell_of_row _ _ 0 _ _ _ X2.out
    have c1 := cell_of_row _ _ 1 _ _ _ X2.out
    have f0 : ∀ o, w2.frozen? ⟨w.heap.size, o, none⟩ = false := fun o => frz2 X2.out o
    have HF := Lib.hid (put2_same (.int .u32 0) (.int .u8 0) X2.out)
    have BF := Lib.hid (put2_below (.int .u32 0) (.int .u8 0) (Nat.le_refl w.heap.size) B2.out)
    obtain ⟨WF, hWF⟩ : ∃ WF, put2 w2 w.heap.size (.int .u32 0) (.int .u8 0) = WF := ⟨_, rfl⟩
    rw [hWF] at HF BF
    unfold put2 at hWF
    have HX := Lib.hid hWF
    clear hWF X2 B2
    go_wp2
    rw [HX.out]
    have e0 := cell_of_row _ _ 0 _ _ _ HF.out
    have e1 := cell_of_row _ _ 1 _ _ _ HF.out
    exact bodyPost_ret (v := .tuple #[.agg #[.int .u32 0, .int .u8 0], .int .i64 8]) (by simp [results, Try.results17, go_sem, e0, e1]) rfl ⟨rfl, BF.out⟩
  obtain ⟨e1, e2⟩ := GOOD.out (by rw [hp]; rfl)
  have LV2 := Lib.hid (LV.out hb)
  have HO2 := Lib.hid (HO.out hb hp)
  rw [hp] at AN
  rw [e1, e2]
  obtain ⟨⟨T, r, hT, hr⟩, hR⟩ : ∃ z, homeM (livesM l l) p = z := ⟨_, rfl⟩
  rw [hR] at HO2 ⊢
  simp only at HO2 ⊢
  clear BAD GOOD LV HO hb hp e1 e2 hR
  go_enter Try.func17, Try.ntmps17
  go_wp2_with fail
  rw [← HW.out]
  refine ML.out.mono ?_
  rintro e w1 ⟨rfl, b1⟩
  have B1 := Lib.hid (bt B0.out b1)
  have X1 := Lib.hid (blk_below b1 X0.out)
  clear b1 X0 B0 HW ML
  go_wp2_with fail
  refine (AN.out _ B1.out).mono ?_
  rintro e w2 ⟨rfl, b2⟩
  have B2 := Lib.hid (bt B1.out b2)
  have X2 := Lib.hid (blk_below b2 X1.out)
  clear b2 X1 B1 AN
  go_wp2_with fail
  refine (LV2.out _ B2.out).mono ?_
  rintro e w3 ⟨v3, rfl, o3, b3⟩
  have B3 := Lib.hid (bt B2.out b3)
  have X3 := Lib.hid (blk_below b3 X2.out)
  have O3 := Lib.hid o3
  clear b3 o3 X2 B2 LV2
  go_wp2_with fail
  refine (HO2.out _ _ O3.out B3.out).mono ?_
  rintro e w4 ⟨rfl, b4⟩
  have B4 := Lib.hid (bt B3.out b4)
  have X4 := Lib.hid (blk_below b4 X3.out)
  clear b4 X3 B3 O3 HO2
  have c0 := cell_of_row _ _ 0 _ _ _ X4.out
  have c1 := cell_of_row _ _ 1 _ _ _ X4.out
  have f0 : ∀ o, w4.frozen? ⟨w.heap.size, o, none⟩ = false := fun o => frz2 X4.out o
  have HF := Lib.hid (put2_same (.int .u32 (T : Int)) (.int .u8 (r : Int)) X4.out)
  have BF := Lib.hid (put2_below (.int .u32 (T : Int)) (.int .u8 (r : Int)) (Nat.le_refl w.heap.size) B4.out)
  obtain ⟨WF, hWF⟩ : ∃ WF, put2 w4 w.heap.size (.int .u32 (T : Int)) (.int .u8 (r : Int)) = WF := ⟨_, rfl⟩
  rw [hWF] at HF BF
  unfold put2 at hWF
  have HX := Lib.hid hWF
  clear hWF X4 B4
  go_wp2
  rw [HX.out]
  have e0 := cell_of_row _ _ 0 _ _ _ HF.out
  have e1 := cell_of_row _ _ 1 _ _ _ HF.out
  exact bodyPost_ret (v := .tuple #[.agg #[.int .u32 (T : Int), .int .u8 (r : Int)], .int .i64 0]) (by simp [results, Try.results17, go_sem, e0, e1]) rfl ⟨rfl, BF.out⟩
end Go.Proofs.Ytdgcokknaampdaa.Homes

/- What calls of home answer. Conditions: none. -/
namespace Go.Proofs.Ytdgcokknaampdaa.Homes
open Go.RowKit Go.WideShapes Stamp Go.Proofs.Ytdgcokknaampdaa.Place Ops Codes Bags Marks
/-- Two rows of the call's own (they may lie in one block), and an error. -/
def TwoR (A B : List Run) (x : Int) (w : World) (e : Ending) (w' : World) : Prop := ∃ va vb, e = .returned (.tuple #[va, vb, .int .i64 x]) ∧ w'.ownsRow w.heap.size 35 3 va A.length (runs A) ∧ w'.ownsRow w.heap.size 35 3 vb B.length (runs B) ∧ Below w.heap.size w w'
/-- A slice value whose cells may be written over: its block lies from base on. -/
def Wk (w : World) (base : Nat) (ao : Option Addr) (n : Nat) : Prop := n = 0 ∨ ∃ g cur, ao = some ⟨g, 0, none⟩ ∧ base ≤ g ∧ w.heap[g]? = some (.cells cur 35 (0, 0)) ∧ n * 3 ≤ cur.size
theorem Wk.of {w : World} {base n cap : Nat} {ao : Option Addr} {cs : List Value} (h : w.ownsRow base 35 3 (.slice ao n cap) n cs) : Wk w base ao n := by
  rcases h.2 with ⟨hv, h0⟩ | ⟨g, c2, cur, hv, hb, h1, h2, h3, h4, h5⟩
  · exact .inl h0
  · obtain ⟨rfl, -, rfl⟩ := Value.slice.inj hv
    exact .inr ⟨g, cur, rfl, hb, h1, by rw [h4]; exact Nat.mul_le_mul_right 3 h2⟩
theorem Wk.keeps {w w' : World} {base n : Nat} {ao : Option Addr} (h : Wk w base ao n) (hb : Below w.heap.size w w') : Wk w' base ao n :=
  h.imp id fun ⟨g, cur, h1, h2, h3, h4⟩ => ⟨g, cur, h1, h2, blk_below hb h3, h4⟩
theorem Wk.set {w : World} {base n g j : Nat} {ao : Option Addr} {u : Value} (h : Wk w base ao n) : Wk (w.setCell ⟨g, j, none⟩ u) base ao n := by
  refine h.imp id fun ⟨q, cur, h1, h2, h3, h4⟩ => ?_
  by_cases e : q = g
  · subst e
    exact ⟨q, _, h1, h2, heap_setCell_same w q j cur _ u h3, by rw [Array.size_setIfInBounds]; exact h4⟩
  · exact ⟨q, cur, h1, h2, (heap_setCell_other w ⟨g, j, none⟩ q u e).trans h3, h4⟩
theorem Wk.at {w : World} {base n k : Nat} {ao : Option Addr} (h : Wk w base ao n) (hk : k < n) : ∃ g u, ao = some ⟨g, 0, none⟩ ∧ base ≤ g ∧ w.cell? ⟨g, k * 3 + 2, none⟩ = some u ∧ w.frozen? ⟨g, k * 3 + 2, none⟩ = false := by
  rcases h with h | ⟨g, cur, h1, h2, h3, h4⟩
  · omega
  · have hj : k * 3 + 2 < cur.size := by omega
    exact ⟨g, cur[k * 3 + 2]'hj, h1, h2, (cell_of_row _ g (k * 3 + 2) cur _ _ h3).trans (Array.getElem?_eq_getElem hj), by simp [World.frozen?, h3]⟩
theorem begin_fits {live : List Opn} (hm : ∀ o ∈ live, mayO o = true) (a : Int) : (beginM live a).length ≤ 64 := by
  unfold beginM
  split
  · rename_i h
    have hj : (a - 1).toNat < live.length := by omega
    rw [List.getD_eq_getElem?_getD, List.getElem?_eq_getElem hj]
    exact mayO_fits (hm _ (List.getElem_mem hj))
  · simp
theorem from_fits (l : List Opn) (s : Id) : (fromL l s).length ≤ 64 := by
  unfold fromL
  split
  · rename_i h; exact begin_fits (lives_fits ((bagB_iff l).1 h.1)).2 _
  · simp
theorem to_fits (l : List Opn) (s : Id) : (toL l s).length ≤ 64 := by
  unfold toL
  split
  · rename_i h; exact begin_fits (lives_fits ((bagB_iff l).1 h.1)).2 _
  · simp
end Go.Proofs.Ytdgcokknaampdaa.Homes

/- octavoref13.Ahead, Span: what each answers. Conditions: the slice's cells are operations. -/
namespace Go.Proofs.Ytdgcokknaampdaa.Homes
open Go.RowKit Go.WideShapes Stamp Go.Proofs.Ytdgcokknaampdaa.Place Ops Codes Bags Marks
attribute [local go_sem ↓] Go.wp_at_zero Go.wp_at_succ
attribute [local go_sem] yielded_undef

theorem where_pos {live : List Opn} {s : Id} (h : 1 ≤ whereM live s) : ∃ j : Nat, whereM live s = (j : Int) + 1 ∧ whereN live s = j + 1 ∧ j + 1 < (sectsM live).length := by
  unfold whereM at h ⊢
  rw [sectsM_len]
  split at h
  · rename_i h2
    rw [if_pos h2]
    exact ⟨whereN live s - 1, by omega, by omega, by omega⟩
  · omega
theorem where_lo (live : List Opn) (s : Id) : -1 ≤ whereM live s ∧ whereM live s ≤ live.length := by
  unfold whereM
  split <;> omega
set_option maxRecDepth 100000 in
set_option maxHeartbeats 4000000 in
theorem refAhead13_any {v : Value} {l : List Opn} (s : Id) {w : World} (hv : OpL w v l) : Calls Try.prog 18 #[v, .agg #[.int .u32 (s.t : Int), .int .u8 (s.r : Int)]] w (OneI (aheadL l s) (aheadE l s) w) := by
  obtain ⟨wb, hwb⟩ : ∃ x, x = w.alloc (.cells #[.int .u32 (s.t : Int), .int .u8 (s.r : Int)] 24) := ⟨_, rfl⟩
  obtain ⟨wl, hwl⟩ : ∃ x, x = wb.alloc (.cells #[.int .u32 0, .int .u8 0] 24) := ⟨_, rfl⟩
  have hsz : wb.heap.size = w.heap.size + 1 := by rw [hwb]; exact Array.size_push _
  have X0 : Hid (wl.heap[w.heap.size + 1]? = some (.cells #[.int .u32 0, .int .u8 0] 24)) := by rw [hwl, ← hsz]; exact blk_new rfl
  have Bb : Below w.heap.size w wb := by rw [hwb]; exact (Below.refl _ _).alloc (Nat.le_refl _) _
  have Y0 : Hid (wl.heap[w.heap.size]? = some (.cells #[.int .u32 (s.t : Int), .int .u8 (s.r : Int)] 24)) := by
    have h1 : wb.heap[w.heap.size]? = some (.cells #[.int .u32 (s.t : Int), .int .u8 (s.r : Int)] 24) := by rw [hwb]; exact blk_new rfl
    rw [hwl]
    exact blk_below ((Below.refl _ _).alloc (Nat.le_refl _) _) h1
  have B0 : Hid (Below w.heap.size w wl) := by rw [hwl]; exact Bb.alloc (by omega) _
  have ML : Hid (Calls Try.prog 38 #[v] wl fun e w' => e = .returned (.bool (bagB l)) ∧ Below wl.heap.size wl w') := refMayL_any (hv.keeps B0.out)
  have LV : Hid (Bag l → ∀ W : World, Below w.heap.size w W → Calls Try.prog 40 #[v] W fun e w' => ∃ v', e = .returned v' ∧ OpL w' v' (livesM l l) ∧ Below W.heap.size W w') := fun hb W h => refLives_any (hv.keeps h) hb.2.1 hb.1
  have WH : Hid (Bag l → ∀ (W : World) (y : Value), OpL W y (livesM l l) → Calls Try.prog 43 #[y, .agg #[.int .u32 (s.t : Int), .int .u8 (s.r : Int)]] W fun e w' => e = .returned (.int .i64 (whereM (livesM l l) s)) ∧ Below W.heap.size W w') := fun hb W y h => refWhere_any s h (by have := (lives_fits hb).1; omega)
  have SE : Hid (Bag l → ∀ (W : World) (u : Value), OpL W u (livesM l l) → Calls Try.prog 39 #[u] W fun e w' => ∃ ao cap, e = .returned (.slice ao ((livesM l l).length + 1) cap) ∧ OwnI w' W.heap.size (.slice ao ((livesM l l).length + 1) cap) (sectsM (livesM l l)) ∧ Below W.heap.size W w') := fun hb W u h => refSections_any h (by have := (lives_fits hb).1; omega)
  have HW : Hid (wl = (w.alloc (.cells #[.int .u32 (s.t : Int), .int .u8 (s.r : Int)] 24)).alloc (.cells #[.int .u32 0, .int .u8 0] 24)) := by rw [hwl, hwb]; rfl
  clear hv hwl hwb Bb hsz
  by_cases hb : Bag l
  rotate_left
  · have e1 : aheadL l s = zid := by unfold aheadL; rw [bagB_no hb]; rfl
    have e2 : aheadE l s = 8 := by unfold aheadE; rw [bagB_no hb]; rfl
    rw [bagB_no hb] at ML
    rw [e1, e2]
    clear LV WH SE hb e1 e2
    go_enter Try.func18, Try.ntmps18
    go_wp2_with fail
    rw [← HW.out]
    refine ML.out.mono ?_
    rintro e w1 ⟨rfl, b1⟩
    have B1 := Lib.hid (bt B0.out b1)
    have X1 := Lib.hid (blk_below b1 X0.out)
    clear b1 X0 Y0 B0 HW ML
    have c0 := cell_of_row _ _ 0 _ _ _ X1.out
    have c1 := cell_of_row _ _ 1 _ _ _ X1.out
    have f0 : ∀ o, w1.frozen? ⟨w.heap.size + 1, o, none⟩ = false := fun o => frz2 X1.out o
    have HF := Lib.hid (put2_same (.int .u32 0) (.int .u8 0) X1.out)
    have BF := Lib.hid (put2_below (.int .u32 0) (.int .u8 0) (Nat.le_add_right w.heap.size 1) B1.out)
    obtain ⟨WF, hWF⟩ : ∃ WF, put2 w1 (w.heap.size + 1) (.int .u32 0) (.int .u8 0) = WF := ⟨_, rfl⟩
    rw [hWF] at HF BF
    unfold put2 at hWF
    have HX := Lib.hid hWF
    clear hWF X1 B1
    go_wp2
    rw [HX.out]
    have e0 := cell_of_row _ _ 0 _ _ _ HF.out
    have e1 := cell_of_row _ _ 1 _ _ _ HF.out
    exact bodyPost_ret (v := .tuple #[.agg #[.int .u32 0, .int .u8 0], .int .i64 8]) (by simp [results, Try.results18, go_sem, e0, e1]) rfl ⟨rfl, BF.out⟩
  rw [(bagB_iff l).2 hb] at ML
  have LV2 := Lib.hid (LV.out hb)
  have WH2 := Lib.hid (WH.out hb)
  have SE2 := Lib.hid (SE.out hb)
  have hbb := (bagB_iff l).2 hb
  have hlen := (lives_fits hb).1
  clear LV WH SE hb
  obtain ⟨V, hV⟩ : ∃ z, livesM l l = z := ⟨_, rfl⟩
  have aL : aheadL l s = if 1 ≤ whereM V s then (sectsM V).getD (whereN V s - 1) zid else zid := by unfold aheadL; rw [hV, hbb]; simp
  have aE : aheadE l s = if 1 ≤ whereM V s then 0 else 130 := by unfold aheadE; rw [hV, hbb]; simp
  rw [hV] at LV2 WH2 SE2 hlen
  rw [aL, aE]
  clear aL aE hV hbb
  by_cases hx : 1 ≤ whereM V s
  rotate_left
  · rw [if_neg hx, if_neg hx]
    obtain ⟨x, hxx⟩ : ∃ x, whereM V s = x := ⟨_, rfl⟩
    rw [hxx] at WH2 hx
    have q : decide (x < 1) = true := decide_eq_true (by omega)
    clear hxx SE2 hlen
    go_enter Try.func18, Try.ntmps18
    go_wp2_with fail
    rw [← HW.out]
    refine ML.out.mono ?_
    rintro e w1 ⟨rfl, b1⟩
    have B1 := Lib.hid (bt B0.out b1)
    have X1 := Lib.hid (blk_below b1 X0.out)
    have Y1 := Lib.hid (blk_below b1 Y0.out)
    clear b1 X0 Y0 B0 HW ML
    go_wp2_with fail
    refine (LV2.out _ B1.out).mono ?_
    rintro e w2 ⟨v2, rfl, o2, b2⟩
    have B2 := Lib.hid (bt B1.out b2)
    have X2 := Lib.hid (blk_below b2 X1.out)
    have Y2 := Lib.hid (blk_below b2 Y1.out)
    have O2 := Lib.hid o2
    clear b2 o2 X1 Y1 B1 LV2
    have d0 := cell_of_row _ _ 0 _ _ _ Y2.out
    have d1 := cell_of_row _ _ 1 _ _ _ Y2.out
    go_wp2_with fail
    refine (WH2.out _ _ O2.out).mono ?_
    rintro e w3 ⟨rfl, b3⟩
    have B3 := Lib.hid (bt B2.out b3)
    have X3 := Lib.hid (blk_below b3 X2.out)
    have O3 := Lib.hid (O2.out.keeps b3)
    clear b3 d0 d1 X2 Y2 B2 O2 WH2
    clear O3
    have c0 := cell_of_row _ _ 0 _ _ _ X3.out
    have c1 := cell_of_row _ _ 1 _ _ _ X3.out
    have f0 : ∀ o, w3.frozen? ⟨w.heap.size + 1, o, none⟩ = false := fun o => frz2 X3.out o
    have HF := Lib.hid (put2_same (.int .u32 0) (.int .u8 0) X3.out)
    have BF := Lib.hid (put2_below (.int .u32 0) (.int .u8 0) (Nat.le_add_right w.heap.size 1) B3.out)
    obtain ⟨WF, hWF⟩ : ∃ WF, put2 w3 (w.heap.size + 1) (.int .u32 0) (.int .u8 0) = WF := ⟨_, rfl⟩
    rw [hWF] at HF BF
    unfold put2 at hWF
    have HX := Lib.hid hWF
    clear hWF X3 B3
    go_wp2
    rw [HX.out]
    have e0 := cell_of_row _ _ 0 _ _ _ HF.out
    have e1 := cell_of_row _ _ 1 _ _ _ HF.out
    exact bodyPost_ret (v := .tuple #[.agg #[.int .u32 0, .int .u8 0], .int .i64 130]) (by simp [results, Try.results18, go_sem, e0, e1]) rfl ⟨rfl, BF.out⟩
  obtain ⟨j, hj, hjn, hjl⟩ := where_pos hx
  rw [if_pos hx, if_pos hx, hjn, Nat.add_sub_cancel]
  rw [hj] at WH2
  have hg : (sectsM V).getD j zid = (sectsM V)[j]'(by omega) := getD_get (by omega)
  rw [hg]
  have HN := (sectsM_len V)
  obtain ⟨L, hL⟩ : ∃ z, sectsM V = z := ⟨_, rfl⟩
  obtain ⟨n, hn⟩ : ∃ n, V.length = n := ⟨_, rfl⟩
  simp only [hL] at SE2 hjl HN ⊢
  rw [hn] at SE2 HN hlen
  have q1 : decide ((j : Int) + 1 < 1) = false := decide_eq_false (by omega)
  have q2 : IntKind.i64.wrap ((j : Int) + 1 - 1) = (j : Int) := by rw [Int.add_sub_cancel]; exact IntWalk.i64_in _ (by omega)
  have q3 : (0 : Int) ≤ (j : Int) := by omega
  have q4 : (j : Int) < ((n + 1 : Nat) : Int) := by omega
  have q5 : (j : Int) < (n : Int) + 1 := by omega
  have q6 : (j : Int) + 1 - 1 = (j : Int) := by omega
  have q7 : IntKind.i64.wrap (j : Int) = (j : Int) := IntWalk.i64_in _ (by omega)
  have hjl2 : j < L.length := by omega
  obtain ⟨⟨T, r, hT, hr⟩, hxx⟩ : ∃ x, L[j]'hjl2 = x := ⟨_, rfl⟩
  rw [hxx]
  have HE := Lib.hid hxx
  clear hxx
  clear hx hj hg
  go_enter Try.func18, Try.ntmps18
  go_wp2_with fail
  rw [← HW.out]
  refine ML.out.mono ?_
  rintro e w1 ⟨rfl, b1⟩
  have B1 := Lib.hid (bt B0.out b1)
  have X1 := Lib.hid (blk_below b1 X0.out)
  have Y1 := Lib.hid (blk_below b1 Y0.out)
  clear b1 X0 Y0 B0 HW ML
  go_wp2_with fail
  refine (LV2.out _ B1.out).mono ?_
  rintro e w2 ⟨v2, rfl, o2, b2⟩
  have B2 := Lib.hid (bt B1.out b2)
  have X2 := Lib.hid (blk_below b2 X1.out)
  have Y2 := Lib.hid (blk_below b2 Y1.out)
  have O2 := Lib.hid o2
  clear b2 o2 X1 Y1 B1 LV2
  have d0 := cell_of_row _ _ 0 _ _ _ Y2.out
  have d1 := cell_of_row _ _ 1 _ _ _ Y2.out
  go_wp2_with fail
  refine (WH2.out _ _ O2.out).mono ?_
  rintro e w3 ⟨rfl, b3⟩
  have B3 := Lib.hid (bt B2.out b3)
  have X3 := Lib.hid (blk_below b3 X2.out)
  have O3 := Lib.hid (O2.out.keeps b3)
  clear b3 d0 d1 X2 Y2 B2 O2 WH2
  go_wp2_with fail
  refine (SE2.out _ _ O3.out).mono ?_
  rintro e w4 ⟨lo, lc, rfl, o4, b4⟩
  have B4 := Lib.hid (bt B3.out b4)
  have X4 := Lib.hid (blk_below b4 X3.out)
  have SI : Ids w4 (.slice lo (n + 1) lc) L := Go.Proofs.Ytdgcokknaampdaa.Ids.own o4
  obtain ⟨bb, oo, e, hbb, h0, h1⟩ := Ids.at SI j hjl2
  subst e
  rw [getD_get hjl2] at h0 h1
  rw [HE.out] at h0 h1
  simp only at h0 h1
  clear b4 o4 SI SE2 X3 B3 O3 HE hbb
  have c0 := cell_of_row _ _ 0 _ _ _ X4.out
  have c1 := cell_of_row _ _ 1 _ _ _ X4.out
  have f0 : ∀ o, w4.frozen? ⟨w.heap.size + 1, o, none⟩ = false := fun o => frz2 X4.out o
  have HF := Lib.hid (put2_same (.int .u32 (T : Int)) (.int .u8 (r : Int)) X4.out)
  have BF := Lib.hid (put2_below (.int .u32 (T : Int)) (.int .u8 (r : Int)) (Nat.le_add_right w.heap.size 1) B4.out)
  obtain ⟨WF, hWF⟩ : ∃ WF, put2 w4 (w.heap.size + 1) (.int .u32 (T : Int)) (.int .u8 (r : Int)) = WF := ⟨_, rfl⟩
  rw [hWF] at HF BF
  unfold put2 at hWF
  have HX := Lib.hid hWF
  clear hWF X4 B4
  go_wp2
  rw [HX.out]
  have e0 := cell_of_row _ _ 0 _ _ _ HF.out
  have e1 := cell_of_row _ _ 1 _ _ _ HF.out
  exact bodyPost_ret (v := .tuple #[.agg #[.int .u32 (T : Int), .int .u8 (r : Int)], .int .i64 0]) (by simp [results, Try.results18, go_sem, e0, e1]) rfl ⟨rfl, BF.out⟩
set_option maxRecDepth 100000 in
set_option maxHeartbeats 4000000 in
theorem refSpan13_any {v : Value} {l : List Opn} (s : Id) {w : World} (hv : OpL w v l) : Calls Try.prog 19 #[v, .agg #[.int .u32 (s.t : Int), .int .u8 (s.r : Int)]] w
    fun e w' => ∃ ao ac bo bc, e = .returned (.tuple #[.slice ao (fromL l s).length ac, .slice bo (toL l s).length bc, .int .i64 (spanE l s)]) ∧ Runs w' (.slice ao (fromL l s).length ac) (fromL l s) ∧ Runs w' (.slice bo (toL l s).length bc) (toL l s) ∧ Below w.heap.size w w' := by
  obtain ⟨wl, hwl⟩ : ∃ x, x = w.alloc (.cells #[.int .u32 (s.t : Int), .int .u8 (s.r : Int)] 24) := ⟨_, rfl⟩
  have Y0 : Hid (wl.heap[w.heap.size]? = some (.cells #[.int .u32 (s.t : Int), .int .u8 (s.r : Int)] 24)) := by rw [hwl]; exact blk_new rfl
  have B0 : Hid (Below w.heap.size w wl) := by rw [hwl]; exact (Below.refl _ _).alloc (Nat.le_refl _) _
  have ML : Hid (Calls Try.prog 38 #[v] wl fun e w' => e = .returned (.bool (bagB l)) ∧ Below wl.heap.size wl w') := refMayL_any (hv.keeps B0.out)
  have LV : Hid (Bag l → ∀ W : World, Below w.heap.size w W → Calls Try.prog 40 #[v] W fun e w' => ∃ v', e = .returned v' ∧ OpL w' v' (livesM l l) ∧ Below W.heap.size W w') := fun hb W h => refLives_any (hv.keeps h) hb.2.1 hb.1
  have WH : Hid (Bag l → ∀ (W : World) (y : Value), OpL W y (livesM l l) → Calls Try.prog 43 #[y, .agg #[.int .u32 (s.t : Int), .int .u8 (s.r : Int)]] W fun e w' => e = .returned (.int .i64 (whereM (livesM l l) s)) ∧ Below W.heap.size W w') := fun hb W y h => refWhere_any s h (by have := (lives_fits hb).1; omega)
  have BG : Hid (∀ (W : World) (u : Value) (a : Int), OpL W u (livesM l l) → -1 ≤ a → a ≤ 2000000 → Calls Try.prog 44 #[u, .int .i64 a] W fun e w' => ∃ ao cap, e = .returned (.slice ao (beginM (livesM l l) a).length cap) ∧ Runs W (.slice ao (beginM (livesM l l) a).length cap) (beginM (livesM l l) a) ∧ w' = W) := fun W u a h h1 h2 => refBegin_any a h h1 h2
  have HW := Lib.hid hwl
  clear hv hwl
  by_cases hb : Bag l
  rotate_left
  · have e1 : fromL l s = [] := by unfold fromL; rw [bagB_no hb]; rfl
    have e2 : toL l s = [] := by unfold toL; rw [bagB_no hb]; rfl
    have e3 : spanE l s = 8 := by unfold spanE; rw [bagB_no hb]; rfl
    rw [bagB_no hb] at ML
    rw [e1, e2, e3]
    clear LV WH BG hb e1 e2 e3
    go_enter Try.func19, Try.ntmps19
    go_wp2_with fail
    rw [← HW.out]
    refine ML.out.mono ?_
    rintro e w1 ⟨rfl, b1⟩
    have B1 := Lib.hid (bt B0.out b1)
    clear b1 Y0 B0 HW ML
    go_wp2
    exact bodyPost_ret (v := .tuple #[.slice none 0 0, .slice none 0 0, .int .i64 8]) (by simp [results, Try.results19, go_sem]) rfl ⟨_, _, _, _, rfl, Sees.nil _ _, Sees.nil _ _, B1.out⟩
  rw [(bagB_iff l).2 hb] at ML
  have LV2 := Lib.hid (LV.out hb)
  have WH2 := Lib.hid (WH.out hb)
  have hbb := (bagB_iff l).2 hb
  have hlen := (lives_fits hb).1
  clear LV WH hb
  obtain ⟨V, hV⟩ : ∃ z, livesM l l = z := ⟨_, rfl⟩
  have aF : fromL l s = if 0 ≤ whereM V s then beginM V (whereM V s) else [] := by unfold fromL; rw [hV, hbb]; simp
  have aT : toL l s = if 0 ≤ whereM V s then beginM V (whereM V s + 1) else [] := by unfold toL; rw [hV, hbb]; simp
  have aE : spanE l s = if 0 ≤ whereM V s then 0 else 130 := by unfold spanE; rw [hV, hbb]; simp
  rw [hV] at LV2 WH2 BG hlen
  rw [aF, aT, aE]
  have hlo := where_lo V s
  obtain ⟨x, hx⟩ : ∃ x, whereM V s = x := ⟨_, rfl⟩
  rw [hx] at WH2 hlo ⊢
  clear aF aT aE hV hbb hx
  by_cases hx : 0 ≤ x
  rotate_left
  · rw [if_neg hx, if_neg hx, if_neg hx]
    have q : decide (x < 0) = true := decide_eq_true (by omega)
    clear BG hlen hlo
    go_enter Try.func19, Try.ntmps19
    go_wp2_with fail
    rw [← HW.out]
    refine ML.out.mono ?_
    rintro e w1 ⟨rfl, b1⟩
    have B1 := Lib.hid (bt B0.out b1)
    have Y1 := Lib.hid (blk_below b1 Y0.out)
    clear b1 Y0 B0 HW ML
    go_wp2_with fail
    refine (LV2.out _ B1.out).mono ?_
    rintro e w2 ⟨v2, rfl, o2, b2⟩
    have B2 := Lib.hid (bt B1.out b2)
    have Y2 := Lib.hid (blk_below b2 Y1.out)
    have O2 := Lib.hid o2
    clear b2 o2 Y1 B1 LV2
    have d0 := cell_of_row _ _ 0 _ _ _ Y2.out
    have d1 := cell_of_row _ _ 1 _ _ _ Y2.out
    go_wp2_with fail
    refine (WH2.out _ _ O2.out).mono ?_
    rintro e w3 ⟨rfl, b3⟩
    have B3 := Lib.hid (bt B2.out b3)
    have O3 := Lib.hid (O2.out.keeps b3)
    clear b3 d0 d1 Y2 B2 O2 WH2
    clear O3
    go_wp2
    exact bodyPost_ret (v := .tuple #[.slice none 0 0, .slice none 0 0, .int .i64 130]) (by simp [results, Try.results19, go_sem]) rfl ⟨_, _, _, _, rfl, Sees.nil _ _, Sees.nil _ _, B3.out⟩
  rw [if_pos hx, if_pos hx, if_pos hx]
  have q : decide (x < 0) = false := decide_eq_false (by omega)
  have q2 : IntKind.i64.wrap (x + 1) = x + 1 := IntWalk.i64_in _ (by omega)
  have g1 := Lib.hid (fun W u h => BG.out W u x h (by omega) (by omega))
  have g2 := Lib.hid (fun W u h => BG.out W u (x + 1) h (by omega) (by omega))
  obtain ⟨F, hF⟩ : ∃ z, beginM V x = z := ⟨_, rfl⟩
  obtain ⟨T, hT⟩ : ∃ z, beginM V (x + 1) = z := ⟨_, rfl⟩
  rw [hF] at g1 ⊢
  rw [hT] at g2 ⊢
  clear BG hF hT hlen hlo
  go_enter Try.func19, Try.ntmps19
  go_wp2_with fail
  rw [← HW.out]
  refine ML.out.mono ?_
  rintro e w1 ⟨rfl, b1⟩
  have B1 := Lib.hid (bt B0.out b1)
  have Y1 := Lib.hid (blk_below b1 Y0.out)
  clear b1 Y0 B0 HW ML
  go_wp2_with fail
  refine (LV2.out _ B1.out).mono ?_
  rintro e w2 ⟨v2, rfl, o2, b2⟩
  have B2 := Lib.hid (bt B1.out b2)
  have Y2 := Lib.hid (blk_below b2 Y1.out)
  have O2 := Lib.hid o2
  clear b2 o2 Y1 B1 LV2
  have d0 := cell_of_row _ _ 0 _ _ _ Y2.out
  have d1 := cell_of_row _ _ 1 _ _ _ Y2.out
  go_wp2_with fail
  refine (WH2.out _ _ O2.out).mono ?_
  rintro e w3 ⟨rfl, b3⟩
  have B3 := Lib.hid (bt B2.out b3)
  have O3 := Lib.hid (O2.out.keeps b3)
  clear b3 d0 d1 Y2 B2 O2 WH2
  go_wp2_with fail
  refine (g1.out _ _ O3.out).mono ?_
  rintro e w4 ⟨fo, fc, rfl, r4, rfl⟩
  have R4 := Lib.hid r4
  clear r4 g1
  go_wp2_with fail
  refine (g2.out _ _ O3.out).mono ?_
  rintro e w5 ⟨eo, ec, rfl, r5, rfl⟩
  have R5 := Lib.hid r5
  clear r5 g2 O3
  go_wp2
  exact bodyPost_ret (v := .tuple #[.slice fo F.length fc, .slice eo T.length ec, .int .i64 0]) (by simp [results, Try.results19, go_sem]) rfl ⟨_, _, _, _, rfl, R4.out, R5.out, B3.out⟩
end Go.Proofs.Ytdgcokknaampdaa.Homes

/- octavo/home.name, begin, number: what each answers. Conditions: the slice's cells are operations, not more than a million. -/
namespace Go.Proofs.Ytdgcokknaampdaa.Homes
open Go.RowKit Go.WideShapes Stamp Go.Proofs.Ytdgcokknaampdaa.Place Ops Codes Bags Marks
attribute [local go_sem ↓] Go.wp_at_zero Go.wp_at_succ
attribute [local go_sem] yielded_undef

theorem sects_succ {live : List Opn} {j : Nat} (h : j < live.length) : (sectsM live).getD (j + 1) zid = idO (live[j]'h) := by
  unfold sectsM
  rw [List.getD_cons_succ, List.getD_eq_getElem?_getD, List.getElem?_map, List.getElem?_eq_getElem h]
  rfl
set_option maxRecDepth 100000 in
set_option maxHeartbeats 4000000 in
theorem hName_any {v : Value} {live : List Opn} {w : World} (hv : OpL w v live) (hl : live.length ≤ 1000000) (i : Nat) (hi : i ≤ live.length) :
    Calls Try.prog 30 #[v, .int .i64 (i : Int)] w fun e w' => e = .returned (.agg #[.int .u32 (((sectsM live).getD i zid).t : Int), .int .u8 (((sectsM live).getD i zid).r : Int)]) ∧ Below w.heap.size w w' := by
  obtain ⟨ao, cap, rfl⟩ := hv.shape
  by_cases h0 : i = 0
  · subst h0
    have e1 : (sectsM live).getD 0 zid = zid := rfl
    rw [e1]
    generalize live.length = n
    clear e1 hv hl hi
    go_enter Try.func30, Try.ntmps30
    go_wp2
    refine bodyPost_ret (v := .agg #[.int .u32 0, .int .u8 0]) (by simp [results, Try.results30, go_sem]) rfl ⟨rfl, ?_⟩
    exact (Below.refl _ _).alloc (Nat.le_refl _) _
  obtain ⟨j, rfl⟩ : ∃ j, i = j + 1 := ⟨i - 1, by omega⟩
  have hjl : j < live.length := by omega
  rw [sects_succ hjl]
  have B0 : Below w.heap.size w (w.alloc (.cells #[.int .u32 0, .int .u8 0] 24)) := (Below.refl _ _).alloc (Nat.le_refl _) _
  obtain ⟨bb, oo, y, e, hbb, hru, h0, h1, h2, h3, h4⟩ := opl_at (hv.keeps B0) j hjl
  subst e
  obtain ⟨x, hx⟩ : ∃ x, live[j]'hjl = x := ⟨_, rfl⟩
  rw [hx] at h1 h2 ⊢
  obtain ⟨k, t, r, l, p, hk, ht, hr, hp⟩ := x
  simp only [idO] at h1 h2 ⊢
  obtain ⟨bb', oo', y', e', hbb', _⟩ := opl_at hv j hjl
  cases e'
  obtain ⟨n, hn⟩ : ∃ n, live.length = n := ⟨_, rfl⟩
  rw [hn] at hl hjl hi ⊢
  have e1 : ((j + 1 : Nat) : Int) = (j : Int) + 1 := by omega
  have q0 : ¬ ((j : Int) + 1 = 0) := by omega
  have q1 : decide ((j : Int) + 1 = 0) = false := decide_eq_false q0
  have q2 : (j : Int) + 1 - 1 = (j : Int) := by omega
  have q3 : IntKind.i64.wrap (j : Int) = (j : Int) := IntWalk.i64_in _ (by omega)
  have q4 : (0 : Int) ≤ (j : Int) := by omega
  have q5 : (j : Int) < (n : Int) := by omega
  have hne : ¬ bb = w.heap.size := by omega
  rw [e1]
  clear hv h3 h4 hru hx hn B0 e1 hbb
  go_enter Try.func30, Try.ntmps30
  go_wp2
  refine bodyPost_ret (v := .agg #[.int .u32 (t : Int), .int .u8 (r : Int)]) (by simp [results, Try.results30, go_sem]) rfl ⟨rfl, ?_⟩
  exact (Below.refl _ _).alloc (Nat.le_refl _) _

theorem holdP_at {w : World} {base : Nat} : ∀ {cs : List Value} {l : List Opn}, HoldP w base cs l → ∀ k (h : k < l.length), ∃ y, cs[k * 5 + 3]? = some y ∧ w.ownsRow base 35 3 y (l[k]'h).pl.length (runs (l[k]'h).pl)
  | _, [], _, k, h => by simp at h
  | _, o :: l, ⟨v, d, h1, h2, h3⟩, 0, h => ⟨v, by rw [h1]; rfl, h2⟩
  | _, o :: l, ⟨v, d, h1, h2, h3⟩, k + 1, h => by
    obtain ⟨y, e1, e2⟩ := holdP_at h3 k (by simpa using h)
    refine ⟨y, ?_, by simpa using e2⟩
    rw [h1, List.getElem?_append_right (by simp only [List.length_cons, List.length_nil]; omega)]
    rw [show (k + 1) * 5 + 3 - [Value.int .u8 (o.k : Int), .int .u32 (o.t : Int), .int .u8 (o.r : Int), v, .int .i64 o.p].length = k * 5 + 3 by simp only [List.length_cons, List.length_nil]; omega]
    exact e1
theorem ownL_at {w : World} {base : Nat} {v : Value} {l : List Opn} (hv : OwnL w base v l) (k : Nat) (h : k < l.length) :
    ∃ g cap y, v = .slice (some ⟨g, 0, none⟩) l.length cap ∧ w.cell? ⟨g, k * 5 + 3, none⟩ = some y ∧ w.ownsRow base 35 3 y (l[k]'h).pl.length (runs (l[k]'h).pl) := by
  obtain ⟨cs, h1, h2⟩ := hv
  obtain ⟨y, e1, e2⟩ := holdP_at h2 k h
  rcases h1.2 with ⟨_, h0⟩ | ⟨g, cap, cur, rfl, _⟩
  · omega
  · exact ⟨g, cap, y, rfl, by rw [h1.cellAt (k * 5 + 3) (by omega), e1], e2⟩
theorem own_slice {w : World} {base n : Nat} {e : TypeId} {v : Value} {cs : List Value} (h : w.ownsRow base e 3 v n cs) : ∃ ao cap, v = .slice ao n cap := by
  rcases h.2 with ⟨hv, h0⟩ | ⟨g, c2, cur, hv, hb, _⟩
  · rw [h0]; exact ⟨_, _, hv⟩
  · exact ⟨_, _, hv⟩
set_option maxRecDepth 100000 in
set_option maxHeartbeats 4000000 in
theorem hBegin_any {v : Value} {live : List Opn} {base : Nat} {w : World} (hv : OwnL w base v live) (i : Nat) (hi2 : i ≤ 1000001) :
    Calls Try.prog 31 #[v, .int .i64 (i : Int)] w fun e w' => (∃ ao cap, e = .returned (.slice ao (beginM live i).length cap) ∧ w.ownsRow base 35 3 (.slice ao (beginM live i).length cap) (beginM live i).length (runs (beginM live i))) ∧ w' = w := by
  obtain ⟨ao, cap, rfl⟩ := hv.opl.shape
  by_cases h0 : i = 0
  · subst h0
    rw [begin_low (by omega)]
    obtain ⟨n, hn⟩ : ∃ n, live.length = n := ⟨_, rfl⟩
    rw [hn]
    clear hv hn hi2
    go_enter Try.func31, Try.ntmps31
    go_wp2
    go_ret
    exact ⟨⟨_, _, rfl, World.ownsRow_nil _ _ _ _⟩, rfl⟩
  have q1 : decide ((i : Int) = 0) = false := decide_eq_false (by omega)
  have q0 : ¬ ((i : Int) = 0) := by omega
  by_cases hi : live.length < i
  · rw [begin_high (by omega)]
    obtain ⟨n, hn⟩ : ∃ n, live.length = n := ⟨_, rfl⟩
    rw [hn] at hi ⊢
    have q2 : decide (n < i) = true := decide_eq_true hi
    have q3 : decide ((n : Int) < (i : Int)) = true := decide_eq_true (by omega)
    clear hv hn
    go_enter Try.func31, Try.ntmps31
    go_wp2
    go_ret
    exact ⟨⟨_, _, rfl, World.ownsRow_nil _ _ _ _⟩, rfl⟩
  obtain ⟨j, hj⟩ : ∃ j, j = i - 1 := ⟨_, rfl⟩
  have hjl : j < live.length := by omega
  have hbg := begin_succ hjl
  have q4 : (i : Int) - 1 = (j : Int) := by omega
  rw [show (j : Int) + 1 = (i : Int) by omega] at hbg
  obtain ⟨g, cap', y, e, h3, ho⟩ := ownL_at hv j hjl
  cases e
  rw [hbg]
  obtain ⟨R, hR⟩ : ∃ z, (live[j]'hjl).pl = z := ⟨_, rfl⟩
  rw [hR] at ho ⊢
  obtain ⟨n, hn⟩ : ∃ n, live.length = n := ⟨_, rfl⟩
  rw [hn] at hjl hi ⊢
  obtain ⟨yo, yc, rfl⟩ := own_slice ho
  have HO := Lib.hid ho
  have q2 : decide (n < i) = false := decide_eq_false hi
  have q3 : decide ((n : Int) < (i : Int)) = false := decide_eq_false (by omega)
  have q5 : IntKind.i64.wrap (j : Int) = (j : Int) := IntWalk.i64_in _ (by omega)
  have q6 : (0 : Int) ≤ (j : Int) := by omega
  have q7 : (j : Int) < (n : Int) := by omega
  obtain ⟨m, hm⟩ : ∃ m, R.length = m := ⟨_, rfl⟩
  rw [hm] at HO h3 ⊢
  clear hv hn ho hj hbg hR hm
  go_enter Try.func31, Try.ntmps31
  go_wp2
  go_ret
  exact ⟨⟨_, _, rfl, HO.out⟩, rfl⟩

/-- The number of a section, and whether it is one. -/
def NumI (x : Int) (e : Ending) : Prop := e = .returned (.tuple #[.int .i64 (if 0 ≤ x then x else 0), .bool (decide (0 ≤ x))])
set_option maxRecDepth 100000 in
set_option maxHeartbeats 8000000 in
theorem hNumber_any {v : Value} {live : List Opn} (s : Id) {w : World} (hv : OpL w v live) (hl : live.length ≤ 1000000) :
    Calls Try.prog 29 #[v, .agg #[.int .u32 (s.t : Int), .int .u8 (s.r : Int)]] w fun e w' => NumI (whereM live s) e ∧ Below w.heap.size w w' := by
  obtain ⟨ao, cap, rfl⟩ := hv.shape
  obtain ⟨wl, hwl⟩ : ∃ x, x = w.alloc (.cells #[.int .u32 (s.t : Int), .int .u8 (s.r : Int)] 24) := ⟨_, rfl⟩
  have B0 : Hid (Below w.heap.size w wl) := by rw [hwl]; exact (Below.refl _ _).alloc (Nat.le_refl _) _
  have P0 : Hid (Pair wl w.heap.size (.int .u32 (s.t : Int)) (.int .u8 (s.r : Int))) := by rw [hwl]; exact pair_new _ _ _ _
  have HW := Lib.hid hwl
  have NA : Hid (∀ (W : World) (i : Nat), Below w.heap.size w W → i ≤ live.length → Calls Try.prog 30 #[.slice ao live.length cap, .int .i64 (i : Int)] W fun e w' => e = .returned (.agg #[.int .u32 (((sectsM live).getD i zid).t : Int), .int .u8 (((sectsM live).getD i zid).r : Int)]) ∧ Below W.heap.size W w') := fun W i h hi => hName_any (hv.keeps h) hl i hi
  have HN : Hid (live.length + 1 = (sectsM live).length) := (sectsM_len live).symm
  have HY : Hid (∀ j (hj : j < (sectsM live).length), (∀ i (h : i < (sectsM live).length), i < j → (sectsM live)[i]'h ≠ s) → (sectsM live)[j]'hj = s → whereM live s = j) := fun j hj h1 h2 => where_is hj h1 h2
  have HZ : Hid ((∀ i (h : i < (sectsM live).length), (sectsM live)[i]'h ≠ s) → whereM live s = -1) := fun h => where_no h
  obtain ⟨q, hq⟩ : ∃ q, whereM live s = q := ⟨_, rfl⟩
  rw [hq] at HY HZ ⊢
  obtain ⟨L, hL⟩ : ∃ z, sectsM live = z := ⟨_, rfl⟩
  rw [hL] at NA HN HY HZ
  obtain ⟨n, hn⟩ : ∃ n, live.length = n := ⟨_, rfl⟩
  rw [hn] at NA HN hl ⊢
  obtain ⟨N, hNN⟩ : ∃ N, n + 1 = N := ⟨_, rfl⟩
  have hNm : N ≤ 1000001 := by omega
  have e0 : (n : Int) + 1 = (N : Int) := by omega
  have e1 : IntKind.i64.wrap (N : Int) = (N : Int) := IntWalk.i64_in _ (by omega)
  rw [hNN] at HN
  have NB : Hid (∀ (W : World) (i : Nat), Below w.heap.size w W → i < N → Calls Try.prog 30 #[.slice ao n cap, .int .i64 (i : Int)] W fun e w' => e = .returned (.agg #[.int .u32 ((L.getD i zid).t : Int), .int .u8 ((L.getD i zid).r : Int)]) ∧ Below W.heap.size W w') := fun W i h hi => NA.out W i h (by omega)
  obtain ⟨S, hS⟩ : ∃ z, s = z := ⟨_, rfl⟩
  have HSI : Hid (∀ x : Id, x = s ↔ x.t = s.t ∧ x.r = s.r) := fun x => Id.eq_iff
  rw [hS] at HY HZ
  have HSE : Hid (∀ x : Id, x = S ↔ x.t = s.t ∧ x.r = s.r) := by rw [← hS]; exact HSI.out
  obtain ⟨ts, rs, hts, hrs⟩ := s
  simp only at P0 HSE HW ⊢
  have HGO : Hid (∀ e (W : World), NumI q e → Below w.heap.size w W → NumI q e ∧ Below w.heap.size w W) := fun e W h1 h2 => ⟨h1, h2⟩
  have HQ1 : Hid (∀ j : Nat, q = (j : Int) → NumI q (.returned (.tuple #[.int .i64 (j : Int), .bool true]))) := fun j h => by
    unfold NumI
    rw [h, if_pos (by omega), decide_eq_true (by omega)]
  have HQ0 : Hid (q = -1 → NumI q (.returned (.tuple #[.int .i64 0, .bool false]))) := fun h => by
    unfold NumI
    rw [h, if_neg (by omega), decide_eq_false (by omega)]
  clear hv hq hL hn hl hS HSI hwl NA hNN
  go_enter Try.func29, Try.ntmps29
  go_wp2
  rw [← HW.out]
  go_loopw [10] (fun i wr => ∃ j : Nat, j ≤ N ∧ i = .int .i64 (j : Int) ∧ Hid (∀ k (h : k < L.length), k < j → L[k]'h ≠ S) ∧ Hid (Below wl.heap.size wl wr)) (fun i _ => N - (intOf i).toNat)
  case atStart => exact ⟨0, by omega, rfl, fun k h hk => by omega, Below.refl _ _⟩
  case round =>
    obtain ⟨j, hj, rfl, hno, hbel⟩ := hrel
    have BW := Lib.hid (bt B0.out hbel.out)
    by_cases hjn : j < N
    rotate_left
    · have q3 : decide (j < N) = false := by simpa using hjn
      have HR := Lib.hid (HQ0.out (HZ.out (fun i h => hno.out i h (by have := HN.out; omega))))
      go_wp2
      go_ret2
      exact HGO.out _ _ HR.out BW.out
    have q3 : decide (j < N) = true := by simpa using hjn
    have hjl : j < L.length := by rw [← HN.out]; exact hjn
    have NX := Lib.hid (fun W (h : Below wr.heap.size wr W) => NB.out W j (bt BW.out h) hjn)
    rw [getD_get hjl] at NX
    obtain ⟨x, hx⟩ : ∃ x, L[j]'hjl = x := ⟨_, rfl⟩
    rw [hx] at NX
    have HX : Hid (L[j]'hjl = x) := hx
    have HXS := Lib.hid (HSE.out x)
    obtain ⟨t, r, ht, hr⟩ := x
    simp only at NX HXS
    have SK : Hid (∀ w' : World, Below wr.heap.size wr w' → Below wr.heap.size wr w' ∧ w'.cell? ⟨w.heap.size, 0, none⟩ = some (.int .u32 (ts : Int)) ∧ w'.cell? ⟨w.heap.size, 1, none⟩ = some (.int .u8 (rs : Int))) := fun W h => by
      have p := P0.out.keeps (bt hbel.out h)
      exact ⟨h, p.2.1, p.2.2⟩
    clear hx
    by_cases he : t = ts ∧ r = rs
    · obtain ⟨rfl, rfl⟩ := he
      have HR := Lib.hid (HQ1.out j (HY.out j hjl hno.out (by rw [HX.out]; exact HXS.out.2 ⟨rfl, rfl⟩)))
      clear HXS HX HY HZ HQ0 HQ1 hno NB
      go_wp2
      refine wp_region_held_drew (S := fun w' => Below wr.heap.size wr w' ∧ w'.cell? ⟨w.heap.size, 0, none⟩ = some (.int .u32 (t : Int)) ∧ w'.cell? ⟨w.heap.size, 1, none⟩ = some (.int .u8 (r : Int))) (by kernel_rfl) (SK.out _ (drew1 _)) (fun hHeld => ?_)
      refine wpAnyH_take (i := 0) (v := ?va0) rfl (by kernel_rfl) (by kernel_rfl) (by kernel_rfl) (fun _ _ _ h => h) (Or.inl ⟨by rfl, ?ya0⟩) (by assumption) ?_
      case ya0 => intro w hSw; (try dsimp only at hSw); go_simp <;> with_reducible rfl
      try simp only [List.getElem_toArray, List.getElem_cons_zero, Act.put, List.setIfInBounds_toArray, List.set_cons_zero, List.set_cons_succ]
      refine wpAnyH_take (i := 1) (v := ?va1) rfl (by kernel_rfl) (by kernel_rfl) (by kernel_rfl) (fun _ _ _ h => h) (Or.inl ⟨by rfl, ?ya1⟩) (by assumption) ?_
      case ya1 => intro w hSw; (try dsimp only at hSw); go_simp <;> with_reducible rfl
      try simp only [List.getElem_toArray, List.getElem_cons_succ, List.getElem_cons_zero, Act.put, List.setIfInBounds_toArray, List.set_cons_zero, List.set_cons_succ]
      refine wpAnyH_take (i := 3) (v := ?va3) rfl (by kernel_rfl) (by kernel_rfl) (by kernel_rfl) (fun _ _ _ h => h) (Or.inl ⟨by rfl, ?ya3⟩) (by assumption) ?_
      case ya3 => intro w hSw; (try dsimp only at hSw); go_simp <;> with_reducible rfl
      try simp only [List.getElem_toArray, List.getElem_cons_succ, List.getElem_cons_zero, Act.put, List.setIfInBounds_toArray, List.set_cons_zero, List.set_cons_succ]
      refine wpAnyH_ready (rs := [2]) (by kernel_rfl) (by simp) ?_
      refine AllReadyH.cons rfl (fun K hK => ?_) ?za2
      case za2 => exact AllReadyH.nil
      go_simp
      refine (NX.out _ hHeld.1).mono ?_
      rintro e w9a2 ⟨rfl, b9⟩
      refine hK.out _ _ (SK.out _ (bt hHeld.1 b9)) (fun hNew => ?_)
      clear hHeld
      have hHeld := hNew
      clear hNew hK K
      try simp only [List.getElem_toArray, List.getElem_cons_succ, List.getElem_cons_zero, Act.put, List.setIfInBounds_toArray, List.set_cons_zero, List.set_cons_succ]
      refine wpAnyH_take (i := 4) (v := ?va4) rfl (by kernel_rfl) (by kernel_rfl) (by kernel_rfl) (fun _ _ _ h => h) (Or.inl ⟨by rfl, ?ya4⟩) (by assumption) ?_
      case ya4 => intro w hSw; (try dsimp only at hSw); go_simp <;> with_reducible rfl
      try simp only [List.getElem_toArray, List.getElem_cons_succ, List.getElem_cons_zero, Act.put, List.setIfInBounds_toArray, List.set_cons_zero, List.set_cons_succ]
      refine wpAnyH_done (by kernel_rfl) ?_ _
      go_wp2
      go_ret2
      exact HGO.out _ _ HR.out (bt BW.out hHeld.1)
    have NO : Hid (∀ k (h : k < L.length), k < j + 1 → L[k]'h ≠ S) := fun k h hk => by
      by_cases e : k = j
      · subst e
        rw [HX.out]
        intro e2
        exact he (HXS.out.1 e2)
      · exact hno.out k h (by omega)
    have hne : ¬ t = ts ∨ (t = ts ∧ ¬ r = rs) := by
      by_cases h : t = ts
      · exact .inr ⟨h, fun h2 => he ⟨h, h2⟩⟩
      · exact .inl h
    clear HXS HX HY HZ HQ0 HQ1 hno NB he
    rcases hne with hne | ⟨rfl, hne⟩
    · have hi : ¬ ((t : Int) = (ts : Int)) := by omega
      go_wp2
      refine wp_region_held_drew (S := fun w' => Below wr.heap.size wr w' ∧ w'.cell? ⟨w.heap.size, 0, none⟩ = some (.int .u32 (ts : Int)) ∧ w'.cell? ⟨w.heap.size, 1, none⟩ = some (.int .u8 (rs : Int))) (by kernel_rfl) (SK.out _ (drew1 _)) (fun hHeld => ?_)
      refine wpAnyH_take (i := 0) (v := ?vb0) rfl (by kernel_rfl) (by kernel_rfl) (by kernel_rfl) (fun _ _ _ h => h) (Or.inl ⟨by rfl, ?yb0⟩) (by assumption) ?_
      case yb0 => intro w hSw; (try dsimp only at hSw); go_simp <;> with_reducible rfl
      try simp only [List.getElem_toArray, List.getElem_cons_zero, Act.put, List.setIfInBounds_toArray, List.set_cons_zero, List.set_cons_succ]
      refine wpAnyH_take (i := 1) (v := ?vb1) rfl (by kernel_rfl) (by kernel_rfl) (by kernel_rfl) (fun _ _ _ h => h) (Or.inl ⟨by rfl, ?yb1⟩) (by assumption) ?_
      case yb1 => intro w hSw; (try dsimp only at hSw); go_simp <;> with_reducible rfl
      try simp only [List.getElem_toArray, List.getElem_cons_succ, List.getElem_cons_zero, Act.put, List.setIfInBounds_toArray, List.set_cons_zero, List.set_cons_succ]
      refine wpAnyH_take (i := 3) (v := ?vb3) rfl (by kernel_rfl) (by kernel_rfl) (by kernel_rfl) (fun _ _ _ h => h) (Or.inl ⟨by rfl, ?yb3⟩) (by assumption) ?_
      case yb3 => intro w hSw; (try dsimp only at hSw); go_simp <;> with_reducible rfl
      try simp only [List.getElem_toArray, List.getElem_cons_succ, List.getElem_cons_zero, Act.put, List.setIfInBounds_toArray, List.set_cons_zero, List.set_cons_succ]
      refine wpAnyH_ready (rs := [2]) (by kernel_rfl) (by simp) ?_
      refine AllReadyH.cons rfl (fun K hK => ?_) ?zb2
      case zb2 => exact AllReadyH.nil
      go_simp
      refine (NX.out _ hHeld.1).mono ?_
      rintro e w9b2 ⟨rfl, b9⟩
      refine hK.out _ _ (SK.out _ (bt hHeld.1 b9)) (fun hNew => ?_)
      clear hHeld
      have hHeld := hNew
      clear hNew hK K
      try simp only [List.getElem_toArray, List.getElem_cons_succ, List.getElem_cons_zero, Act.put, List.setIfInBounds_toArray, List.set_cons_zero, List.set_cons_succ]
      refine wpAnyH_take (i := 4) (v := ?vb4) rfl (by kernel_rfl) (by kernel_rfl) (by kernel_rfl) (fun _ _ _ h => h) (Or.inl ⟨by rfl, ?yb4⟩) (by assumption) ?_
      case yb4 => intro w hSw; (try dsimp only at hSw); go_simp <;> with_reducible rfl
      try simp only [List.getElem_toArray, List.getElem_cons_succ, List.getElem_cons_zero, Act.put, List.setIfInBounds_toArray, List.set_cons_zero, List.set_cons_succ]
      refine wpAnyH_done (by kernel_rfl) ?_ _
      go_wp2
      go_roundw
      case rel => exact ⟨j + 1, by omega, by go_num, NO, Lib.hid (bt hbel.out hHeld.1)⟩
      case measure => simp [intOf]; omega
    · have hi : ¬ ((r : Int) = (rs : Int)) := by omega
      go_wp2
      refine wp_region_held_drew (S := fun w' => Below wr.heap.size wr w' ∧ w'.cell? ⟨w.heap.size, 0, none⟩ = some (.int .u32 (t : Int)) ∧ w'.cell? ⟨w.heap.size, 1, none⟩ = some (.int .u8 (rs : Int))) (by kernel_rfl) (SK.out _ (drew1 _)) (fun hHeld => ?_)
      refine wpAnyH_take (i := 0) (v := ?vc0) rfl (by kernel_rfl) (by kernel_rfl) (by kernel_rfl) (fun _ _ _ h => h) (Or.inl ⟨by rfl, ?yc0⟩) (by assumption) ?_
      case yc0 => intro w hSw; (try dsimp only at hSw); go_simp <;> with_reducible rfl
      try simp only [List.getElem_toArray, List.getElem_cons_zero, Act.put, List.setIfInBounds_toArray, List.set_cons_zero, List.set_cons_succ]
      refine wpAnyH_take (i := 1) (v := ?vc1) rfl (by kernel_rfl) (by kernel_rfl) (by kernel_rfl) (fun _ _ _ h => h) (Or.inl ⟨by rfl, ?yc1⟩) (by assumption) ?_
      case yc1 => intro w hSw; (try dsimp only at hSw); go_simp <;> with_reducible rfl
      try simp only [List.getElem_toArray, List.getElem_cons_succ, List.getElem_cons_zero, Act.put, List.setIfInBounds_toArray, List.set_cons_zero, List.set_cons_succ]
      refine wpAnyH_take (i := 3) (v := ?vc3) rfl (by kernel_rfl) (by kernel_rfl) (by kernel_rfl) (fun _ _ _ h => h) (Or.inl ⟨by rfl, ?yc3⟩) (by assumption) ?_
      case yc3 => intro w hSw; (try dsimp only at hSw); go_simp <;> with_reducible rfl
      try simp only [List.getElem_toArray, List.getElem_cons_succ, List.getElem_cons_zero, Act.put, List.setIfInBounds_toArray, List.set_cons_zero, List.set_cons_succ]
      refine wpAnyH_ready (rs := [2]) (by kernel_rfl) (by simp) ?_
      refine AllReadyH.cons rfl (fun K hK => ?_) ?zc2
      case zc2 => exact AllReadyH.nil
      go_simp
      refine (NX.out _ hHeld.1).mono ?_
      rintro e w9c2 ⟨rfl, b9⟩
      refine hK.out _ _ (SK.out _ (bt hHeld.1 b9)) (fun hNew => ?_)
      clear hHeld
      have hHeld := hNew
      clear hNew hK K
      try simp only [List.getElem_toArray, List.getElem_cons_succ, List.getElem_cons_zero, Act.put, List.setIfInBounds_toArray, List.set_cons_zero, List.set_cons_succ]
      refine wpAnyH_take (i := 4) (v := ?vc4) rfl (by kernel_rfl) (by kernel_rfl) (by kernel_rfl) (fun _ _ _ h => h) (Or.inl ⟨by rfl, ?yc4⟩) (by assumption) ?_
      case yc4 => intro w hSw; (try dsimp only at hSw); go_simp <;> with_reducible rfl
      try simp only [List.getElem_toArray, List.getElem_cons_succ, List.getElem_cons_zero, Act.put, List.setIfInBounds_toArray, List.set_cons_zero, List.set_cons_succ]
      refine wpAnyH_done (by kernel_rfl) ?_ _
      go_wp2
      go_roundw
      case rel => exact ⟨j + 1, by omega, by go_num, NO, Lib.hid (bt hbel.out hHeld.1)⟩
      case measure => simp [intOf]; omega
end Go.Proofs.Ytdgcokknaampdaa.Homes
