/- octavoref10.whole: what it answers. Conditions: the numbers fit; there are as many behind as the kind asks. -/
import Derived.Deep.DeepCutAuto
import Derived.Deep.DrawnRows
import Derived.Deep.RegionHeld3
import Derived.Test.YtelilmhnfmojkaaPk13
import Derived.Test.YtelilmhnfmojkaaPk12
import Derived.Test.YtelilmhnfmojkaaPk07
import Derived.Test.YtelilmhnfmojkaaPk05

namespace Go.Proofs.Ytelilmhnfmojkaa.Codes
open Go.RowKit Go.WideShapes Num Go.Proofs.Ytelilmhnfmojkaa.Place Ops
attribute [local go_sem ↓] Go.wp_at_zero Go.wp_at_succ

/-- The runs that numbers tell, behind a time. -/
def wholeR : Int → List Nat → List Run
  | z, a :: b :: c :: l => mkRun (z + (a : Int)).toNat b (c : Int) :: wholeR (fin (mkRun (z + (a : Int)).toNat b (c : Int))) l
  | _, _ => []
/-- The operation that numbers tell. -/
def wholeF (k : Nat) (L M : List Nat) : Opn :=
  if k = 1 then mkO 1 (finF 0 (wholeR 0 L)).toNat ((wholeR 0 L).getD ((wholeR 0 L).length - 1) zrun).r (wholeR 0 L) (M.getD 0 0 : Nat)
  else if k = 2 then mkO 2 (finF 0 (wholeR 0 L)).toNat ((wholeR 0 L).getD ((wholeR 0 L).length - 1) zrun).r (wholeR 0 L) 0
  else mkO k ((finF 0 (wholeR 0 L)).toNat + M.getD 0 0) (M.getD 1 0) (wholeR 0 L) 0
theorem whole_len : ∀ (m : Nat) (z : Int) (L : List Nat), L.length = m * 3 → (wholeR z L).length = m
  | 0, z, L, h => by
    obtain rfl : L = [] := List.length_eq_zero_iff.1 (by omega)
    rfl
  | m + 1, z, [], h => by simp at h
  | m + 1, z, [_], h => by simp at h; omega
  | m + 1, z, [_, _], h => by simp at h; omega
  | m + 1, z, a :: b :: c :: l, h => by
    simp only [wholeR, List.length_cons]
    rw [whole_len m _ l (by simp at h; omega)]
theorem whole_runs : ∀ (p : List Run) (z : Int), 0 ≤ z → Chain p → (∀ x, p.head? = some x → z < (x.t : Int)) → wholeR z (runNums z p) = p ∧ fitsF z (runNums z p) = true
  | [], _, _, _, _ => ⟨rfl, rfl⟩
  | x :: p, z, hz, hc, hh => by
    have ho := hc.head
    unfold Place.One at ho
    have h0 := hh x rfl
    have e : mkRun (z + ((((x.t : Int) - z).toNat : Nat) : Int)).toNat x.r ((x.m.toNat : Nat) : Int) = x := by
      refine Run.ext' ?_ (mkRun_r x.hr) ?_
      · rw [mkRun_t (by omega)]; omega
      · rw [mkRun_m (by omega)]; omega
    have hn : ∀ y, p.head? = some y → fin x < (y.t : Int) := by
      intro y hy
      cases p with
      | nil => simp at hy
      | cons w p =>
        simp at hy
        subst hy
        exact hc.2.1.1
    obtain ⟨h1, h2⟩ := whole_runs p (fin x) (by unfold fin; omega) hc.tail hn
    constructor
    · simp only [runNums, wholeR, e, h1]
    · simp only [runNums]
      rw [fits_yes (by omega), show z + ((((x.t : Int) - z).toNat : Nat) : Int) + ((x.m.toNat : Nat) : Int) - 1 = fin x by unfold fin; omega]
      exact h2


theorem opv_mkO3 {k t r : Nat} {l : List Run} {p : Int} {v : Value} (h1 : k < 256) (h2 : t < 4294967296) (h4 : -9223372036854775808 ≤ p ∧ p ≤ 9223372036854775807) :
    opv (mkO k t r l p) v = .agg #[.int .u8 (k : Int), .int .u32 (t : Int), .int .u8 ((r % 256 : Nat) : Int), v, .int .i64 p] := by
  have e1 : (mkO k t r l p).k = k := Nat.mod_eq_of_lt h1
  have e2 : (mkO k t r l p).t = t := Nat.mod_eq_of_lt h2
  have e3 : (mkO k t r l p).r = r % 256 := rfl
  have e5 : (mkO k t r l p).p = p := if_pos h4
  unfold opv
  rw [e1, e2, e3, e5]
theorem getD_mem {M : List Nat} {i : Nat} (h : i < M.length) : M.getD i 0 ∈ M := by simp [List.getD, List.getElem?_eq_getElem h]

set_option maxRecDepth 100000 in
set_option maxHeartbeats 8000000 in
theorem whole_any {v vm : Value} {L M : List Nat} {w : World} {k m : Nat} (hv : Nums w v L) (hu : Nums w vm M) (hl : L.length = m * 3) (hm : 1 ≤ m ∧ m ≤ 64) (hf : fitsF 0 L = true) (hs : ∀ n ∈ M, n ≤ 1073741824)
    (hk : 1 ≤ k ∧ k ≤ 4) (hM : M.length = if k = 1 then 1 else if k = 2 then 0 else 2) :
    Calls Try.prog 36 #[.int .i64 (k : Int), v, vm] w fun e w' => ∃ ao cap, e = .returned (opv (wholeF k L M) (.slice ao (wholeF k L M).pl.length cap)) ∧ w'.ownsRow w.heap.size 71 3 (.slice ao (wholeF k L M).pl.length cap) (wholeF k L M).pl.length (runs (wholeF k L M).pl) ∧ Below w.heap.size w w' := by
  obtain ⟨ao1, cap1, rfl⟩ := Sees.shape hv
  obtain ⟨ao2, cap2, rfl⟩ := Sees.shape hu
  obtain ⟨n, hn⟩ : ∃ n, n = L.length := ⟨_, rfl⟩
  obtain ⟨nm, hnm⟩ : ∃ n, n = M.length := ⟨_, rfl⟩
  have HV := Lib.hid hv
  have HU := Lib.hid hu
  have HN := Lib.hid hn
  have HNM := Lib.hid hnm
  have HF := Lib.hid hf
  have HML := Lib.hid hM
  have HS := Lib.hid hs
  have HKK := Lib.hid hk
  have HLM := Lib.hid hl
  obtain ⟨P, hP⟩ : ∃ P, P = wholeR 0 L := ⟨_, rfl⟩
  have HP := Lib.hid hP
  have hPl : P.length = m := by rw [hP]; exact whole_len m 0 L hl
  have HPL := Lib.hid hPl
  obtain ⟨o, ho⟩ : ∃ o, wholeF k L M = o := ⟨_, rfl⟩
  have HO := Lib.hid ho
  have ek : IntKind.u8.wrap (k : Int) = (k : Int) := by rw [IntKind.wrap_u8]; omega
  have hn192 : n ≤ 192 := by omega
  rw [← hn, ← hnm, ho]
  have X1 : Hid (((w.alloc (.cells #[.int .u8 0, .int .u32 0, .int .u8 0, .slice none 0 0, .int .i64 0] 35)).alloc (.cells #[.int .u8 (k : Int), .int .u32 0, .int .u8 0, .slice none 0 0, .int .i64 0] 35)).heap[w.heap.size]? = some (.cells #[.int .u8 0, .int .u32 0, .int .u8 0, .slice none 0 0, .int .i64 0] 35)) := blk_old (blk_new rfl)
  have Y1 : Hid (((w.alloc (.cells #[.int .u8 0, .int .u32 0, .int .u8 0, .slice none 0 0, .int .i64 0] 35)).alloc (.cells #[.int .u8 (k : Int), .int .u32 0, .int .u8 0, .slice none 0 0, .int .i64 0] 35)).heap[w.heap.size + 1]? = some (.cells #[.int .u8 (k : Int), .int .u32 0, .int .u8 0, .slice none 0 0, .int .i64 0] 35)) := blk_new (by simp)
  have B1 : Hid (Below w.heap.size w ((w.alloc (.cells #[.int .u8 0, .int .u32 0, .int .u8 0, .slice none 0 0, .int .i64 0] 35)).alloc (.cells #[.int .u8 (k : Int), .int .u32 0, .int .u8 0, .slice none 0 0, .int .i64 0] 35))) := ((Below.refl _ _).alloc (Nat.le_refl _) _).alloc (by simp) _
  have V1 : Hid (((w.alloc (.cells #[.int .u8 0, .int .u32 0, .int .u8 0, .slice none 0 0, .int .i64 0] 35)).alloc (.cells #[.int .u8 (k : Int), .int .u32 0, .int .u8 0, .slice none 0 0, .int .i64 0] 35)).ownsRow w.heap.size 71 3 (.slice none 0 0) ([] : List Run).length (runs [])) := World.ownsRow_nil _ _ _ _
  have HM1 := Lib.hid hm
  clear hv hu hn hnm hf hM hs hl hP hPl ho hm
  go_enter Try.func36, Try.ntmps36
  go_upto_region 2 with fail
  generalize (w.alloc (.cells #[.int .u8 0, .int .u32 0, .int .u8 0, .slice none 0 0, .int .i64 0] 35)).alloc (.cells #[.int .u8 (k : Int), .int .u32 0, .int .u8 0, .slice none 0 0, .int .i64 0] 35) = wq at X1 Y1 B1 V1 ⊢
  go_wp2
  go_loopw [8, 9] (fun a i wr => ∃ (j : Nat) (z : Int) (l : List Run) (v : Value), j ≤ n ∧ i = .int .i64 (j : Int) ∧ a = .int .i64 z ∧ (0 ≤ z ∧ z ≤ 1073741824) ∧ Hid (∃ d, n = j + d * 3) ∧ Hid (l.length ≤ 64 ∧ j = l.length * 3) ∧ Hid (z = finF 0 l) ∧ Hid (l ++ wholeR z (L.drop j) = P) ∧ Hid (fitsF z (L.drop j) = true) ∧
    Hid (wr.heap[w.heap.size]? = some (.cells #[.int .u8 0, .int .u32 0, .int .u8 0, .slice none 0 0, .int .i64 0] 35)) ∧ Hid (wr.heap[w.heap.size + 1]? = some (.cells #[.int .u8 (k : Int), .int .u32 0, .int .u8 0, v, .int .i64 0] 35)) ∧ Hid (wr.ownsRow w.heap.size 71 3 v l.length (runs l)) ∧ Hid (Below w.heap.size w wr)) (fun _ i _ => n - (intOf i).toNat)
  case atStart => exact ⟨0, 0, [], .slice none 0 0, by omega, rfl, rfl, by omega, Lib.hid ⟨m, by rw [HN.out, HLM.out]; omega⟩, Lib.hid (by simp), Lib.hid rfl, by unfold Hid; rw [List.drop_zero, HP.out]; rfl, by unfold Hid; rw [List.drop_zero]; exact HF.out, X1, Y1, V1, B1⟩
  case round =>
    clear X1 Y1 V1 B1 HF
    obtain ⟨j, z, l, v, hj, rfl, rfl, hzb, hd3, hlj, hzf, hst, hfit, hX, hY, hown, hbel⟩ := hrel
    obtain ⟨k2, hk2⟩ : ∃ k2 : Nat, (j : Int) + 2 = (k2 : Int) := ⟨j + 2, rfl⟩
    have e2 : IntKind.i64.wrap (k2 : Int) = (k2 : Int) := IntWalk.i64_in _ (by omega)
    by_cases hkn : k2 < n
    · have q1 : decide (k2 < n) = true := by simpa using hkn
      have q2 : (0 : Int) ≤ (j : Int) := by omega
      have q3 : (j : Int) < (n : Int) := by omega
      have q4 : (0 : Int) ≤ (k2 : Int) := by omega
      have q5 : (k2 : Int) < (n : Int) := by omega
      obtain ⟨k1, hk1⟩ : ∃ k1 : Nat, (j : Int) + 1 = (k1 : Int) := ⟨j + 1, rfl⟩
      have e1 : IntKind.i64.wrap (k1 : Int) = (k1 : Int) := IntWalk.i64_in _ (by omega)
      have q6 : (0 : Int) ≤ (k1 : Int) := by omega
      have q7 : (k1 : Int) < (n : Int) := by omega
      have e3 : IntKind.i64.wrap ((j : Int) + 3) = (j : Int) + 3 := IntWalk.i64_in _ (by omega)
      obtain ⟨b, off, rfl, hb, hc⟩ := (HV.out.keeps hbel.out).at (by rw [← HN.out]; omega)
      have h0 := hc j (by rw [← HN.out]; omega)
      have h1 := hc k1 (by rw [← HN.out]; omega)
      have h2 := hc k2 (by rw [← HN.out]; omega)
      have hd := three_drop (L := L) (k := j) (by rw [← HN.out]; omega)
      rw [show j + 1 = k1 by omega, show j + 2 = k2 by omega] at hd
      obtain ⟨a, ha⟩ : ∃ a, a = L.getD j 0 := ⟨_, rfl⟩
      obtain ⟨bb, hbb⟩ : ∃ a, a = L.getD k1 0 := ⟨_, rfl⟩
      obtain ⟨c, hcc⟩ : ∃ a, a = L.getD k2 0 := ⟨_, rfl⟩
      rw [← ha, ← hbb, ← hcc] at hd
      rw [← ha] at h0
      rw [← hbb] at h1
      rw [← hcc] at h2
      have hst2 := hst.out
      have hfit2 := hfit.out
      rw [hd] at hst2 hfit2
      have hok : 1 ≤ a ∧ 1 ≤ c ∧ c ≤ 4096 ∧ bb ≤ 255 ∧ z + (a : Int) + (c : Int) - 1 ≤ 1073741824 := Classical.byContradiction fun h => by rw [fits_no h] at hfit2; cases hfit2
      rw [fits_yes hok] at hfit2
      simp only [wholeR] at hst2
      obtain ⟨u, hu⟩ : ∃ u : Nat, (z + (a : Int)) = (u : Int) := ⟨(z + (a : Int)).toNat, by omega⟩
      have hu2 : (z + (a : Int)).toNat = u := by omega
      rw [hu2] at hst2
      obtain ⟨x, hx⟩ : ∃ x, x = mkRun u bb c := ⟨_, rfl⟩
      rw [← hx] at hst2
      have hxt : x.t = u := by rw [hx]; exact mkRun_t (by omega)
      have hxr : x.r = bb := by rw [hx]; exact mkRun_r (by omega)
      have hxm : x.m = (c : Int) := by rw [hx]; exact mkRun_m (by omega)
      have hfx : fin x = (u : Int) + (c : Int) - 1 := by unfold fin; rw [hxt, hxm]
      have hrx : runs [x] = [.int .u32 (u : Int), .int .u8 (bb : Int), .int .i64 (c : Int)] := by simp only [runs]; rw [hxt, hxr, hxm]
      have HFX := Lib.hid hfx
      have HRX := Lib.hid hrx
      have HST := Lib.hid hst2
      have HFIT : Hid (fitsF ((u : Int) + (c : Int) - 1) (L.drop (j + 3)) = true) := by rw [← hu]; exact hfit2
      have hub : u ≤ 1073741824 := by omega
      have hcb : c ≤ 4096 := hok.2.2.1
      have hbb255 : bb ≤ 255 := hok.2.2.2.1
      have HYB : Hid (0 ≤ (u : Int) + (c : Int) - 1 ∧ (u : Int) + (c : Int) - 1 ≤ 1073741824) := by unfold Hid; omega
      have eu : IntKind.u32.wrap (u : Int) = (u : Int) := by rw [IntKind.wrap_u32]; omega
      have eu2 : IntKind.i64.wrap (u : Int) = (u : Int) := IntWalk.i64_in _ (by omega)
      have eb : IntKind.u8.wrap (bb : Int) = (bb : Int) := by rw [IntKind.wrap_u8]; omega
      have LT := Lib.hid (fun W => rend_any u bb c (by omega) hcb W)
      have ha0 : ∀ o : Obj, (wr.alloc o).cell? ⟨b, off + j, none⟩ = some (.int .i64 (a : Int)) := fun o => (((Below.refl wr.heap.size wr).alloc (Nat.le_refl _) o).cell (p := ⟨b, off + j, none⟩) hb).trans h0
      have ha1 : ∀ o : Obj, (wr.alloc o).cell? ⟨b, off + k1, none⟩ = some (.int .i64 (bb : Int)) := fun o => (((Below.refl wr.heap.size wr).alloc (Nat.le_refl _) o).cell (p := ⟨b, off + k1, none⟩) hb).trans h1
      have ha2 : ∀ o : Obj, (wr.alloc o).cell? ⟨b, off + k2, none⟩ = some (.int .i64 (c : Int)) := fun o => (((Below.refl wr.heap.size wr).alloc (Nat.le_refl _) o).cell (p := ⟨b, off + k2, none⟩) hb).trans h2
      clear ha hbb hcc hd hst hst2 hfit hfit2 hc hb hx hxt hxr hxm hfx hrx hok hu2
      go_upto_region 6 with fail
      go_cut [10] (fun p wx => p = .pointer (some ⟨wr.heap.size, 0, none⟩) ∧ wx = (wr.alloc (.cells #[.int .u32 (u : Int), .int .u8 (bb : Int), .int .i64 (c : Int)] 71)).drew)
      case first =>
        go_region_with (fail)
        all_goals (go_wp2_with fail; go_meet)
        all_goals exact ⟨rfl, rfl⟩
      case rest =>
        obtain ⟨rfl, rfl⟩ := hcut
        clear h0 h1 h2 ha0 ha1 ha2
        have hsz : w.heap.size + 1 < wr.heap.size := (Array.getElem?_eq_some_iff.1 hY.out).1
        have hX' : Hid ((wr.alloc (.cells #[.int .u32 (u : Int), .int .u8 (bb : Int), .int .i64 (c : Int)] 71)).drew.heap[w.heap.size]? = some (.cells #[.int .u8 0, .int .u32 0, .int .u8 0, .slice none 0 0, .int .i64 0] 35)) := blk_old hX.out
        have hY' : Hid ((wr.alloc (.cells #[.int .u32 (u : Int), .int .u8 (bb : Int), .int .i64 (c : Int)] 71)).drew.heap[w.heap.size + 1]? = some (.cells #[.int .u8 (k : Int), .int .u32 0, .int .u8 0, v, .int .i64 0] 35)) := blk_old hY.out
        have hR' : Hid ((wr.alloc (.cells #[.int .u32 (u : Int), .int .u8 (bb : Int), .int .i64 (c : Int)] 71)).drew.heap[wr.heap.size]? = some (.cells #[.int .u32 (u : Int), .int .u8 (bb : Int), .int .i64 (c : Int)] 71)) := heap_alloc_new wr _
        have hO' : Hid ((wr.alloc (.cells #[.int .u32 (u : Int), .int .u8 (bb : Int), .int .i64 (c : Int)] 71)).drew.ownsRow w.heap.size 71 3 v l.length (runs l)) := own_stays (w' := (wr.alloc (.cells #[.int .u32 (u : Int), .int .u8 (bb : Int), .int .i64 (c : Int)] 71)).drew) hown.out ((Below.refl _ _).alloc (Nat.le_refl _) _).drew
        have hB' : Hid (Below w.heap.size w (wr.alloc (.cells #[.int .u32 (u : Int), .int .u8 (bb : Int), .int .i64 (c : Int)] 71)).drew) := (hbel.out.alloc hbel.out.size _).drew
        have NB0 : Hid (v.ownBlock ≠ some (w.heap.size + 1)) := own_ne hown.out hY.out (by intro c h; injection h with h1 h2 h3; exact absurd h2 (by decide))
        have NR0 : Hid (v.ownBlock ≠ some wr.heap.size) := fun e => by have := (hown.out.lt _ e).2; omega
        have hG : Hid (w.heap.size + 1 < wr.heap.size) := hsz
        clear hX hY hown hbel hsz
        generalize (wr.alloc (.cells #[.int .u32 (u : Int), .int .u8 (bb : Int), .int .i64 (c : Int)] 71)).drew = wx at hX' hY' hR' hO' hB' ⊢
        generalize wr.heap.size = g at hR' NR0 hG ⊢
        obtain ⟨y0, y1, y2, y3, y4⟩ := cells5 hY'.out
        have f1 : ∀ o, wx.frozen? ⟨w.heap.size + 1, o, none⟩ = false := fun o => free5 hY'.out o
        obtain ⟨r0, r1, r2, -, -⟩ := cells_blk3 hR'.out
        have SE : Hid (Sees (wx.alloc (.cells #[.int .u32 (u : Int), .int .u8 (bb : Int), .int .i64 (c : Int)] 71)) (.slice (some ⟨wx.heap.size, 0, none⟩) 1 1) 3 1 (runs [x])) := by
          unfold Hid
          rw [HRX.out]
          exact sees_new wx [.int .u32 (u : Int), .int .u8 (bb : Int), .int .i64 (c : Int)] 3 1 rfl (by omega) 71 (0, 0)
        have OA : Hid ((wx.alloc (.cells #[.int .u32 (u : Int), .int .u8 (bb : Int), .int .i64 (c : Int)] 71)).ownsRow w.heap.size 71 3 v l.length (runs l)) := own_stays hO'.out ((Below.refl _ _).alloc (Nat.le_refl _) _)
        have BA : Hid (Below w.heap.size w (wx.alloc (.cells #[.int .u32 (u : Int), .int .u8 (bb : Int), .int .i64 (c : Int)] 71))) := hB'.out.alloc hB'.out.size _
        have hXA : Hid ((wx.alloc (.cells #[.int .u32 (u : Int), .int .u8 (bb : Int), .int .i64 (c : Int)] 71)).heap[w.heap.size]? = some (.cells #[.int .u8 0, .int .u32 0, .int .u8 0, .slice none 0 0, .int .i64 0] 35)) := blk_old hX'.out
        have hYA : Hid ((wx.alloc (.cells #[.int .u32 (u : Int), .int .u8 (bb : Int), .int .i64 (c : Int)] 71)).heap[w.heap.size + 1]? = some (.cells #[.int .u8 (k : Int), .int .u32 0, .int .u8 0, v, .int .i64 0] 35)) := blk_old hY'.out
        have hRA : Hid ((wx.alloc (.cells #[.int .u32 (u : Int), .int .u8 (bb : Int), .int .i64 (c : Int)] 71)).heap[g]? = some (.cells #[.int .u32 (u : Int), .int .u8 (bb : Int), .int .i64 (c : Int)] 71)) := blk_old hR'.out
        have hl64 : l.length ≤ 64 := hlj.out.1
        have bz : w.heap.size ≤ (wx.alloc (.cells #[.int .u32 (u : Int), .int .u8 (bb : Int), .int .i64 (c : Int)] 71)).heap.size := BA.out.size
        clear hX' hY' hR' hO' hB'
        go_wp2_with (at_builtin; refine wpList_append_sees rfl (.tmp 42) (.tmp 44) 33 71 rfl Try.underlying33 run_info rfl (by decide) w.heap.size _ l.length (runs l) rfl OA.out _ 1 (runs [x]) rfl SE.out (runs_oneCell _) ?k1 ?k2 ?k3 ?_)
        case k1 => omega
        case k2 => omega
        case k3 => exact bz
        rintro v6 w6 o6 g6 b6
        have O6 : Hid (w6.ownsRow w.heap.size 71 3 v6 (l ++ [x]).length (runs (l ++ [x]))) := by unfold Hid; rw [runs_append, List.length_append]; exact o6
        have hX6 : Hid (w6.heap[w.heap.size]? = some (.cells #[.int .u8 0, .int .u32 0, .int .u8 0, .slice none 0 0, .int .i64 0] 35)) := blk_grown g6 (own_ne OA.out hXA.out (by intro c h; injection h with h1 h2 h3; exact absurd h2 (by decide))) hXA.out
        have hY6 : Hid (w6.heap[w.heap.size + 1]? = some (.cells #[.int .u8 (k : Int), .int .u32 0, .int .u8 0, v, .int .i64 0] 35)) := blk_grown g6 NB0.out hYA.out
        have hR6 : Hid (w6.heap[g]? = some (.cells #[.int .u32 (u : Int), .int .u8 (bb : Int), .int .i64 (c : Int)] 71)) := blk_grown g6 NR0.out hRA.out
        have B6 := Lib.hid (BA.out.trans b6)
        have NB6 : Hid (v6.ownBlock ≠ some (w.heap.size + 1)) := own_ne O6.out hY6.out (by intro c h; injection h with h1 h2 h3; exact absurd h2 (by decide))
        obtain ⟨vo, vc, rfl⟩ : ∃ ao cap, v6 = .slice ao (l ++ [x]).length cap := Sees.shape (Sees.own O6.out)
        clear o6 g6 b6 OA SE BA hXA hYA hRA bz y0 y1 y2 y3 y4 f1 r0 r1 r2
        obtain ⟨y0, y1, y2, y3, y4⟩ := cells5 hY6.out
        have f1 : ∀ o, w6.frozen? ⟨w.heap.size + 1, o, none⟩ = false := fun o => free5 hY6.out o
        obtain ⟨r0, r1, r2, -, -⟩ := cells_blk3 hR6.out
        have g1 : ¬ g = w.heap.size + 1 := by have := hG.out; omega
        have g2 : ¬ w.heap.size + 1 = g := by have := hG.out; omega
        have hYS := Lib.hid (heap_setCell_same w6 (w.heap.size + 1) 3 _ _ (.slice vo (l ++ [x]).length vc) hY6.out)
        have hXS := Lib.hid (set_other (g := w.heap.size + 1) (o := 3) (.slice vo (l ++ [x]).length vc) (by omega) hX6.out)
        have OS := Lib.hid (own_set_ne (g := w.heap.size + 1) (o := 3) (d := .slice vo (l ++ [x]).length vc) O6.out NB6.out)
        have BS := Lib.hid (B6.out.setCell (p := ⟨w.heap.size + 1, 3, none⟩) (by simp) (.slice vo (l ++ [x]).length vc))
        obtain ⟨lx, hlx⟩ : ∃ n, n = (l ++ [x]).length := ⟨_, rfl⟩
        have HLX := Lib.hid hlx
        rw [← hlx] at hYS hXS OS BS ⊢
        clear hlx O6 hX6 hY6 B6
        go_wp2_with fail
        refine (LT.out _).mono ?_
        rintro e w7 ⟨rfl, b7⟩
        have hX7 := Lib.hid (blk_below b7 hXS.out)
        have hY7 := Lib.hid (blk_below b7 hYS.out)
        have O7 := Lib.hid (own_stays OS.out b7)
        have B7 := Lib.hid (bt BS.out b7)
        rw [HLX.out] at hY7 O7
        have HJ : Hid ((l ++ [x]).length ≤ 64 ∧ j + 3 = (l ++ [x]).length * 3) := by
          have := hlj.out; have := hd3.out; unfold Hid; rw [List.length_append, List.length_singleton]; omega
        have HDD : Hid (∃ d, n = j + 3 + d * 3) := by
          obtain ⟨d, hd⟩ := hd3.out
          exact ⟨d - 1, by omega⟩
        have HZ : Hid ((u : Int) + (c : Int) - 1 = finF 0 (l ++ [x])) := by unfold Hid; rw [finF_append, ← HFX.out]; rfl
        have HST7 : Hid ((l ++ [x]) ++ wholeR ((u : Int) + (c : Int) - 1) (L.drop (j + 3)) = P) := by unfold Hid; rw [← HFX.out, ← HST.out]; simp
        clear b7 r0 r1 r2 hXS hYS OS BS y0 y1 y2 y3 y4 f1
        go_wp2
        go_roundw
        case rel => exact ⟨j + 3, _, l ++ [x], _, by omega, by go_num, rfl, HYB.out, HDD, HJ, HZ, HST7, HFIT, hX7, hY7, O7, B7⟩
        case measure => simp [intOf]; omega
    · have q1 : decide (k2 < n) = false := by simpa using hkn
      obtain ⟨d, hd⟩ := hd3.out
      obtain rfl : j = n := by omega
      have hst2 := hst.out
      have hdr : L.drop j = [] := List.drop_eq_nil_iff.2 (by rw [← HN.out]; exact Nat.le_refl _)
      rw [hdr] at hst2
      simp only [wholeR, List.append_nil] at hst2
      obtain rfl : l = P := hst2
      obtain ⟨lp, hlp⟩ : ∃ lp, lp = l.length := ⟨_, rfl⟩
      have HLP := Lib.hid hlp
      obtain ⟨vo, vc, rfl⟩ : ∃ ao cap, v = .slice ao l.length cap := Sees.shape (Sees.own hown.out)
      have hlm := HPL.out
      rw [← hlp] at hlm
      have hm1 : 1 ≤ lp ∧ lp ≤ 64 := by have := HM1.out; omega
      obtain ⟨l1, hl1⟩ : ∃ l1 : Nat, (lp : Int) - 1 = (l1 : Int) := ⟨lp - 1, by omega⟩
      have e1 : IntKind.i64.wrap (l1 : Int) = (l1 : Int) := IntWalk.i64_in _ (by omega)
      have q2 : (0 : Int) ≤ (l1 : Int) := by omega
      have q3 : (l1 : Int) < (lp : Int) := by omega
      have RV : Runs wr (.slice vo l.length vc) l := Runs.own hown.out
      obtain ⟨bb, oo, rfl, hbb, hc0, hc1, hc2⟩ := RV.at l1 (by omega)
      obtain ⟨x, hx⟩ : ∃ x, x = l.getD (l.length - 1) zrun := ⟨_, rfl⟩
      rw [show l1 = l.length - 1 by omega, ← hx, show l.length - 1 = l1 by omega] at hc0 hc1 hc2
      obtain ⟨xt, xr, xm, h1, h2, h3⟩ := x
      simp only at hc0 hc1 hc2
      have HX := Lib.hid hx
      obtain ⟨uz, huz⟩ : ∃ uz : Nat, z = (uz : Int) := ⟨z.toNat, by omega⟩
      subst huz
      have eu : IntKind.u32.wrap (uz : Int) = (uz : Int) := by rw [IntKind.wrap_u32]; omega
      have huz30 : uz ≤ 1073741824 := by omega
      have hZ2 : Hid ((finF 0 l).toNat = uz) := by rw [← hzf.out]; unfold Hid; omega
      have NB : Hid ((Value.slice (some ⟨bb, oo, none⟩) lp vc).ownBlock ≠ some (w.heap.size + 1)) := by
        rw [hlp]; exact own_ne hown.out hY.out (by intro c h; injection h with h1 h2 h3; exact absurd h2 (by decide))
      have NA : Hid ((Value.slice (some ⟨bb, oo, none⟩) lp vc).ownBlock ≠ some w.heap.size) := by
        rw [hlp]; exact own_ne hown.out hX.out (by intro c h; injection h with h1 h2 h3; exact absurd h2 (by decide))
      rw [← hlp] at hY hown
      have hX' : Hid ((wr.alloc (.cells #[.int .u32 (xt : Int), .int .u8 (xr : Int), .int .i64 xm] 71)).heap[w.heap.size]? = some (.cells #[.int .u8 0, .int .u32 0, .int .u8 0, .slice none 0 0, .int .i64 0] 35)) := blk_old hX.out
      have hY' : Hid ((wr.alloc (.cells #[.int .u32 (xt : Int), .int .u8 (xr : Int), .int .i64 xm] 71)).heap[w.heap.size + 1]? = some (.cells #[.int .u8 (k : Int), .int .u32 0, .int .u8 0, .slice (some ⟨bb, oo, none⟩) lp vc, .int .i64 0] 35)) := blk_old hY.out
      have hR' : Hid ((wr.alloc (.cells #[.int .u32 (xt : Int), .int .u8 (xr : Int), .int .i64 xm] 71)).heap[wr.heap.size]? = some (.cells #[.int .u32 (xt : Int), .int .u8 (xr : Int), .int .i64 xm] 71)) := heap_alloc_new wr _
      have hO' : Hid ((wr.alloc (.cells #[.int .u32 (xt : Int), .int .u8 (xr : Int), .int .i64 xm] 71)).ownsRow w.heap.size 71 3 (.slice (some ⟨bb, oo, none⟩) lp vc) lp (runs l)) := own_stays hown.out ((Below.refl _ _).alloc (Nat.le_refl _) _)
      have hB' : Hid (Below w.heap.size w (wr.alloc (.cells #[.int .u32 (xt : Int), .int .u8 (xr : Int), .int .i64 xm] 71))) := hbel.out.alloc hbel.out.size _
      have hG : Hid (w.heap.size + 1 < wr.heap.size) := (Array.getElem?_eq_some_iff.1 hY.out).1
      obtain ⟨y0, y1, y2, y3, y4⟩ := cells5 hY.out
      have hU := Lib.hid (HU.out.keeps hB'.out)
      clear hX hown hbel hst hdr hzf hfit hx hlj hd3 RV hd hlm hlp
      go_upto_region 10 with fail
      generalize wr.alloc (.cells #[.int .u32 (xt : Int), .int .u8 (xr : Int), .int .i64 xm] 71) = wx at hX' hY' hR' hO' hB' hU ⊢
      generalize wr.heap.size = g at hR' hG ⊢
      clear y0 y1 y2 y3 y4 hc0 hc1 hc2 hY
      obtain ⟨y0, y1, y2, y3, y4⟩ := cells5 hY'.out
      obtain ⟨r0, r1, r2, -, -⟩ := cells_blk3 hR'.out
      obtain ⟨x0, x1, x2, x3, x4⟩ := cells5 hX'.out
      have f1 : ∀ o, wx.frozen? ⟨w.heap.size + 1, o, none⟩ = false := fun o => free5 hY'.out o
      have f2 : ∀ o, wx.frozen? ⟨w.heap.size, o, none⟩ = false := fun o => free5 hX'.out o
      have g1 : ¬ g = w.heap.size + 1 := by have := hG.out; omega
      have g2 : ¬ w.heap.size + 1 = g := by have := hG.out; omega
      have g3 : ¬ g = w.heap.size := by have := hG.out; omega
      have g4 : ¬ w.heap.size = g := by have := hG.out; omega
      have hxr : xr = (l.getD (l.length - 1) zrun).r := by rw [← HX.out]
      have HXR := Lib.hid hxr
      clear hxr HX
      have HO1 := HO.out
      unfold wholeF at HO1
      rw [← HP.out, hZ2.out, ← HXR.out] at HO1
      by_cases k1 : k = 1
      · have q5 : ((k : Int) == 1) = true := by simp; omega
        have q6 : decide (3 ≤ (k : Int)) = false := by simp; omega
        have q6' : decide (3 ≤ k) = false := by simp; omega
        rw [if_pos k1] at HO1
        have HM2 := HML.out
        rw [if_pos k1, ← HNM.out] at HM2
        subst HM2
        obtain ⟨b2, off2, rfl, hb2, hc⟩ := HU.out.at (by rw [← HNM.out]; omega)
        have hm0 := (hB'.out.cell (p := ⟨b2, off2 + 0, none⟩) hb2).trans (hc 0 (by rw [← HNM.out]; omega))
        have hm2 := HS.out (M.getD 0 0) (getD_mem (by rw [← HNM.out]; omega))
        obtain ⟨a, ha⟩ : ∃ a, a = M.getD 0 0 := ⟨_, rfl⟩
        rw [← ha] at hm0 hm2 HO1
        have HO9 := Lib.hid HO1.symm
        rw [Nat.add_zero] at hm0
        have hnb : ¬ b2 = w.heap.size + 1 := by omega
        have HA0 := hX'
        clear HO1 hc hb2 ha
        go_wp2_with fail
        obtain ⟨W2, hWn⟩ : ∃ W2, W2 = (put2 wx (w.heap.size + 1) (.int .u32 (uz : Int)) (.int .u8 (xr : Int))).setCell ⟨w.heap.size + 1, 4, none⟩ (.int .i64 (a : Int)) := ⟨_, rfl⟩
        have OW := Lib.hid (own_set_ne (g := w.heap.size + 1) (o := 4) (d := .int .i64 (a : Int)) (own_put2 (.int .u32 (uz : Int)) (.int .u8 (xr : Int)) hO'.out NB.out) NB.out)
        have HA := Lib.hid (set_other (g := w.heap.size + 1) (o := 4) (.int .i64 (a : Int)) (by omega) (put2_other (g := w.heap.size + 1) (.int .u32 (uz : Int)) (.int .u8 (xr : Int)) (by omega) hX'.out))
        have BW := Lib.hid ((put2_below (.int .u32 (uz : Int)) (.int .u8 (xr : Int)) (Nat.le_succ w.heap.size) hB'.out).setCell (p := ⟨w.heap.size + 1, 4, none⟩) (Nat.le_succ w.heap.size) (.int .i64 (a : Int)))
        rw [← hWn] at OW HA BW
        unfold put2 at hWn
        rw [← hWn]
        obtain ⟨WF, hWF⟩ : ∃ WF, WF = put5 W2 w.heap.size (.int .u8 1) (.int .u32 (uz : Int)) (.int .u8 (xr : Int)) (.slice (some ⟨bb, oo, none⟩) lp vc) (.int .i64 ((a : Nat) : Int)) := ⟨_, rfl⟩
        have OF := own_put5 (.int .u8 1) (.int .u32 (uz : Int)) (.int .u8 (xr : Int)) (.slice (some ⟨bb, oo, none⟩) lp vc) (.int .i64 ((a : Nat) : Int)) OW.out NA.out
        have HF := put5_same (.int .u8 1) (.int .u32 (uz : Int)) (.int .u8 (xr : Int)) (.slice (some ⟨bb, oo, none⟩) lp vc) (.int .i64 ((a : Nat) : Int)) HA.out
        have BF := put5_below (.int .u8 1) (.int .u32 (uz : Int)) (.int .u8 (xr : Int)) (.slice (some ⟨bb, oo, none⟩) lp vc) (.int .i64 ((a : Nat) : Int)) (Nat.le_refl w.heap.size) BW.out
        rw [← hWF] at OF HF BF
        unfold put5 at hWF
        rw [← hWF]
        obtain ⟨e0, e1, e2, e3, e4⟩ := cells5 HF
        have OPV : opv o (.slice (some ⟨bb, oo, none⟩) lp vc) = .agg #[.int .u8 1, .int .u32 (uz : Int), .int .u8 (xr : Int), .slice (some ⟨bb, oo, none⟩) lp vc, .int .i64 ((a : Nat) : Int)] := by
          rw [HO9.out]; exact opv_mkO (by omega) (by omega) h2 (by omega)
        have PL : o.pl = l := by rw [HO9.out]; rfl
        refine bodyPost_ret (v := .agg #[.int .u8 1, .int .u32 (uz : Int), .int .u8 (xr : Int), .slice (some ⟨bb, oo, none⟩) lp vc, .int .i64 ((a : Nat) : Int)]) (by simp [results, Try.results36, go_sem, e0, e1, e2, e3, e4]) rfl ⟨some ⟨bb, oo, none⟩, vc, by rw [PL, ← HLP.out, OPV], ?_, BF⟩
        rw [PL, ← HLP.out]
        exact OF
      · rw [if_neg k1] at HO1
        have q5 : ((k : Int) == 1) = false := by simp; omega
        by_cases k2 : k = 2
        · rw [if_pos k2] at HO1
          have q6 : decide (3 ≤ (k : Int)) = false := by simp; omega
          have q6' : decide (3 ≤ k) = false := by simp; omega
          have HO9 := Lib.hid HO1.symm
          clear HO1
          go_wp2_with fail
          obtain ⟨W2, hWn⟩ : ∃ W2, W2 = put2 wx (w.heap.size + 1) (.int .u32 (uz : Int)) (.int .u8 (xr : Int)) := ⟨_, rfl⟩
          have OW := Lib.hid (own_put2 (.int .u32 (uz : Int)) (.int .u8 (xr : Int)) hO'.out NB.out)
          have HA := Lib.hid (put2_other (g := w.heap.size + 1) (.int .u32 (uz : Int)) (.int .u8 (xr : Int)) (by omega) hX'.out)
          have HY := Lib.hid (put2_same (.int .u32 (uz : Int)) (.int .u8 (xr : Int)) hY'.out)
          have BW := Lib.hid (put2_below (.int .u32 (uz : Int)) (.int .u8 (xr : Int)) (Nat.le_succ w.heap.size) hB'.out)
          rw [← hWn] at OW HA HY BW
          unfold put2 at hWn
          rw [← hWn]
          clear hWn
          obtain ⟨WF, hWF⟩ : ∃ WF, WF = put5 W2 w.heap.size (.int .u8 2) (.int .u32 (uz : Int)) (.int .u8 (xr : Int)) (.slice (some ⟨bb, oo, none⟩) lp vc) (.int .i64 0) := ⟨_, rfl⟩
          have OF := own_put5 (.int .u8 2) (.int .u32 (uz : Int)) (.int .u8 (xr : Int)) (.slice (some ⟨bb, oo, none⟩) lp vc) (.int .i64 0) OW.out NA.out
          have HF := put5_same (.int .u8 2) (.int .u32 (uz : Int)) (.int .u8 (xr : Int)) (.slice (some ⟨bb, oo, none⟩) lp vc) (.int .i64 0) HA.out
          have BF := put5_below (.int .u8 2) (.int .u32 (uz : Int)) (.int .u8 (xr : Int)) (.slice (some ⟨bb, oo, none⟩) lp vc) (.int .i64 0) (Nat.le_refl w.heap.size) BW.out
          rw [← hWF] at OF HF BF
          unfold put5 at hWF
          rw [← hWF]
          obtain ⟨e0, e1, e2, e3, e4⟩ := cells5 HF
          have OPV : opv o (.slice (some ⟨bb, oo, none⟩) lp vc) = .agg #[.int .u8 2, .int .u32 (uz : Int), .int .u8 (xr : Int), .slice (some ⟨bb, oo, none⟩) lp vc, .int .i64 0] := by
            rw [HO9.out]; exact opv_mkO (by omega) (by omega) h2 (by omega)
          have PL : o.pl = l := by rw [HO9.out]; rfl
          refine bodyPost_ret (v := .agg #[.int .u8 2, .int .u32 (uz : Int), .int .u8 (xr : Int), .slice (some ⟨bb, oo, none⟩) lp vc, .int .i64 0]) (by simp [results, Try.results36, go_sem, e0, e1, e2, e3, e4]) rfl ⟨some ⟨bb, oo, none⟩, vc, by rw [PL, ← HLP.out, OPV], ?_, BF⟩
          rw [PL, ← HLP.out]
          exact OF
        · rw [if_neg k2] at HO1
          have q6 : decide (3 ≤ (k : Int)) = true := by simp; omega
          have q6' : decide (3 ≤ k) = true := by simp; omega
          have HM2 := HML.out
          rw [if_neg k1, if_neg k2, ← HNM.out] at HM2
          subst HM2
          obtain ⟨b2, off2, rfl, hb2, hc⟩ := HU.out.at (by rw [← HNM.out]; omega)
          have hm0 := (hB'.out.cell (p := ⟨b2, off2 + 0, none⟩) hb2).trans (hc 0 (by rw [← HNM.out]; omega))
          have hm1' := (hB'.out.cell (p := ⟨b2, off2 + 1, none⟩) hb2).trans (hc 1 (by rw [← HNM.out]; omega))
          have hm2 := HS.out (M.getD 0 0) (getD_mem (by rw [← HNM.out]; omega))
          obtain ⟨a, ha⟩ : ∃ a, a = M.getD 0 0 := ⟨_, rfl⟩
          obtain ⟨rb, hrb⟩ : ∃ a, a = M.getD 1 0 := ⟨_, rfl⟩
          rw [← ha] at hm0 hm2 HO1
          rw [← hrb] at hm1' HO1
          obtain ⟨s, hs⟩ : ∃ s : Nat, (uz : Int) + (a : Int) = (s : Int) := ⟨uz + a, by omega⟩
          rw [show uz + a = s by omega] at HO1
          have es : IntKind.i64.wrap (s : Int) = (s : Int) := IntWalk.i64_in _ (by omega)
          have es2 : IntKind.u32.wrap (s : Int) = (s : Int) := by rw [IntKind.wrap_u32]; omega
          obtain ⟨r8, hr8⟩ : ∃ r : Nat, rb % 256 = r := ⟨_, rfl⟩
          have er : IntKind.u8.wrap (rb : Int) = (r8 : Int) := by rw [IntKind.wrap_u8]; omega
          have hs31 : s < 4294967296 := by omega
          have HO9 := Lib.hid HO1.symm
          have HR8 := Lib.hid hr8
          rw [Nat.add_zero] at hm0
          have hnb : ¬ b2 = w.heap.size + 1 := by omega
          have hkb : k < 256 := by omega
          clear HO1 hc hb2 ha hrb hr8
          have HC2 : Hid (∀ i, i < 2 → (put2 wx (w.heap.size + 1) (.int .u32 (uz : Int)) (.int .u8 (xr : Int))).cell? ⟨b2, off2 + i, none⟩ = wx.cell? ⟨b2, off2 + i, none⟩) := fun i _ => by
            show ((wx.setCell ⟨w.heap.size + 1, 1, none⟩ _).setCell ⟨w.heap.size + 1, 2, none⟩ _).cell? _ = _
            rw [World.cell?_of_block (a := ⟨b2, off2 + i, none⟩) (heap_setCell_other _ _ _ _ hnb), World.cell?_of_block (a := ⟨b2, off2 + i, none⟩) (heap_setCell_other _ _ _ _ hnb)]
          go_upto_region 11 with fail
          obtain ⟨W2, hWn⟩ : ∃ W2, W2 = put2 wx (w.heap.size + 1) (.int .u32 (uz : Int)) (.int .u8 (xr : Int)) := ⟨_, rfl⟩
          have OW := Lib.hid (own_put2 (.int .u32 (uz : Int)) (.int .u8 (xr : Int)) hO'.out NB.out)
          have HA := Lib.hid (put2_other (g := w.heap.size + 1) (.int .u32 (uz : Int)) (.int .u8 (xr : Int)) (by omega) hX'.out)
          have HY := Lib.hid (put2_same (.int .u32 (uz : Int)) (.int .u8 (xr : Int)) hY'.out)
          have BW := Lib.hid (put2_below (.int .u32 (uz : Int)) (.int .u8 (xr : Int)) (Nat.le_succ w.heap.size) hB'.out)
          rw [← hWn] at OW HA HY BW HC2
          unfold put2 at hWn
          rw [← hWn]
          clear hWn
          have hc0' : W2.cell? ⟨b2, off2, none⟩ = some (.int .i64 (a : Int)) := (HC2.out 0 (by omega)).trans (by rw [Nat.add_zero]; exact hm0)
          have hc1' : W2.cell? ⟨b2, off2 + 1, none⟩ = some (.int .i64 (rb : Int)) := (HC2.out 1 (by omega)).trans hm1'
          clear x0 x1 x2 x3 x4 y0 y1 y2 y3 y4 r0 r1 r2 f1 f2 hm0 hm1' hX' hY' hO' hB' hR' hU
          obtain ⟨y0, y1, y2, y3, y4⟩ := cells5 HY.out
          obtain ⟨x0, x1, x2, x3, x4⟩ := cells5 HA.out
          have f1 : ∀ o, W2.frozen? ⟨w.heap.size + 1, o, none⟩ = false := fun o => free5 HY.out o
          have f2 : ∀ o, W2.frozen? ⟨w.heap.size, o, none⟩ = false := fun o => free5 HA.out o
          go_upto_region 14 with fail
          go_cut [] (fun wx2 => wx2 = (put2 W2 (w.heap.size + 1) (.int .u32 (s : Int)) (.int .u8 (r8 : Int))).drew)
          case first =>
            go_region_with (fail)
            all_goals (go_wp2_with fail; go_meet)
            all_goals rfl
          case rest =>
            have OW3 : Hid ((put2 W2 (w.heap.size + 1) (.int .u32 (s : Int)) (.int .u8 (r8 : Int))).drew.ownsRow w.heap.size 71 3 (.slice (some ⟨bb, oo, none⟩) lp vc) lp (runs l)) := own_put2 (.int .u32 (s : Int)) (.int .u8 (r8 : Int)) OW.out NB.out
            have HA3 : Hid ((put2 W2 (w.heap.size + 1) (.int .u32 (s : Int)) (.int .u8 (r8 : Int))).drew.heap[w.heap.size]? = some (.cells #[.int .u8 0, .int .u32 0, .int .u8 0, .slice none 0 0, .int .i64 0] 35)) := put2_other (g := w.heap.size + 1) (.int .u32 (s : Int)) (.int .u8 (r8 : Int)) (by omega) HA.out
            have HY3 : Hid ((put2 W2 (w.heap.size + 1) (.int .u32 (s : Int)) (.int .u8 (r8 : Int))).drew.heap[w.heap.size + 1]? = some (.cells #[.int .u8 (k : Int), .int .u32 (s : Int), .int .u8 (r8 : Int), .slice (some ⟨bb, oo, none⟩) lp vc, .int .i64 0] 35)) := put2_same (.int .u32 (s : Int)) (.int .u8 (r8 : Int)) HY.out
            have BW3 : Hid (Below w.heap.size w (put2 W2 (w.heap.size + 1) (.int .u32 (s : Int)) (.int .u8 (r8 : Int))).drew) := (put2_below (.int .u32 (s : Int)) (.int .u8 (r8 : Int)) (Nat.le_succ w.heap.size) BW.out).drew
            rw [← hcut] at OW3 HA3 HY3 BW3
            clear hcut OW HA HY BW x0 x1 x2 x3 x4 y0 y1 y2 y3 y4 f1 f2 hc0' hc1' HC2
            have OW := OW3
            have HA := HA3
            have BW := BW3
            obtain ⟨y0, y1, y2, y3, y4⟩ := cells5 HY3.out
            obtain ⟨x0, x1, x2, x3, x4⟩ := cells5 HA3.out
            have f2 : ∀ o, wc.frozen? ⟨w.heap.size, o, none⟩ = false := fun o => free5 HA3.out o
            go_wp2_with fail
            obtain ⟨WF, hWF⟩ : ∃ WF, WF = put5 wc w.heap.size (.int .u8 (k : Int)) (.int .u32 (s : Int)) (.int .u8 (r8 : Int)) (.slice (some ⟨bb, oo, none⟩) lp vc) (.int .i64 0) := ⟨_, rfl⟩
            have OF := own_put5 (.int .u8 (k : Int)) (.int .u32 (s : Int)) (.int .u8 (r8 : Int)) (.slice (some ⟨bb, oo, none⟩) lp vc) (.int .i64 0) OW.out NA.out
            have HF := put5_same (.int .u8 (k : Int)) (.int .u32 (s : Int)) (.int .u8 (r8 : Int)) (.slice (some ⟨bb, oo, none⟩) lp vc) (.int .i64 0) HA.out
            have BF := put5_below (.int .u8 (k : Int)) (.int .u32 (s : Int)) (.int .u8 (r8 : Int)) (.slice (some ⟨bb, oo, none⟩) lp vc) (.int .i64 0) (Nat.le_refl w.heap.size) BW.out
            rw [← hWF] at OF HF BF
            unfold put5 at hWF
            rw [← hWF]
            obtain ⟨e0, e1, e2, e3, e4⟩ := cells5 HF
            have OPV : opv o (.slice (some ⟨bb, oo, none⟩) lp vc) = .agg #[.int .u8 (k : Int), .int .u32 (s : Int), .int .u8 (r8 : Int), .slice (some ⟨bb, oo, none⟩) lp vc, .int .i64 0] := by
              rw [HO9.out]; rw [← HR8.out]; exact opv_mkO3 hkb hs31 (by omega)
            have PL : o.pl = l := by rw [HO9.out]; rfl
            refine bodyPost_ret (v := .agg #[.int .u8 (k : Int), .int .u32 (s : Int), .int .u8 (r8 : Int), .slice (some ⟨bb, oo, none⟩) lp vc, .int .i64 0]) (by simp [results, Try.results36, go_sem, e0, e1, e2, e3, e4]) rfl ⟨some ⟨bb, oo, none⟩, vc, by rw [PL, ← HLP.out, OPV], ?_, BF⟩
            rw [PL, ← HLP.out]
            exact OF
end Go.Proofs.Ytelilmhnfmojkaa.Codes

/- What octavoref10.Get finds, in plain words: where an operation that may be lies ahead, its numbers are found; else nothing is. Conditions: none. -/
namespace Go.Proofs.Ytelilmhnfmojkaa.Codes
open Num Go.Proofs.Ytelilmhnfmojkaa.Place Ops Stamp

theorem runNums_le : ∀ (p : List Run) (z : Int), 0 ≤ z → Chain p → (∀ x, p.head? = some x → z < (x.t : Int)) → ∀ n ∈ runNums z p, n ≤ 1073741824
  | [], _, _, _, _, n, h => by simp [runNums] at h
  | x :: p, z, hz, hc, hh, n, h => by
    have ho := hc.head
    unfold Place.One at ho
    have h0 := hh x rfl
    have hn : ∀ y, p.head? = some y → fin x < (y.t : Int) := by
      intro y hy
      cases p with
      | nil => simp at hy
      | cons w p =>
        simp at hy
        subst hy
        exact hc.2.1.1
    simp only [runNums, List.mem_cons] at h
    rcases h with rfl | rfl | rfl | h
    · omega
    · omega
    · omega
    · exact runNums_le p (fin x) (by unfold fin; omega) hc.tail hn n h
theorem head_lt {p : List Run} (hc : Chain p) : ∀ x, p.head? = some x → (0 : Int) < (x.t : Int) := by
  intro x hx
  cases p with
  | nil => simp at hx
  | cons y p =>
    simp at hx
    subst hx
    have := hc.head
    unfold Place.One at this
    omega
theorem tail_len (o : Opn) : (tailNums o).length = if o.k = 1 then 1 else if o.k = 2 then 0 else 2 := by
  unfold tailNums
  split
  · rfl
  · split <;> rfl
theorem tail_le {o : Opn} (h : mayO o = true) : ∀ n ∈ tailNums o, n ≤ 1073741824 := by
  obtain ⟨h1, h2, h3⟩ := kind_cases h
  have hl := last_fin h2
  have hr := may_iff.1 h1
  intro n hn
  unfold tailNums at hn
  split at hn
  · simp at hn; omega
  · split at hn
    · simp at hn
    · simp at hn; omega
theorem kind_le {o : Opn} (h : mayO o = true) : 1 ≤ o.k ∧ o.k ≤ 4 ∧ 1 ≤ o.pl.length ∧ o.pl.length ≤ 64 := by
  obtain ⟨h1, h2, h3⟩ := kind_cases h
  have hM := (mayB_iff o.pl).1 h2
  have a1 := hM.1
  have a2 := hM.2.1
  omega

/-- What Get finds where an operation lies ahead. -/
theorem ahead_found {xs : List UInt8} {o : Opn} (h : IsAt xs 0 o) :
    numsOf 1073741824 2 xs = some [o.k, o.pl.length] ∧
    numsOf 1073741824 (3 * o.pl.length) (xs.drop (nums [o.k, o.pl.length]).length) = some (runNums 0 o.pl) ∧
    numsOf 1073741824 (if o.k = 1 then 1 else if o.k = 2 then 0 else 2) (xs.drop ((nums [o.k, o.pl.length]).length + (nums (runNums 0 o.pl)).length)) = some (tailNums o) ∧
    fitsF 0 (runNums 0 o.pl) = true ∧ wholeF o.k (runNums 0 o.pl) (tailNums o) = o ∧
    (bytesO o).length = (nums [o.k, o.pl.length]).length + (nums (runNums 0 o.pl)).length + (nums (tailNums o)).length ∧ xs.take (bytesO o).length = bytesO o := by
  obtain ⟨hm, t, ht⟩ := h
  rw [List.drop_zero] at ht
  obtain ⟨h1, h2, h3⟩ := kind_cases hm
  have hl := last_fin h2
  have hM := (mayB_iff o.pl).1 h2
  have hk := kind_le hm
  have hr := may_iff.1 h1
  have hbo : bytesO o = nums [o.k, o.pl.length] ++ (nums (runNums 0 o.pl) ++ nums (tailNums o)) := by
    unfold bytesO opNums
    rw [← nums_append, ← nums_append]
    rfl
  have hmost : (1073741824 : Nat) ≤ most := by unfold most; omega
  obtain ⟨w1, w2⟩ := whole_runs o.pl 0 (by omega) hM.2.2.1 (head_lt hM.2.2.1)
  have e1 : xs = nums [o.k, o.pl.length] ++ (nums (runNums 0 o.pl) ++ (nums (tailNums o) ++ t)) := by rw [ht, hbo]; simp
  have e2 : xs.drop (nums [o.k, o.pl.length]).length = nums (runNums 0 o.pl) ++ (nums (tailNums o) ++ t) := by
    conv => lhs; rw [e1]
    rw [List.drop_left]
  have e3 : xs.drop ((nums [o.k, o.pl.length]).length + (nums (runNums 0 o.pl)).length) = nums (tailNums o) ++ t := by
    rw [← List.drop_drop, e2, List.drop_left]
  refine ⟨numsOf_yes hmost [o.k, o.pl.length] xs _ (by intro n hn; simp at hn; omega) e1, ?_, ?_, w2, ?_, ?_, ?_⟩
  · have := numsOf_yes hmost (runNums 0 o.pl) _ _ (runNums_le o.pl 0 (by omega) hM.2.2.1 (head_lt hM.2.2.1)) e2
    rw [runNums_len, Nat.mul_comm] at this
    exact this
  · have := numsOf_yes hmost (tailNums o) _ _ (tail_le hm) e3
    rw [tail_len o] at this
    exact this
  · unfold wholeF
    rw [w1, ← hl.1]
    have hlast : ((o.pl.getD (o.pl.length - 1) zrun).r : Int) = (lastV o.pl).2 := by
      unfold lastV
      rw [if_pos h2]
    unfold tailNums
    rcases h3 with ⟨k1, g1, g2, g3, g4⟩ | ⟨k2, g1, g2, g3⟩ | ⟨k3, g1, g2⟩
    · rw [if_pos k1, if_pos k1]
      exact mkO_eq o k1.symm (by omega) (by omega) rfl (by simp; omega)
    · rw [if_neg (by omega), if_pos k2]
      exact mkO_eq o k2.symm (by omega) (by omega) rfl (by omega)
    · rw [if_neg (by omega), if_neg (by omega), if_neg (by omega), if_neg (by omega)]
      exact mkO_eq o rfl (by simp; omega) rfl rfl g2.symm
  · rw [hbo]; simp only [List.length_append]; omega
  · rw [ht, List.take_left]
theorem none_found {xs : List UInt8} (h : ∀ o, ¬ IsAt xs 0 o) : ansO xs = (zop, 0, 8) := by
  unfold ansO
  rw [get_none h]
theorem one_found {xs : List UInt8} {o : Opn} (h : IsAt xs 0 o) : ansO xs = (o, (bytesO o).length, 0) := by
  unfold ansO
  rw [get_yes h]
theorem take_isAt {xs : List UInt8} {o : Opn} {n : Nat} (hm : mayO o = true) (h : bytesO o = xs.take n) : IsAt xs 0 o := by
  refine ⟨hm, xs.drop n, ?_⟩
  rw [List.drop_zero, h, List.take_append_drop]
end Go.Proofs.Ytelilmhnfmojkaa.Codes

/- octavoref09: Check, Many, Stands, Needs: what each answers. Conditions: the places' cells are runs. -/
namespace Go.Proofs.Ytelilmhnfmojkaa.Ops
open Go.RowKit Stamp Go.Proofs.Ytelilmhnfmojkaa.Place
attribute [local go_sem ↓] Go.wp_at_zero Go.wp_at_succ

/-- A slice of stamps. -/
def Told1 (L : List Id) (w : World) (e : Ending) (w' : World) : Prop := ∃ ao cap, e = .returned (.slice ao L.length cap) ∧ Ids w' (.slice ao L.length cap) L ∧ Below w.heap.size w w'
theorem told1_of {S L : List Id} {ao : Option Addr} {n m cap : Nat} {w w2 : World} (hS : S = L.take m) (hm : m ≤ L.length) (I : Ids w2 (.slice ao n cap) L) (B : Below w.heap.size w w2) :
    Told1 S w (.returned (.slice ao m cap)) w2 := by
  have hl : S.length = m := by rw [hS, List.length_take]; omega
  refine ⟨ao, cap, by rw [hl], ?_, B⟩
  rw [hl, hS]
  exact idsTake I hm

end Go.Proofs.Ytelilmhnfmojkaa.Ops

/- The laws' helpers of layer 9: by, three, needs, bad, alive. Conditions: none. -/
namespace Go.Proofs.Ytelilmhnfmojkaa.Ops
open Go.RowKit Stamp Go.Proofs.Ytelilmhnfmojkaa.Place
attribute [local go_sem ↓] Go.wp_at_zero Go.wp_at_succ

/-- A run written out. -/
def lr9 (t r m : Nat) (h : t < 4294967296 ∧ r < 256 ∧ m < 10000) : Run := ⟨t, r, m, h.1, h.2.1, by omega⟩
def li9 (t r : Nat) (h : t < 4294967296 ∧ r < 256) : Id := ⟨t, r, h.1, h.2⟩
def lo9 (k t r : Nat) (pl : List Run) (p : Nat) (h : k < 256 ∧ t < 4294967296 ∧ r < 256 ∧ p < 2000000) : Opn := ⟨k, t, r, pl, p, h.1, h.2.1, h.2.2.1, by have := h.2.2.2; omega⟩
theorem ids_blk2 {X : World} {g : Nat} {a b : Id} {e : TypeId} {t r u s : Int} (ht : t = a.t) (hr : r = a.r) (hu : u = b.t) (hs : s = b.r) (h : X.heap[g]? = some (.cells #[.int .u32 t, .int .u8 r, .int .u32 u, .int .u8 s] e)) : Ids X (.slice (some ⟨g, 0, none⟩) 2 2) [a, b] := by
  subst ht hr hu hs
  refine ⟨rfl, _, _, rfl, Nat.le_refl _, by decide, by simp, .inr ⟨g, 0, rfl, (Array.getElem?_eq_some_iff.1 h).1, fun j u hj => ?_⟩⟩
  rw [cell_of_row X g (0 + j) _ e _ h, Nat.zero_add]
  simpa [ids] using hj
theorem ids_blk3 {X : World} {g : Nat} {a b c : Id} {e : TypeId} {t r u s x y : Int} (ht : t = a.t) (hr : r = a.r) (hu : u = b.t) (hs : s = b.r) (hx : x = c.t) (hy : y = c.r) (h : X.heap[g]? = some (.cells #[.int .u32 t, .int .u8 r, .int .u32 u, .int .u8 s, .int .u32 x, .int .u8 y] e)) : Ids X (.slice (some ⟨g, 0, none⟩) 3 3) [a, b, c] := by
  subst ht hr hu hs hx hy
  refine ⟨rfl, _, _, rfl, Nat.le_refl _, by decide, by simp, .inr ⟨g, 0, rfl, (Array.getElem?_eq_some_iff.1 h).1, fun j u hj => ?_⟩⟩
  rw [cell_of_row X g (0 + j) _ e _ h, Nat.zero_add]
  simpa [ids] using hj

/-- What blocks of five cells hold, over calls that write nothing that was there. -/
def Five (w : World) (g : Nat) (c0 c1 c2 c3 c4 : Value) : Prop := g < w.heap.size ∧ w.cell? ⟨g, 0, none⟩ = some c0 ∧ w.cell? ⟨g, 1, none⟩ = some c1 ∧ w.cell? ⟨g, 2, none⟩ = some c2 ∧ w.cell? ⟨g, 3, none⟩ = some c3 ∧ w.cell? ⟨g, 4, none⟩ = some c4
theorem Five.keeps {w w' : World} {g : Nat} {c0 c1 c2 c3 c4 : Value} (p : Five w g c0 c1 c2 c3 c4) (hb : Below w.heap.size w w') : Five w' g c0 c1 c2 c3 c4 :=
  ⟨Nat.lt_of_lt_of_le p.1 hb.size, (hb.cell (p := ⟨g, 0, none⟩) p.1).trans p.2.1, (hb.cell (p := ⟨g, 1, none⟩) p.1).trans p.2.2.1, (hb.cell (p := ⟨g, 2, none⟩) p.1).trans p.2.2.2.1, (hb.cell (p := ⟨g, 3, none⟩) p.1).trans p.2.2.2.2.1, (hb.cell (p := ⟨g, 4, none⟩) p.1).trans p.2.2.2.2.2⟩
theorem five_new (w : World) (c0 c1 c2 c3 c4 : Value) (e : TypeId) : Five (w.alloc (.cells #[c0, c1, c2, c3, c4] e)) w.heap.size c0 c1 c2 c3 c4 :=
  ⟨by simp, cell_of_row _ w.heap.size 0 _ e _ (heap_alloc_new w _), cell_of_row _ w.heap.size 1 _ e _ (heap_alloc_new w _), cell_of_row _ w.heap.size 2 _ e _ (heap_alloc_new w _), cell_of_row _ w.heap.size 3 _ e _ (heap_alloc_new w _), cell_of_row _ w.heap.size 4 _ e _ (heap_alloc_new w _)⟩
/-- The same for two such blocks, as a region wants it. -/
def Ten (wl : World) (g h : Nat) (c0 c1 c2 c3 c4 d0 d1 d2 d3 d4 : Value) (w' : World) : Prop := Below wl.heap.size wl w' ∧
  w'.cell? ⟨g, 0, none⟩ = some c0 ∧ w'.cell? ⟨g, 1, none⟩ = some c1 ∧ w'.cell? ⟨g, 2, none⟩ = some c2 ∧ w'.cell? ⟨g, 3, none⟩ = some c3 ∧ w'.cell? ⟨g, 4, none⟩ = some c4 ∧
  w'.cell? ⟨h, 0, none⟩ = some d0 ∧ w'.cell? ⟨h, 1, none⟩ = some d1 ∧ w'.cell? ⟨h, 2, none⟩ = some d2 ∧ w'.cell? ⟨h, 3, none⟩ = some d3 ∧ w'.cell? ⟨h, 4, none⟩ = some d4
theorem ten_of {wl w' : World} {g h : Nat} {c0 c1 c2 c3 c4 d0 d1 d2 d3 d4 : Value} (p : Five wl g c0 c1 c2 c3 c4) (q : Five wl h d0 d1 d2 d3 d4) (hb : Below wl.heap.size wl w') : Ten wl g h c0 c1 c2 c3 c4 d0 d1 d2 d3 d4 w' :=
  ⟨hb, (p.keeps hb).2.1, (p.keeps hb).2.2.1, (p.keeps hb).2.2.2.1, (p.keeps hb).2.2.2.2.1, (p.keeps hb).2.2.2.2.2, (q.keeps hb).2.1, (q.keeps hb).2.2.1, (q.keeps hb).2.2.2.1, (q.keeps hb).2.2.2.2.1, (q.keeps hb).2.2.2.2.2⟩
theorem ten_call {wl w1 w2 : World} {g h : Nat} {c0 c1 c2 c3 c4 d0 d1 d2 d3 d4 : Value} (p : Five wl g c0 c1 c2 c3 c4) (q : Five wl h d0 d1 d2 d3 d4) (b : Below w1.heap.size w1 w2) (hb : Below wl.heap.size wl w1) : Ten wl g h c0 c1 c2 c3 c4 d0 d1 d2 d3 d4 w2 :=
  ten_of p q (bt hb b)
theorem ten_alloc {wl w1 : World} {o : Obj} {g h : Nat} {c0 c1 c2 c3 c4 d0 d1 d2 d3 d4 : Value} (p : Five wl g c0 c1 c2 c3 c4) (q : Five wl h d0 d1 d2 d3 d4) (hb : Below wl.heap.size wl w1) : Ten wl g h c0 c1 c2 c3 c4 d0 d1 d2 d3 d4 (w1.alloc o) :=
  ten_of p q (hb.alloc hb.size o)

end Go.Proofs.Ytelilmhnfmojkaa.Ops

/- octavolaw10.one, two, alive, bad: what each answers. Conditions: none. -/
namespace Go.Proofs.Ytelilmhnfmojkaa.Codes
open Go.RowKit Go.WideShapes Num Go.Proofs.Ytelilmhnfmojkaa.Place Ops
attribute [local go_sem ↓] Go.wp_at_zero Go.wp_at_succ

def opOne : Opn := lo9 1 3 0 [lr9 1 0 3 (by decide)] 97 (by decide)
def opTwo : Opn := lo9 3 9 1 [lr9 1 0 3 (by decide), lr9 5 2 1 (by decide)] 0 (by decide)
theorem may_one : mayO opOne = true := by decide +kernel
theorem may_two : mayO opTwo = true := by decide +kernel
theorem by_one : bytesO opOne = [1, 1, 1, 0, 3, 97] := by decide +kernel
theorem by_two : bytesO opTwo = [3, 2, 1, 0, 3, 2, 2, 1, 4, 1] := by decide +kernel
theorem ans_one : ansO [1, 1, 1, 0, 3, 97, 5] = (opOne, 6, 0) := by
  have h := one_found (xs := [1, 1, 1, 0, 3, 97, 5]) (o := opOne) ⟨may_one, [5], by rw [by_one]; rfl⟩
  rw [h, by_one]; rfl
theorem ans_no {xs : List UInt8} (h : (getO xs).isNone = true) : ansO xs = (zop, 0, 8) := by
  unfold ansO
  cases hg : getO xs with
  | none => rfl
  | some z => rw [hg] at h; cases h

theorem one_any (w : World) : Calls Try.prog 28 #[] w fun e w' => ∃ g, e = .returned (.agg #[.int .u8 1, .int .u32 3, .int .u8 0, .slice (some ⟨g, 0, none⟩) 1 1, .int .i64 97]) ∧ Runs w' (.slice (some ⟨g, 0, none⟩) 1 1) opOne.pl ∧ Below w.heap.size w w' := by
  go_enter Try.func28, Try.ntmps28
  go_wp2_with fail
  refine bodyPost_ret (v := .agg #[.int .u8 1, .int .u32 3, .int .u8 0, .slice (some ⟨w.heap.size + 1, 0, none⟩) 1 1, .int .i64 97]) (by simp [results, Try.results28, go_sem]) rfl ⟨w.heap.size + 1, rfl, ?_, ((Below.refl _ _).alloc (Nat.le_refl _) _).alloc (by simp) _⟩
  have h := runs_new (w.alloc (.cells #[.int .u8 1, .int .u32 3, .int .u8 0, .slice (some ⟨w.heap.size + 1, 0, none⟩) 1 1, .int .i64 97] 35)) [lr9 1 0 3 (by decide)] 1 rfl (by decide) 71 (0, 0)
  rw [show (w.alloc (.cells #[.int .u8 1, .int .u32 3, .int .u8 0, .slice (some ⟨w.heap.size + 1, 0, none⟩) 1 1, .int .i64 97] 35)).heap.size = w.heap.size + 1 by simp] at h
  exact h
set_option maxRecDepth 100000 in
theorem two_any (w : World) : Calls Try.prog 29 #[] w fun e w' => ∃ g, e = .returned (.agg #[.int .u8 3, .int .u32 9, .int .u8 1, .slice (some ⟨g, 0, none⟩) 2 2, .int .i64 0]) ∧ Runs w' (.slice (some ⟨g, 0, none⟩) 2 2) opTwo.pl ∧ Below w.heap.size w w' := by
  go_enter Try.func29, Try.ntmps29
  go_wp2_with fail
  refine bodyPost_ret (v := .agg #[.int .u8 3, .int .u32 9, .int .u8 1, .slice (some ⟨w.heap.size + 1, 0, none⟩) 2 2, .int .i64 0]) (by simp [results, Try.results29, go_sem]) rfl ⟨w.heap.size + 1, rfl, ?_, ((Below.refl _ _).alloc (Nat.le_refl _) _).alloc (by simp) _⟩
  have h := runs_new (w.alloc (.cells #[.int .u8 3, .int .u32 9, .int .u8 1, .slice (some ⟨w.heap.size + 1, 0, none⟩) 2 2, .int .i64 0] 35)) [lr9 1 0 3 (by decide), lr9 5 2 1 (by decide)] 2 rfl (by decide) 71 (0, 0)
  rw [show (w.alloc (.cells #[.int .u8 3, .int .u32 9, .int .u8 1, .slice (some ⟨w.heap.size + 1, 0, none⟩) 2 2, .int .i64 0] 35)).heap.size = w.heap.size + 1 by simp] at h
  exact h

theorem bad_any {v : Value} {xs : List UInt8} {w : World} (hr : Reads w v xs) (hl : xs.length ≤ 100) (h : (getO xs).isNone = true) :
    Calls Try.prog 12 #[v] w fun e w' => e = .returned (.bool true) ∧ Below w.heap.size w w' := by
  obtain ⟨ao, cap, rfl⟩ := hr.shape
  have G := Lib.hid (cGet_any rfl (by omega) hr)
  rw [ans_no h] at G
  unfold GotO at G
  obtain ⟨n, hn⟩ : ∃ n, n = xs.length := ⟨_, rfl⟩
  rw [← hn] at G ⊢
  have HZ : Hid (∀ v : Value, opv zop v = .agg #[.int .u8 0, .int .u32 0, .int .u8 0, v, .int .i64 0]) := fun v => rfl
  simp only [HZ.out] at G
  have HL : Hid (zop.pl.length = 0) := rfl
  rw [HL.out] at G
  clear hr hl h hn
  go_enter Try.func12, Try.ntmps12
  go_wp2_with fail
  refine G.out.mono ?_
  rintro e w1 ⟨ao1, cap1, rfl, o1, b1⟩
  have B1 := Lib.hid (b1.alloc b1.size (.cells #[.int .u8 0, .int .u32 0, .int .u8 0, .slice ao1 0 cap1, .int .i64 0] 35))
  clear o1 b1
  go_wp2
  go_ret
  exact ⟨rfl, B1.out⟩

set_option maxRecDepth 100000 in
set_option maxHeartbeats 8000000 in
theorem alive10_any (w : World) : Calls Try.prog 11 #[] w fun e w' => e = .returned (.bool true) ∧ Below w.heap.size w w' := by
  have P1 : Hid (∀ (W : World) (v : Value), Runs W v opOne.pl → Calls Try.prog 10 #[.agg #[.int .u8 1, .int .u32 3, .int .u8 0, v, .int .i64 97]] W (Put2 0 [1, 1, 1, 0, 3, 97] W)) := fun W v h => by
    have := cPut_any (o := opOne) h
    rw [show chkO opOne = 0 by unfold chkO; rw [if_pos may_one], show putB opOne = [1, 1, 1, 0, 3, 97] by unfold putB; rw [if_pos may_one, by_one]] at this
    exact this
  have P2 : Hid (∀ (W : World) (v : Value), Runs W v opTwo.pl → Calls Try.prog 10 #[.agg #[.int .u8 3, .int .u32 9, .int .u8 1, v, .int .i64 0]] W (Put2 0 [3, 2, 1, 0, 3, 2, 2, 1, 4, 1] W)) := fun W v h => by
    have := cPut_any (o := opTwo) h
    rw [show chkO opTwo = 0 by unfold chkO; rw [if_pos may_two], show putB opTwo = [3, 2, 1, 0, 3, 2, 2, 1, 4, 1] by unfold putB; rw [if_pos may_two, by_two]] at this
    exact this
  have GE : Hid (∀ (W : World) (v : Value), Reads W v [1, 1, 1, 0, 3, 97, 5] → Calls Try.prog 15 #[v] W fun e w' => ∃ ao cap, e = .returned (.tuple #[.agg #[.int .u8 1, .int .u32 3, .int .u8 0, .slice ao 1 cap, .int .i64 97], .int .i64 6, .int .i64 0]) ∧ Runs w' (.slice ao 1 cap) opOne.pl ∧ Below W.heap.size W w') := fun W v h => by
    obtain ⟨ao, cap, rfl⟩ := h.shape
    have := cGet_any rfl (by simp) h
    rw [ans_one] at this
    refine this.mono ?_
    rintro e w' ⟨ao, cap, rfl, ho, hb⟩
    exact ⟨ao, cap, rfl, Runs.own ho, hb⟩
  have SA : Hid (∀ (W : World) (u v : Value), Runs W u opOne.pl → Runs W v opOne.pl → Calls Try.prog 23 #[.agg #[.int .u8 1, .int .u32 3, .int .u8 0, u, .int .i64 97], .agg #[.int .u8 1, .int .u32 3, .int .u8 0, v, .int .i64 97]] W fun e w' => e = .returned (.bool true) ∧ Below W.heap.size W w') := fun W u v h h2 => by
    have := oSame_any (a := opOne) (b := opOne) h h2
    rw [show sameB opOne opOne = true from (sameB_iff _ _).2 rfl] at this
    exact this
  have s1 : ((str [1, 1, 1, 0, 3, 97]).toList == (ByteArray.mk #[1, 1, 1, 0, 3, 97]).toList) = true := by rw [ByteArray.toList_eq, ByteArray.toList_eq]; decide
  have s1' : ((str [1, 1, 1, 0, 3, 97]).toList == [1, 1, 1, 0, 3, 97]) = true := by rw [ByteArray.toList_eq]; decide
  have s2 : ((str [3, 2, 1, 0, 3, 2, 2, 1, 4, 1]).toList == (ByteArray.mk #[3, 2, 1, 0, 3, 2, 2, 1, 4, 1]).toList) = true := by rw [ByteArray.toList_eq, ByteArray.toList_eq]; decide
  have s2' : ((str [3, 2, 1, 0, 3, 2, 2, 1, 4, 1]).toList == [3, 2, 1, 0, 3, 2, 2, 1, 4, 1]) = true := by rw [ByteArray.toList_eq]; decide
  obtain ⟨A, hA⟩ : ∃ A, A = str [1, 1, 1, 0, 3, 97] := ⟨_, rfl⟩
  obtain ⟨C, hC⟩ : ∃ A, A = str [3, 2, 1, 0, 3, 2, 2, 1, 4, 1] := ⟨_, rfl⟩
  rw [← hA] at s1 s1'
  rw [← hC] at s2 s2'
  have HA := Lib.hid hA
  have HC := Lib.hid hC
  clear hA hC
  go_enter Try.func11, Try.ntmps11
  go_wp2_with fail
  refine (one_any _).mono ?_
  rintro e w1 ⟨g1, rfl, r1, b1⟩
  have R1 := Lib.hid r1
  have B1 := Lib.hid b1
  clear r1 b1
  go_wp2_with fail
  refine (P1.out _ _ R1.out).mono ?_
  rintro e w2 ⟨va, rfl, o2, b2⟩
  have RA2 := Lib.hid (Reads.own o2)
  have B2 := Lib.hid (bt B1.out b2)
  clear o2 b2 R1 B1
  go_wp2_with fail
  refine (two_any _).mono ?_
  rintro e w3 ⟨g3, rfl, r3, b3⟩
  have R3 := Lib.hid r3
  have RA3 := Lib.hid (RA2.out.keeps b3)
  have B3 := Lib.hid (bt B2.out b3)
  clear r3 b3 RA2 B2
  go_wp2_with fail
  refine (P2.out _ _ R3.out).mono ?_
  rintro e w4 ⟨vb, rfl, o4, b4⟩
  have RB4 := Lib.hid (Reads.own o4)
  have RA4 := Lib.hid (RA3.out.keeps b4)
  have B4 := Lib.hid (bt B3.out b4)
  have bo := (Below.refl w4.heap.size w4).alloc (Nat.le_refl _) (.cells (bs [1, 1, 1, 0, 3, 97, 5]).toArray 5)
  have RN := Lib.hid (reads_new w4 [1, 1, 1, 0, 3, 97, 5] (by simp) (0, 0))
  have RB5 := Lib.hid (RB4.out.keeps bo)
  have RA5 := Lib.hid (RA4.out.keeps bo)
  have B5 := Lib.hid (bt B4.out bo)
  clear o4 b4 RA3 B3 R3 bo RB4 RA4 B4
  go_wp2_with fail
  refine (GE.out _ _ RN.out).mono ?_
  rintro e w6 ⟨ao6, cap6, rfl, r6, b6⟩
  have b6' := b6.alloc b6.size (.cells #[.int .u8 1, .int .u32 3, .int .u8 0, .slice ao6 1 cap6, .int .i64 97] 35)
  have F7 : Hid (Five (w6.alloc (.cells #[.int .u8 1, .int .u32 3, .int .u8 0, .slice ao6 1 cap6, .int .i64 97] 35)) w6.heap.size (.int .u8 1) (.int .u32 3) (.int .u8 0) (.slice ao6 1 cap6) (.int .i64 97)) := five_new w6 _ _ _ _ _ 35
  have R7 := Lib.hid (r6.keeps ((Below.refl _ _).alloc (Nat.le_refl _) (.cells #[.int .u8 1, .int .u32 3, .int .u8 0, .slice ao6 1 cap6, .int .i64 97] 35)))
  have RB7 := Lib.hid (RB5.out.keeps b6')
  have RA7 := Lib.hid (RA5.out.keeps b6')
  have B7 := Lib.hid (bt B5.out b6')
  clear r6 b6 b6' RN RB5 RA5 B5
  go_upto_region 4 with fail
  generalize w6.alloc (.cells #[.int .u8 1, .int .u32 3, .int .u8 0, .slice ao6 1 cap6, .int .i64 97] 35) = wl at F7 R7 RB7 RA7 B7 ⊢
  generalize w6.heap.size = T at F7 ⊢
  have FK : Hid (∀ W : World, Below wl.heap.size wl W → W.cell? ⟨T, 0, none⟩ = some (.int .u8 1) ∧ W.cell? ⟨T, 1, none⟩ = some (.int .u32 3) ∧ W.cell? ⟨T, 2, none⟩ = some (.int .u8 0) ∧ W.cell? ⟨T, 3, none⟩ = some (.slice ao6 1 cap6) ∧ W.cell? ⟨T, 4, none⟩ = some (.int .i64 97)) := fun W h => (F7.out.keeps h).2
  have SK : Hid (∀ W : World, Below wl.heap.size wl W → Below wl.heap.size wl W ∧ (W.cell? ⟨T, 0, none⟩ = some (.int .u8 1) ∧ W.cell? ⟨T, 1, none⟩ = some (.int .u32 3) ∧ W.cell? ⟨T, 2, none⟩ = some (.int .u8 0) ∧ W.cell? ⟨T, 3, none⟩ = some (.slice ao6 1 cap6) ∧ W.cell? ⟨T, 4, none⟩ = some (.int .i64 97)) ∧
      (convert 22 9 va).run Try.prog W = .ok (.string A) W ∧ (convert 22 9 vb).run Try.prog W = .ok (.string C) W) := fun W h => ⟨h, FK.out W h, by rw [HA.out]; exact run_string (RA7.out.keeps h), by rw [HC.out]; exact run_string (RB7.out.keeps h)⟩
  go_region_held3 (fun w' => Below wl.heap.size wl w' ∧ (w'.cell? ⟨T, 0, none⟩ = some (.int .u8 1) ∧ w'.cell? ⟨T, 1, none⟩ = some (.int .u32 3) ∧ w'.cell? ⟨T, 2, none⟩ = some (.int .u8 0) ∧ w'.cell? ⟨T, 3, none⟩ = some (.slice ao6 1 cap6) ∧ w'.cell? ⟨T, 4, none⟩ = some (.int .i64 97)) ∧
      (convert 22 9 va).run Try.prog w' = .ok (.string A) w' ∧ (convert 22 9 vb).run Try.prog w' = .ok (.string C) w')
    (first | exact SK.out _ (drew1 _) | (go_split_ands; exact SK.out _ (bt (by assumption) (by assumption))) | (go_split_ands; refine SK.out _ (bt ?_ ?_) <;> assumption))
    ((first | (go_at_call 28; go_split_ands; (with_reducible refine (one_any _).mono ?_); rintro e w9 ⟨g8, rfl, r8, b9⟩) | (go_at_call 23; go_split_ands; (with_reducible refine (SA.out _ _ _ (R7.out.keeps (by assumption)) (by assumption)).mono ?_); rintro e w9 ⟨rfl, b9⟩)))
  go_wp2
  go_ret
  go_split_ands
  exact ⟨rfl, bt B7.out (by assumption)⟩
end Go.Proofs.Ytelilmhnfmojkaa.Codes
