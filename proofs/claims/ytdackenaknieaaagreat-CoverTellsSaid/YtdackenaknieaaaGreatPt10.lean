/- octavoref11.Of, Has, Find: what each answers. Conditions: the slice's cells are operations. -/
import Derived.WalkKit
import Derived.WalkSpells
import Derived.WalkLawsBesides
import Derived.RegionTactic
import Derived.Deep.DrawnRows
import Derived.Deep.QuietTactic
import Derived.BigQuiet
import Derived.IntWalk
import Derived.Deep.RegionHeld3
import Derived.Test.YtdackenaknieaaaGreatPt09
import Derived.Test.YtdackenaknieaaaGreatPt06
import Derived.Test.YtdackenaknieaaaGreatPt01
import Derived.Test.YtdackenaknieaaaGreatPt08

namespace Go.Proofs.YtdackenaknieaaaGreat.Bags
open Go.RowKit Go.WideShapes Stamp Go.Proofs.YtdackenaknieaaaGreat.Place Ops Codes
attribute [local go_sem ↓] Go.wp_at_zero Go.wp_at_succ
attribute [local go_sem] yielded_undef

/-- What is found of a stamp. -/
def FoundO (q : Option Opn) (v0 : Value) (l : List Opn) (w : World) (e : Ending) (w' : World) : Prop := ∃ v, e = .returned (.tuple #[opv (q.getD zop) v, .bool q.isSome]) ∧ (∀ W : World, Below W.heap.size W w → OpL W v0 l → Runs W v (q.getD zop).pl) ∧ Below w.heap.size w w'

set_option maxRecDepth 100000 in
set_option maxHeartbeats 8000000 in
theorem refOfO_any {v : Value} {l : List Opn} (a : Id) {w : World} (hv : OpL w v l) :
    Calls Tryz.prog 136 #[v, .agg #[.int .u32 (a.t : Int), .int .u8 (a.r : Int)]] w (FoundO (findO l a) v l w) := by
  obtain ⟨ao, cap, rfl⟩ := hv.shape
  obtain ⟨n, hn⟩ : ∃ n, n = l.length := ⟨_, rfl⟩
  have hmx : n ≤ 9223372036854775807 := by rw [hn]; exact hv.max
  have HV : Hid (∀ W : World, Below w.heap.size w W → OpL W (.slice ao l.length cap) l) := fun W h => hv.keeps h
  have HN := Lib.hid hn
  obtain ⟨q, hq⟩ : ∃ q, findO l a = q := ⟨_, rfl⟩
  have HQ : Hid (∀ (k : Nat) (hk : k < l.length), (∀ j (h : j < l.length), j < k → idO (l[j]'h) ≠ a) → idO (l[k]'hk) = a → q = some (l[k]'hk)) := fun k hk h1 h2 => by rw [← hq]; exact findO_at k hk h1 h2
  have HZ : Hid ((∀ j (h : j < l.length), idO (l[j]'h) ≠ a) → q = none) := fun h => by
    rw [← hq]; refine findO_none.2 (fun o ho => ?_)
    obtain ⟨i, hi, rfl⟩ := List.getElem_of_mem ho
    exact h i hi
  rw [hq, ← hn]
  obtain ⟨A, hA⟩ : ∃ A, A = a := ⟨_, rfl⟩
  rw [← hA] at HQ HZ
  have HA : Hid (∀ x : Opn, idO x = A ↔ x.t = a.t ∧ x.r = a.r) := fun x => by rw [hA, Id.eq_iff]; rfl
  obtain ⟨ta, ra, hta, hra⟩ := a
  simp only at HA ⊢
  obtain ⟨wl, hwl⟩ : ∃ x, x = (w.alloc (.cells #[.int .u32 (ta : Int), .int .u8 (ra : Int)] 28)).alloc (.cells #[.int .u8 0, .int .u32 0, .int .u8 0, .slice none 0 0, .int .i64 0] 31) := ⟨_, rfl⟩
  have XI : Hid (wl.heap[w.heap.size]? = some (.cells #[.int .u32 (ta : Int), .int .u8 (ra : Int)] 28)) := by rw [hwl]; exact blk_old (blk_new rfl)
  have XO : Hid (wl.heap[w.heap.size + 1]? = some (.cells #[.int .u8 0, .int .u32 0, .int .u8 0, .slice none 0 0, .int .i64 0] 31)) := by rw [hwl]; exact blk_new (by simp)
  have BL : Hid (Below w.heap.size w wl) := by rw [hwl]; exact ((Below.refl _ _).alloc (Nat.le_refl _) _).alloc (by simp) _
  have B0 : Hid (Below wl.heap.size wl ((w.alloc (.cells #[.int .u32 (ta : Int), .int .u8 (ra : Int)] 28)).alloc (.cells #[.int .u8 0, .int .u32 0, .int .u8 0, .slice none 0 0, .int .i64 0] 31))) := by rw [← hwl]; exact Below.refl _ _
  clear hv hn hq hA hwl
  go_enter Tryz.func136, Tryz.ntmps136
  go_wp2
  go_loopw [6] (fun i wr => ∃ j : Nat, j ≤ n ∧ i = .int .i64 (j : Int) ∧ Hid (∀ k (h : k < l.length), k < j → idO (l[k]'h) ≠ A) ∧ Hid (Below wl.heap.size wl wr)) (fun i _ => n - (intOf i).toNat)
  case atStart => exact ⟨0, by omega, rfl, fun k h hk => by omega, B0⟩
  case round =>
    clear B0
    obtain ⟨j, hj, rfl, hno, hbel⟩ := hrel
    have XI2 := Lib.hid (blk_below hbel.out XI.out)
    have XO2 := Lib.hid (blk_below hbel.out XO.out)
    have BW := Lib.hid (bt BL.out hbel.out)
    by_cases hjn : j < n
    rotate_left
    · have q3 : decide (j < n) = false := by simpa using hjn
      obtain rfl := HZ.out (fun i h => hno.out i h (by have := HN.out; omega))
      obtain ⟨x0, x1, x2, x3, x4⟩ := cells5 XO2.out
      have f0 : ∀ o, wr.frozen? ⟨w.heap.size + 1, o, none⟩ = false := fun o => free5 XO2.out o
      go_wp2_with fail
      obtain ⟨WF, hWF⟩ : ∃ WF, WF = put5 wr (w.heap.size + 1) (.int .u8 0) (.int .u32 0) (.int .u8 0) (.slice none 0 0) (.int .i64 0) := ⟨_, rfl⟩
      have HF := put5_same (.int .u8 0) (.int .u32 0) (.int .u8 0) (.slice none 0 0) (.int .i64 0) XO2.out
      have BF := put5_below (.int .u8 0) (.int .u32 0) (.int .u8 0) (.slice none 0 0) (.int .i64 0) (show w.heap.size ≤ w.heap.size + 1 by omega) BW.out
      rw [← hWF] at HF BF
      unfold put5 at hWF
      rw [← hWF]
      obtain ⟨e0, e1, e2, e3, e4⟩ := cells5 HF
      exact bodyPost_ret (v := .tuple #[.agg #[.int .u8 0, .int .u32 0, .int .u8 0, .slice none 0 0, .int .i64 0], .bool false]) (by simp [results, Tryz.results136, go_sem, e0, e1, e2, e3, e4]) rfl ⟨.slice none 0 0, rfl, fun _ _ _ => Runs.nil _, BF⟩
    have q3 : decide (j < n) = true := by simpa using hjn
    have q4 : (0 : Int) ≤ (j : Int) := by omega
    have q5 : (j : Int) < (n : Int) := by omega
    have hjl : j < l.length := by rw [← HN.out]; exact hjn
    obtain ⟨bb, oo, u, e, hbb, hru, h0, h1, h2, h3, h4⟩ := opl_at (HV.out w (Below.refl _ _)) j hjl
    subst e
    obtain ⟨x, hx⟩ : ∃ x, x = l[j]'hjl := ⟨_, rfl⟩
    rw [← hx] at hru h0 h1 h2 h4
    have HO : Hid (∀ v : Value, opv x v = .agg #[.int .u8 (x.k : Int), .int .u32 (x.t : Int), .int .u8 (x.r : Int), v, .int .i64 x.p]) := fun v => rfl
    obtain ⟨uo, uc, rfl⟩ := hru.shape
    obtain ⟨nu, hnu⟩ : ∃ n, n = x.pl.length := ⟨_, rfl⟩
    have HNU := Lib.hid hnu
    rw [← hnu] at hru h3
    clear hnu
    have HRU : Hid (∀ W : World, Below W.heap.size W w → OpL W (.slice (some ⟨bb, oo, none⟩) n cap) l → Runs W (.slice uo nu uc) x.pl) := fun W hb h => by
      have hn9 := HN.out
      rw [hn9] at h
      obtain ⟨b9, o9, u9, e9, hlt9, hr9, _, _, _, h9, _⟩ := opl_at h j hjl
      cases e9
      have e9 := (hb.cell (p := ⟨bb, oo + j * 5 + 3, none⟩) hlt9).trans h9
      rw [h3] at e9
      cases e9
      rw [hx]; exact hr9
    replace h0 := ((BW.out).cell (p := ⟨bb, oo + j * 5, none⟩) hbb).trans h0
    replace h1 := ((BW.out).cell (p := ⟨bb, oo + j * 5 + 1, none⟩) hbb).trans h1
    replace h2 := ((BW.out).cell (p := ⟨bb, oo + j * 5 + 2, none⟩) hbb).trans h2
    replace h3 := ((BW.out).cell (p := ⟨bb, oo + j * 5 + 3, none⟩) hbb).trans h3
    replace h4 := ((BW.out).cell (p := ⟨bb, oo + j * 5 + 4, none⟩) hbb).trans h4
    have hbo := hbb
    replace hbb := Nat.lt_of_lt_of_le hbb (BW.out).size
    have HX : Hid (x = l[j]'hjl) := hx
    have HE := Lib.hid (HA.out x)
    have HG := Lib.hid (HQ.out j hjl (fun i h hi => hno.out i h hi))
    have hxx := hx
    clear hx hru
    obtain ⟨k, hk⟩ : ∃ z, x.k = z := ⟨_, rfl⟩
    obtain ⟨t, ht⟩ : ∃ z, x.t = z := ⟨_, rfl⟩
    obtain ⟨r, hr⟩ : ∃ z, x.r = z := ⟨_, rfl⟩
    obtain ⟨p, hp⟩ : ∃ z, x.p = z := ⟨_, rfl⟩
    rw [hk, ht, hr, hp] at HO
    rw [hk] at h0
    rw [ht] at h1
    rw [hr] at h2
    rw [hp] at h4
    obtain ⟨f0, f1⟩ : wr.cell? ⟨w.heap.size, 0, none⟩ = some (.int .u32 (ta : Int)) ∧ wr.cell? ⟨w.heap.size, 1, none⟩ = some (.int .u8 (ra : Int)) := ⟨cell_of_row _ _ 0 _ _ _ XI2.out, cell_of_row _ _ 1 _ _ _ XI2.out⟩
    have hlt := World.block_lt_of_cell? _ _ f0
    have SK : Hid (∀ w' : World, Below wr.heap.size wr w' → Below wr.heap.size wr w' ∧ w'.cell? ⟨bb, oo + j * 5 + 1, none⟩ = some (.int .u32 (t : Int)) ∧ w'.cell? ⟨bb, oo + j * 5 + 2, none⟩ = some (.int .u8 (r : Int)) ∧ w'.cell? ⟨w.heap.size, 0, none⟩ = some (.int .u32 (ta : Int)) ∧ w'.cell? ⟨w.heap.size, 1, none⟩ = some (.int .u8 (ra : Int))) := fun W h => ⟨h, (h.cell (p := ⟨bb, oo + j * 5 + 1, none⟩) hbb).trans h1, (h.cell (p := ⟨bb, oo + j * 5 + 2, none⟩) hbb).trans h2, (h.cell (p := ⟨w.heap.size, 0, none⟩) hlt).trans f0, (h.cell (p := ⟨w.heap.size, 1, none⟩) hlt).trans f1⟩
    have F1 : Hid (FiveAt wr bb (oo + j * 5) (.int .u8 (k : Int)) (.int .u32 (t : Int)) (.int .u8 (r : Int)) (.slice uo nu uc) (.int .i64 p)) := ⟨hbb, h0, h1, h2, h3, h4⟩
    rw [ht, hr] at HE
    have HFV : Hid (∀ v : Value, Value.agg #[.int .u8 (k : Int), .int .u32 (t : Int), .int .u8 (r : Int), v, .int .i64 p] = opv x v) := fun v => (HO.out v).symm
    clear hk ht hr hp h0 h1 h2 h3 h4 f0 f1 hlt HO hbb
    obtain ⟨b1, hb1⟩ : ∃ b, decide (t = ta) = b := ⟨_, rfl⟩
    obtain ⟨b2, hb2⟩ : ∃ b, decide (r = ra) = b := ⟨_, rfl⟩
    have hb1' : ((t : Int) == (ta : Int)) = b1 := by rw [← hb1]; by_cases h : t = ta <;> simp [h] <;> omega
    have hb2' : ((r : Int) == (ra : Int)) = b2 := by rw [← hb2]; by_cases h : r = ra <;> simp [h] <;> omega
    have HM : Hid ((b1 && b2) = true → q = some (l[j]'hjl)) := fun h => HG.out (by rw [← HX.out, HE.out]; rw [Bool.and_eq_true, ← hb1, ← hb2, decide_eq_true_eq, decide_eq_true_eq] at h; exact h)
    have HNM : Hid ((b1 && b2) = false → ∀ i (h : i < l.length), i < j + 1 → idO (l[i]'h) ≠ A) := fun h i hi hij => by
      by_cases e : i = j
      · subst e; rw [← HX.out, Ne, HE.out]; rintro ⟨h1, h2⟩; rw [← hb1, ← hb2, decide_eq_true h1, decide_eq_true h2] at h; cases h
      · exact hno.out i hi (by omega)
    clear HE HG
    cases b1
    · cases b2
      · go_wp2
        refine wp_region_held_drew (S := fun w' => Below wr.heap.size wr w' ∧ w'.cell? ⟨bb, oo + j * 5 + 1, none⟩ = some (.int .u32 (t : Int)) ∧ w'.cell? ⟨bb, oo + j * 5 + 2, none⟩ = some (.int .u8 (r : Int)) ∧ w'.cell? ⟨w.heap.size, 0, none⟩ = some (.int .u32 (ta : Int)) ∧ w'.cell? ⟨w.heap.size, 1, none⟩ = some (.int .u8 (ra : Int))) (by kernel_rfl) (SK.out _ (drew1 _)) (fun hHeld => ?_)
        refine wpAnyH_take (i := 0) (v := ?va0) rfl (by kernel_rfl) (by kernel_rfl) (by kernel_rfl) (fun _ _ _ h => h) (Or.inl ⟨by rfl, ?ya0⟩) (by assumption) ?_
        case ya0 => intro w hSw; (try dsimp only at hSw); go_simp <;> with_reducible rfl
        try simp only [List.getElem_toArray, List.getElem_cons_zero, Act.put, List.setIfInBounds_toArray, List.set_cons_zero, List.set_cons_succ]
        refine wpAnyH_take (i := 1) (v := ?va1) rfl (by kernel_rfl) (by kernel_rfl) (by kernel_rfl) (fun _ _ _ h => h) (Or.inl ⟨by rfl, ?ya1⟩) (by assumption) ?_
        case ya1 => intro w hSw; (try dsimp only at hSw); go_simp <;> with_reducible rfl
        try simp only [List.getElem_toArray, List.getElem_cons_succ, List.getElem_cons_zero, Act.put, List.setIfInBounds_toArray, List.set_cons_zero, List.set_cons_succ]
        refine wpAnyH_take (i := 2) (v := ?va2) rfl (by kernel_rfl) (by kernel_rfl) (by kernel_rfl) (fun _ _ _ h => h) (Or.inl ⟨by rfl, ?ya2⟩) (by assumption) ?_
        case ya2 => intro w hSw; (try dsimp only at hSw); go_simp <;> with_reducible rfl
        try simp only [List.getElem_toArray, List.getElem_cons_succ, List.getElem_cons_zero, Act.put, List.setIfInBounds_toArray, List.set_cons_zero, List.set_cons_succ]
        refine wpAnyH_take (i := 3) (v := ?va3) rfl (by kernel_rfl) (by kernel_rfl) (by kernel_rfl) (fun _ _ _ h => h) (Or.inl ⟨by rfl, ?ya3⟩) (by assumption) ?_
        case ya3 => intro w hSw; (try dsimp only at hSw); go_simp <;> with_reducible rfl
        try simp only [List.getElem_toArray, List.getElem_cons_succ, List.getElem_cons_zero, Act.put, List.setIfInBounds_toArray, List.set_cons_zero, List.set_cons_succ]
        refine wpAnyH_take (i := 4) (v := ?va4) rfl (by kernel_rfl) (by kernel_rfl) (by kernel_rfl) (fun _ _ _ h => h) (Or.inl ⟨by rfl, ?ya4⟩) (by assumption) ?_
        case ya4 => intro w hSw; (try dsimp only at hSw); go_simp <;> with_reducible rfl
        try simp only [List.getElem_toArray, List.getElem_cons_succ, List.getElem_cons_zero, Act.put, List.setIfInBounds_toArray, List.set_cons_zero, List.set_cons_succ]
        refine wpAnyH_take (i := 5) (v := ?va5) rfl (by kernel_rfl) (by kernel_rfl) (by kernel_rfl) (fun _ _ _ h => h) (Or.inl ⟨by rfl, ?ya5⟩) (by assumption) ?_
        case ya5 => intro w hSw; (try dsimp only at hSw); go_simp <;> with_reducible rfl
        try simp only [List.getElem_toArray, List.getElem_cons_succ, List.getElem_cons_zero, Act.put, List.setIfInBounds_toArray, List.set_cons_zero, List.set_cons_succ]
        refine wpAnyH_take (i := 6) (v := ?va6) rfl (by kernel_rfl) (by kernel_rfl) (by kernel_rfl) (fun _ _ _ h => h) (Or.inl ⟨by rfl, ?ya6⟩) (by assumption) ?_
        case ya6 => intro w hSw; (try dsimp only at hSw); go_simp <;> with_reducible rfl
        try simp only [List.getElem_toArray, List.getElem_cons_succ, List.getElem_cons_zero, Act.put, List.setIfInBounds_toArray, List.set_cons_zero, List.set_cons_succ]
        refine wpAnyH_done (by kernel_rfl) ?_ _
        have NJ := Lib.hid (HNM.out rfl)
        go_wp2
        go_roundw
        case rel => exact ⟨j + 1, by omega, by go_num, NJ, Lib.hid (bt hbel.out hHeld.1)⟩
        case measure => simp [intOf]; omega
      · go_wp2
        refine wp_region_held_drew (S := fun w' => Below wr.heap.size wr w' ∧ w'.cell? ⟨bb, oo + j * 5 + 1, none⟩ = some (.int .u32 (t : Int)) ∧ w'.cell? ⟨bb, oo + j * 5 + 2, none⟩ = some (.int .u8 (r : Int)) ∧ w'.cell? ⟨w.heap.size, 0, none⟩ = some (.int .u32 (ta : Int)) ∧ w'.cell? ⟨w.heap.size, 1, none⟩ = some (.int .u8 (ra : Int))) (by kernel_rfl) (SK.out _ (drew1 _)) (fun hHeld => ?_)
        refine wpAnyH_take (i := 0) (v := ?vb0) rfl (by kernel_rfl) (by kernel_rfl) (by kernel_rfl) (fun _ _ _ h => h) (Or.inl ⟨by rfl, ?yb0⟩) (by assumption) ?_
        case yb0 => intro w hSw; (try dsimp only at hSw); go_simp <;> with_reducible rfl
        try simp only [List.getElem_toArray, List.getElem_cons_zero, Act.put, List.setIfInBounds_toArray, List.set_cons_zero, List.set_cons_succ]
        refine wpAnyH_take (i := 1) (v := ?vb1) rfl (by kernel_rfl) (by kernel_rfl) (by kernel_rfl) (fun _ _ _ h => h) (Or.inl ⟨by rfl, ?yb1⟩) (by assumption) ?_
        case yb1 => intro w hSw; (try dsimp only at hSw); go_simp <;> with_reducible rfl
        try simp only [List.getElem_toArray, List.getElem_cons_succ, List.getElem_cons_zero, Act.put, List.setIfInBounds_toArray, List.set_cons_zero, List.set_cons_succ]
        refine wpAnyH_take (i := 2) (v := ?vb2) rfl (by kernel_rfl) (by kernel_rfl) (by kernel_rfl) (fun _ _ _ h => h) (Or.inl ⟨by rfl, ?yb2⟩) (by assumption) ?_
        case yb2 => intro w hSw; (try dsimp only at hSw); go_simp <;> with_reducible rfl
        try simp only [List.getElem_toArray, List.getElem_cons_succ, List.getElem_cons_zero, Act.put, List.setIfInBounds_toArray, List.set_cons_zero, List.set_cons_succ]
        refine wpAnyH_take (i := 3) (v := ?vb3) rfl (by kernel_rfl) (by kernel_rfl) (by kernel_rfl) (fun _ _ _ h => h) (Or.inl ⟨by rfl, ?yb3⟩) (by assumption) ?_
        case yb3 => intro w hSw; (try dsimp only at hSw); go_simp <;> with_reducible rfl
        try simp only [List.getElem_toArray, List.getElem_cons_succ, List.getElem_cons_zero, Act.put, List.setIfInBounds_toArray, List.set_cons_zero, List.set_cons_succ]
        refine wpAnyH_take (i := 4) (v := ?vb4) rfl (by kernel_rfl) (by kernel_rfl) (by kernel_rfl) (fun _ _ _ h => h) (Or.inl ⟨by rfl, ?yb4⟩) (by assumption) ?_
        case yb4 => intro w hSw; (try dsimp only at hSw); go_simp <;> with_reducible rfl
        try simp only [List.getElem_toArray, List.getElem_cons_succ, List.getElem_cons_zero, Act.put, List.setIfInBounds_toArray, List.set_cons_zero, List.set_cons_succ]
        refine wpAnyH_take (i := 5) (v := ?vb5) rfl (by kernel_rfl) (by kernel_rfl) (by kernel_rfl) (fun _ _ _ h => h) (Or.inl ⟨by rfl, ?yb5⟩) (by assumption) ?_
        case yb5 => intro w hSw; (try dsimp only at hSw); go_simp <;> with_reducible rfl
        try simp only [List.getElem_toArray, List.getElem_cons_succ, List.getElem_cons_zero, Act.put, List.setIfInBounds_toArray, List.set_cons_zero, List.set_cons_succ]
        refine wpAnyH_take (i := 6) (v := ?vb6) rfl (by kernel_rfl) (by kernel_rfl) (by kernel_rfl) (fun _ _ _ h => h) (Or.inl ⟨by rfl, ?yb6⟩) (by assumption) ?_
        case yb6 => intro w hSw; (try dsimp only at hSw); go_simp <;> with_reducible rfl
        try simp only [List.getElem_toArray, List.getElem_cons_succ, List.getElem_cons_zero, Act.put, List.setIfInBounds_toArray, List.set_cons_zero, List.set_cons_succ]
        refine wpAnyH_done (by kernel_rfl) ?_ _
        have NJ := Lib.hid (HNM.out rfl)
        go_wp2
        go_roundw
        case rel => exact ⟨j + 1, by omega, by go_num, NJ, Lib.hid (bt hbel.out hHeld.1)⟩
        case measure => simp [intOf]; omega
    · cases b2
      · go_wp2
        refine wp_region_held_drew (S := fun w' => Below wr.heap.size wr w' ∧ w'.cell? ⟨bb, oo + j * 5 + 1, none⟩ = some (.int .u32 (t : Int)) ∧ w'.cell? ⟨bb, oo + j * 5 + 2, none⟩ = some (.int .u8 (r : Int)) ∧ w'.cell? ⟨w.heap.size, 0, none⟩ = some (.int .u32 (ta : Int)) ∧ w'.cell? ⟨w.heap.size, 1, none⟩ = some (.int .u8 (ra : Int))) (by kernel_rfl) (SK.out _ (drew1 _)) (fun hHeld => ?_)
        refine wpAnyH_take (i := 0) (v := ?vc0) rfl (by kernel_rfl) (by kernel_rfl) (by kernel_rfl) (fun _ _ _ h => h) (Or.inl ⟨by rfl, ?yc0⟩) (by assumption) ?_
        case yc0 => intro w hSw; (try dsimp only at hSw); go_simp <;> with_reducible rfl
        try simp only [List.getElem_toArray, List.getElem_cons_zero, Act.put, List.setIfInBounds_toArray, List.set_cons_zero, List.set_cons_succ]
        refine wpAnyH_take (i := 1) (v := ?vc1) rfl (by kernel_rfl) (by kernel_rfl) (by kernel_rfl) (fun _ _ _ h => h) (Or.inl ⟨by rfl, ?yc1⟩) (by assumption) ?_
        case yc1 => intro w hSw; (try dsimp only at hSw); go_simp <;> with_reducible rfl
        try simp only [List.getElem_toArray, List.getElem_cons_succ, List.getElem_cons_zero, Act.put, List.setIfInBounds_toArray, List.set_cons_zero, List.set_cons_succ]
        refine wpAnyH_take (i := 2) (v := ?vc2) rfl (by kernel_rfl) (by kernel_rfl) (by kernel_rfl) (fun _ _ _ h => h) (Or.inl ⟨by rfl, ?yc2⟩) (by assumption) ?_
        case yc2 => intro w hSw; (try dsimp only at hSw); go_simp <;> with_reducible rfl
        try simp only [List.getElem_toArray, List.getElem_cons_succ, List.getElem_cons_zero, Act.put, List.setIfInBounds_toArray, List.set_cons_zero, List.set_cons_succ]
        refine wpAnyH_take (i := 3) (v := ?vc3) rfl (by kernel_rfl) (by kernel_rfl) (by kernel_rfl) (fun _ _ _ h => h) (Or.inl ⟨by rfl, ?yc3⟩) (by assumption) ?_
        case yc3 => intro w hSw; (try dsimp only at hSw); go_simp <;> with_reducible rfl
        try simp only [List.getElem_toArray, List.getElem_cons_succ, List.getElem_cons_zero, Act.put, List.setIfInBounds_toArray, List.set_cons_zero, List.set_cons_succ]
        refine wpAnyH_take (i := 4) (v := ?vc4) rfl (by kernel_rfl) (by kernel_rfl) (by kernel_rfl) (fun _ _ _ h => h) (Or.inl ⟨by rfl, ?yc4⟩) (by assumption) ?_
        case yc4 => intro w hSw; (try dsimp only at hSw); go_simp <;> with_reducible rfl
        try simp only [List.getElem_toArray, List.getElem_cons_succ, List.getElem_cons_zero, Act.put, List.setIfInBounds_toArray, List.set_cons_zero, List.set_cons_succ]
        refine wpAnyH_take (i := 5) (v := ?vc5) rfl (by kernel_rfl) (by kernel_rfl) (by kernel_rfl) (fun _ _ _ h => h) (Or.inl ⟨by rfl, ?yc5⟩) (by assumption) ?_
        case yc5 => intro w hSw; (try dsimp only at hSw); go_simp <;> with_reducible rfl
        try simp only [List.getElem_toArray, List.getElem_cons_succ, List.getElem_cons_zero, Act.put, List.setIfInBounds_toArray, List.set_cons_zero, List.set_cons_succ]
        refine wpAnyH_take (i := 6) (v := ?vc6) rfl (by kernel_rfl) (by kernel_rfl) (by kernel_rfl) (fun _ _ _ h => h) (Or.inl ⟨by rfl, ?yc6⟩) (by assumption) ?_
        case yc6 => intro w hSw; (try dsimp only at hSw); go_simp <;> with_reducible rfl
        try simp only [List.getElem_toArray, List.getElem_cons_succ, List.getElem_cons_zero, Act.put, List.setIfInBounds_toArray, List.set_cons_zero, List.set_cons_succ]
        refine wpAnyH_done (by kernel_rfl) ?_ _
        have NJ := Lib.hid (HNM.out rfl)
        go_wp2
        go_roundw
        case rel => exact ⟨j + 1, by omega, by go_num, NJ, Lib.hid (bt hbel.out hHeld.1)⟩
        case measure => simp [intOf]; omega
      · obtain rfl := HM.out rfl
        go_wp2
        refine wp_region_held_drew (S := fun w' => Below wr.heap.size wr w' ∧ w'.cell? ⟨bb, oo + j * 5 + 1, none⟩ = some (.int .u32 (t : Int)) ∧ w'.cell? ⟨bb, oo + j * 5 + 2, none⟩ = some (.int .u8 (r : Int)) ∧ w'.cell? ⟨w.heap.size, 0, none⟩ = some (.int .u32 (ta : Int)) ∧ w'.cell? ⟨w.heap.size, 1, none⟩ = some (.int .u8 (ra : Int))) (by kernel_rfl) (SK.out _ (drew1 _)) (fun hHeld => ?_)
        refine wpAnyH_take (i := 0) (v := ?vd0) rfl (by kernel_rfl) (by kernel_rfl) (by kernel_rfl) (fun _ _ _ h => h) (Or.inl ⟨by rfl, ?yd0⟩) (by assumption) ?_
        case yd0 => intro w hSw; (try dsimp only at hSw); go_simp <;> with_reducible rfl
        try simp only [List.getElem_toArray, List.getElem_cons_zero, Act.put, List.setIfInBounds_toArray, List.set_cons_zero, List.set_cons_succ]
        refine wpAnyH_take (i := 1) (v := ?vd1) rfl (by kernel_rfl) (by kernel_rfl) (by kernel_rfl) (fun _ _ _ h => h) (Or.inl ⟨by rfl, ?yd1⟩) (by assumption) ?_
        case yd1 => intro w hSw; (try dsimp only at hSw); go_simp <;> with_reducible rfl
        try simp only [List.getElem_toArray, List.getElem_cons_succ, List.getElem_cons_zero, Act.put, List.setIfInBounds_toArray, List.set_cons_zero, List.set_cons_succ]
        refine wpAnyH_take (i := 2) (v := ?vd2) rfl (by kernel_rfl) (by kernel_rfl) (by kernel_rfl) (fun _ _ _ h => h) (Or.inl ⟨by rfl, ?yd2⟩) (by assumption) ?_
        case yd2 => intro w hSw; (try dsimp only at hSw); go_simp <;> with_reducible rfl
        try simp only [List.getElem_toArray, List.getElem_cons_succ, List.getElem_cons_zero, Act.put, List.setIfInBounds_toArray, List.set_cons_zero, List.set_cons_succ]
        refine wpAnyH_take (i := 3) (v := ?vd3) rfl (by kernel_rfl) (by kernel_rfl) (by kernel_rfl) (fun _ _ _ h => h) (Or.inl ⟨by rfl, ?yd3⟩) (by assumption) ?_
        case yd3 => intro w hSw; (try dsimp only at hSw); go_simp <;> with_reducible rfl
        try simp only [List.getElem_toArray, List.getElem_cons_succ, List.getElem_cons_zero, Act.put, List.setIfInBounds_toArray, List.set_cons_zero, List.set_cons_succ]
        refine wpAnyH_take (i := 4) (v := ?vd4) rfl (by kernel_rfl) (by kernel_rfl) (by kernel_rfl) (fun _ _ _ h => h) (Or.inl ⟨by rfl, ?yd4⟩) (by assumption) ?_
        case yd4 => intro w hSw; (try dsimp only at hSw); go_simp <;> with_reducible rfl
        try simp only [List.getElem_toArray, List.getElem_cons_succ, List.getElem_cons_zero, Act.put, List.setIfInBounds_toArray, List.set_cons_zero, List.set_cons_succ]
        refine wpAnyH_take (i := 5) (v := ?vd5) rfl (by kernel_rfl) (by kernel_rfl) (by kernel_rfl) (fun _ _ _ h => h) (Or.inl ⟨by rfl, ?yd5⟩) (by assumption) ?_
        case yd5 => intro w hSw; (try dsimp only at hSw); go_simp <;> with_reducible rfl
        try simp only [List.getElem_toArray, List.getElem_cons_succ, List.getElem_cons_zero, Act.put, List.setIfInBounds_toArray, List.set_cons_zero, List.set_cons_succ]
        refine wpAnyH_take (i := 6) (v := ?vd6) rfl (by kernel_rfl) (by kernel_rfl) (by kernel_rfl) (fun _ _ _ h => h) (Or.inl ⟨by rfl, ?yd6⟩) (by assumption) ?_
        case yd6 => intro w hSw; (try dsimp only at hSw); go_simp <;> with_reducible rfl
        try simp only [List.getElem_toArray, List.getElem_cons_succ, List.getElem_cons_zero, Act.put, List.setIfInBounds_toArray, List.set_cons_zero, List.set_cons_succ]
        refine wpAnyH_done (by kernel_rfl) ?_ _
        have XO3 := Lib.hid (blk_below hHeld.1 XO2.out)
        have F3 := (F1.out.keeps hHeld.1).2
        have B3 := Lib.hid (bt BW.out hHeld.1)
        clear hHeld
        generalize wr.drew = we at XO3 F3 B3 ⊢
        obtain ⟨F30, F31, F32, F33, F34⟩ := F3
        obtain ⟨x0, x1, x2, x3, x4⟩ := cells5 XO3.out
        have f0 : ∀ o, we.frozen? ⟨w.heap.size + 1, o, none⟩ = false := fun o => free5 XO3.out o
        go_wp2_with fail
        obtain ⟨WF, hWF⟩ : ∃ WF, WF = put5 we (w.heap.size + 1) (.int .u8 (k : Int)) (.int .u32 (t : Int)) (.int .u8 (r : Int)) (.slice uo nu uc) (.int .i64 p) := ⟨_, rfl⟩
        have HF := put5_same (.int .u8 (k : Int)) (.int .u32 (t : Int)) (.int .u8 (r : Int)) (.slice uo nu uc) (.int .i64 p) XO3.out
        have BF := put5_below (.int .u8 (k : Int)) (.int .u32 (t : Int)) (.int .u8 (r : Int)) (.slice uo nu uc) (.int .i64 p) (show w.heap.size ≤ w.heap.size + 1 by omega) B3.out
        rw [← hWF] at HF BF
        unfold put5 at hWF
        rw [← hWF]
        obtain ⟨e0, e1, e2, e3, e4⟩ := cells5 HF
        refine bodyPost_ret (v := .tuple #[.agg #[.int .u8 (k : Int), .int .u32 (t : Int), .int .u8 (r : Int), .slice uo nu uc, .int .i64 p], .bool true]) (by simp [results, Tryz.results136, go_sem, e0, e1, e2, e3, e4]) rfl ⟨.slice uo nu uc, ?_, ?_, BF⟩
        · rw [HFV.out, HX.out]; rfl
        · intro W hb h
          have := HRU.out W hb h
          rw [HX.out] at this
          exact this

theorem refHasO_any {v : Value} {l : List Opn} (a : Id) {w : World} (hv : OpL w v l) :
    Calls Tryz.prog 117 #[v, .agg #[.int .u32 (a.t : Int), .int .u8 (a.r : Int)]] w fun e w' => e = .returned (.bool (hasO l a)) ∧ Below w.heap.size w w' := by
  have C : Hid (∀ W : World, Below w.heap.size w W → Calls Tryz.prog 136 #[v, .agg #[.int .u32 (a.t : Int), .int .u8 (a.r : Int)]] W (FoundO (findO l a) v l W)) := fun W h => refOfO_any a (hv.keeps h)
  have HVV : Hid (∀ W : World, Below w.heap.size w W → OpL W v l) := fun W h => hv.keeps h
  unfold hasO
  obtain ⟨q, hq⟩ : ∃ q, findO l a = q := ⟨_, rfl⟩
  rw [hq] at C ⊢
  obtain ⟨ta, ra, hta, hra⟩ := a
  simp only at C ⊢
  have B0 : Hid (Below w.heap.size w (w.alloc (.cells #[.int .u32 (ta : Int), .int .u8 (ra : Int)] 28))) := (Below.refl _ _).alloc (Nat.le_refl _) _
  clear hv hq
  go_enter Tryz.func117, Tryz.ntmps117
  go_wp2_with fail
  refine (C.out _ B0.out).mono ?_
  rintro e w1 ⟨v1, rfl, r1, b1⟩
  have B1 := Lib.hid (bt B0.out b1)
  obtain ⟨uo, uc, rfl⟩ := (r1 _ (Below.refl _ _) (HVV.out _ B0.out)).shape
  generalize (q.getD zop).pl.length = nu
  clear r1 b1
  unfold opv
  go_wp2
  go_ret
  exact ⟨rfl, B1.out.alloc B1.out.size _⟩
end Go.Proofs.YtdackenaknieaaaGreat.Bags

/- Rows of the call's own whose elements may hold slices that were there ahead of it; append of one. Conditions: none. -/
namespace Go.Proofs.YtdackenaknieaaaGreat
open Go.RowKit Go.WideShapes

/-- A row of the call's own (since the world w0), what its elements hold lies in w0. -/
def Shr {α : Type} (E : Enc α) (te : TypeId) (w0 w : World) (v : Value) (l : List α) : Prop := ∃ cs, w.ownsRow w0.heap.size te E.sz v l.length cs ∧ E.rows w0 cs l
theorem Shr.nil {α : Type} (E : Enc α) (te : TypeId) (w0 w : World) : Shr E te w0 w (.slice none 0 0) [] := ⟨[], World.ownsRow_nil _ _ _ _, rfl⟩
theorem Shr.keeps {α : Type} {E : Enc α} {te : TypeId} {w0 w w' : World} {v : Value} {l : List α} (h : Shr E te w0 w v l) (hb : Below w.heap.size w w') : Shr E te w0 w' v l := by
  obtain ⟨cs, h1, h2⟩ := h
  exact ⟨cs, own_stays h1 hb, h2⟩
theorem Shr.seq {α : Type} {E : Enc α} {te : TypeId} {w0 w : World} {v : Value} {l : List α} (h : Shr E te w0 w v l) (hb : Below w0.heap.size w0 w) : Seq E w v l := by
  obtain ⟨cs, h1, h2⟩ := h
  exact ⟨cs, Sees.own h1, Enc.rows_keep hb h2⟩
theorem Shr.shape {α : Type} {E : Enc α} {te : TypeId} {w0 w : World} {v : Value} {l : List α} (h : Shr E te w0 w v l) : ∃ ao cap, v = .slice ao l.length cap := by
  obtain ⟨cs, h1, _⟩ := h; exact Sees.shape (Sees.own h1)

theorem wpList_append_enc {α : Type} {E : Enc α} {ts te : TypeId} (ht : Tryz.prog.underlying ts = some (.slice te)) {z : Value} {bytes : Nat}
    (hi : (Tryz.prog.info? te).map (fun i => (i.zero, i.size, i.bytes)) = some (some z, E.sz, bytes)) (hzs : z.cells.size = E.sz)
    {w0 wp : World} {ops : Array Oper} {rest : List Oper} {o : Oper} {a : Act} {Q : Exit → Act → World → Prop} (hgd : o.guard = none) (s x : Operand)
    (ho : o.op = .call { callee := .builtin .append, args := #[s, x], argTypes := #[ts, ts] }) {v : Value} {L : List α} (hs : a.eval s = v) (hv : Shr E te w0 wp v L)
    {G : Nat} (hx : a.eval x = .slice (some ⟨G, 0, none⟩) 1 1) (hG : wp.heap.size = G) {c : Array Value} {y : α} (hin : E.inn w0 c.toList y) {m : Nat} (hm : m = L.length) (h47 : (m + 1) * bytes ≤ 140737488355328) (hl : m ≤ 1000000000000) (hbase : w0.heap.size ≤ wp.heap.size)
    (h : ∀ v' w', Shr E te w0 w' v' (L ++ [y]) → (∃ ao cap, v' = .slice ao (m + 1) cap) → Below w0.heap.size wp w' → wpList Tryz.prog ops Q rest (a.put o.dst v') w') :
    wpList Tryz.prog ops Q (o :: rest) a (wp.alloc (.cells c te)) := by
  subst hG
  subst hm
  obtain ⟨cs, h1, h2⟩ := hv
  have hlen : c.toList.length = 1 * E.sz := by rw [E.len hin]; omega
  have hse := sees_new wp c.toList E.sz 1 hlen (by omega) te (0, 0)
  rw [Array.toArray_toList] at hse
  have hb := (Below.refl wp.heap.size wp).alloc (Nat.le_refl _) (.cells c te)
  refine wpList_append_sees hgd s x ts te ho ht hi hzs E.pos w0.heap.size v L.length cs hs (own_stays h1 hb) _ 1 c.toList hx hse (E.one hin) h47 (by omega) (Nat.le_trans hbase hb.size) ?_
  intro v' w' o6 _ b6
  refine h v' w' ⟨cs ++ c.toList, by rw [List.length_append]; exact o6, Enc.rows_snoc h2 hin⟩ (Sees.shape (Sees.own o6)) (((Below.refl _ _).alloc hbase _).trans b6)
end Go.Proofs.YtdackenaknieaaaGreat

/- octavoref11.With: what it answers. Conditions: the slice's cells are operations, not too many. -/
namespace Go.Proofs.YtdackenaknieaaaGreat.Bags
open Go.RowKit Go.WideShapes Stamp Go.Proofs.YtdackenaknieaaaGreat.Place Ops Codes
attribute [local go_sem ↓] Go.wp_at_zero Go.wp_at_succ
attribute [local go_sem] yielded_undef

/-- Rows of operations of the call's own, their places shared. -/
abbrev ShrO (w0 w : World) (v : Value) (l : List Opn) : Prop := Shr opE 31 w0 w v l
theorem filter_take {P : Opn → Bool} {l : List Opn} {j : Nat} (h : j < l.length) : (l.take (j + 1)).filter P = (l.take j).filter P ++ (if P (l[j]'h) = true then [l[j]'h] else []) := by
  rw [List.take_succ_eq_append_getElem h, List.filter_append]
  by_cases hp : P (l[j]'h) = true
  · rw [if_pos hp]; simp [hp]
  · rw [if_neg hp]; simp [hp]
theorem filter_take_len {P : Opn → Bool} {l : List Opn} (j : Nat) : ((l.take j).filter P).length ≤ l.length :=
  Nat.le_trans (List.length_filter_le _ _) (by rw [List.length_take]; omega)

end Go.Proofs.YtdackenaknieaaaGreat.Bags

/- octavoref11.Both, Add, Join: what each answers. Conditions: the slices' cells are operations; Both's: not too many. -/
namespace Go.Proofs.YtdackenaknieaaaGreat.Bags
open Go.RowKit Go.WideShapes Stamp Go.Proofs.YtdackenaknieaaaGreat.Place Ops Codes
attribute [local go_sem ↓] Go.wp_at_zero Go.wp_at_succ
attribute [local go_sem] yielded_undef


/-- Operations, and an error. -/
def DoneL (L : List Opn) (x : Int) (w : World) (e : Ending) (w' : World) : Prop := ∃ v, e = .returned (.tuple #[v, .int .i64 x]) ∧ OpL w' v L ∧ Below w.heap.size w w'

end Go.Proofs.YtdackenaknieaaaGreat.Bags

/- Slices of spans: what a slice value holds. Conditions: none. -/
namespace Go.Proofs.YtdackenaknieaaaGreat
open Go.RowKit Go.WideShapes Spans

/-- Spans as cells. -/
def sps : List Sp → List Value
  | [] => []
  | a :: l => .int .u32 (a.f : Int) :: .int .u32 (a.t : Int) :: sps l
theorem sps_len : ∀ l : List Sp, (sps l).length = l.length * 2
  | [] => rfl
  | a :: l => by simp [sps, sps_len l]; omega
theorem sps_append : ∀ l m : List Sp, sps (l ++ m) = sps l ++ sps m
  | [], m => rfl
  | a :: l, m => by simp [sps, sps_append l m]
theorem sps_get : ∀ (l : List Sp) (j : Nat), j < l.length → (sps l)[j * 2]? = some (.int .u32 ((l.getD j zsp).f : Int)) ∧ (sps l)[j * 2 + 1]? = some (.int .u32 ((l.getD j zsp).t : Int))
  | [], j, h => by simp at h
  | a :: l, 0, _ => by simp [sps]
  | a :: l, j + 1, h => by
    have := sps_get l j (by simpa using h)
    rw [show (j + 1) * 2 = j * 2 + 1 + 1 by omega]
    simpa [sps] using this
theorem sps_oneCell : ∀ l : List Sp, ∀ u ∈ sps l, u.oneCell' = true
  | [], u, h => by simp [sps] at h
  | a :: l, u, h => by
    simp only [sps, List.mem_cons] at h
    rcases h with rfl | rfl | h
    · rfl
    · rfl
    · exact sps_oneCell l u h
/-- A slice of spans. -/
def Sps (w : World) (v : Value) (l : List Sp) : Prop := Sees w v 2 l.length (sps l)
theorem Sps.keeps {w w' : World} {v : Value} {l : List Sp} (h : Sps w v l) (hb : Below w.heap.size w w') : Sps w' v l := Sees.keeps h hb
theorem Sps.nil (w : World) : Sps w (.slice none 0 0) [] := Sees.nil w 2
theorem Sps.shape {w : World} {v : Value} {l : List Sp} (h : Sps w v l) : ∃ ao cap, v = .slice ao l.length cap := Sees.shape h
theorem Sps.at {w : World} {ao : Option Addr} {m cap : Nat} {l : List Sp} (h : Sps w (.slice ao m cap) l) (k : Nat) (hk : k < l.length) :
    ∃ b off, ao = some ⟨b, off, none⟩ ∧ b < w.heap.size ∧ w.cell? ⟨b, off + k * 2, none⟩ = some (.int .u32 ((l.getD k zsp).f : Int)) ∧ w.cell? ⟨b, off + k * 2 + 1, none⟩ = some (.int .u32 ((l.getD k zsp).t : Int)) := by
  obtain ⟨b, off, h1, h2, h3⟩ := Sees.at h (k * 2) (by rw [sps_len]; omega)
  have e := sps_get l k hk
  exact ⟨b, off, h1, h2, (h3 (k * 2) (by rw [sps_len]; omega)).trans e.1, (h3 (k * 2 + 1) (by rw [sps_len]; omega)).trans e.2⟩
theorem Sps.own {w : World} {base : Nat} {e : TypeId} {v : Value} {n : Nat} {l : List Sp} (h : w.ownsRow base e 2 v n (sps l)) : Sps w v l := by
  have h1 := h.1
  rw [sps_len] at h1
  obtain rfl : l.length = n := by omega
  exact Sees.own h
theorem span_info : (Tryz.prog.info? 102).map (fun i => (i.zero, i.size, i.bytes)) = some (some (.agg #[.int .u32 0, .int .u32 0]), 2, 8) := by kernel_rfl
end Go.Proofs.YtdackenaknieaaaGreat

/- Slices of a replica and its spans: what a slice value holds, a slice of spans in each element. Conditions: none. -/
namespace Go.Proofs.YtdackenaknieaaaGreat
open Go.RowKit Go.WideShapes Spans Clocks

/-- The cells hold the clock: a replica, and what reads as its spans. -/
def Hold (w : World) : List Value → List Tm → Prop
  | [], [] => True
  | a :: b :: cs, x :: c => a = .int .u8 (x.1 : Int) ∧ x.1 < 256 ∧ Sps w b x.2 ∧ Hold w cs c
  | _, _ => False
theorem Hold.len : ∀ {w : World} {cs : List Value} {c : List Tm}, Hold w cs c → cs.length = c.length * 2
  | _, [], [], _ => rfl
  | w, a :: b :: cs, x :: c, h => by have := Hold.len h.2.2.2; simp; omega
theorem Hold.keeps : ∀ {w w' : World} {cs : List Value} {c : List Tm}, Hold w cs c → Below w.heap.size w w' → Hold w' cs c
  | _, _, [], [], _, _ => trivial
  | _, _, _ :: _ :: _, _ :: _, h, hb => ⟨h.1, h.2.1, h.2.2.1.keeps hb, Hold.keeps h.2.2.2 hb⟩
theorem Hold.append : ∀ {w : World} {cs ds : List Value} {c d : List Tm}, Hold w cs c → Hold w ds d → Hold w (cs ++ ds) (c ++ d)
  | _, [], _, [], _, _, h => h
  | _, _ :: _ :: _, _, _ :: _, _, h, h2 => ⟨h.1, h.2.1, h.2.2.1, Hold.append h.2.2.2 h2⟩
theorem Hold.one {w : World} {u : Value} {x : Tm} (hr : x.1 < 256) (hu : Sps w u x.2) : Hold w [.int .u8 (x.1 : Int), u] [x] := ⟨rfl, hr, hu, trivial⟩
theorem Hold.get : ∀ {w : World} {cs : List Value} {c : List Tm} (k : Nat), Hold w cs c → k < c.length →
    cs[k * 2]? = some (.int .u8 ((c.getD k (0, [])).1 : Int)) ∧ (c.getD k (0, [])).1 < 256 ∧ ∃ u, cs[k * 2 + 1]? = some u ∧ Sps w u (c.getD k (0, [])).2
  | _, _, [], _, _, hk => by simp at hk
  | _, [], _ :: _, _, h, _ => by simp [Hold] at h
  | _, [_], _ :: _, _, h, _ => by simp [Hold] at h
  | w, a :: b :: cs, x :: c, 0, h, _ => by
    obtain ⟨rfl, h1, h2, _⟩ := h
    exact ⟨by simp, by simpa using h1, b, by simp, by simpa using h2⟩
  | w, a :: b :: cs, x :: c, k + 1, h, hk => by
    have := Hold.get k h.2.2.2 (by simpa using hk)
    rw [show (k + 1) * 2 = k * 2 + 1 + 1 by omega]
    simpa using this
/-- A slice of replicas' spans. -/
def Tms (w : World) (v : Value) (c : List Tm) : Prop := ∃ cs, Sees w v 2 c.length cs ∧ Hold w cs c
theorem Tms.keeps {w w' : World} {v : Value} {c : List Tm} (h : Tms w v c) (hb : Below w.heap.size w w') : Tms w' v c := by
  obtain ⟨cs, h1, h2⟩ := h
  exact ⟨cs, h1.keeps hb, h2.keeps hb⟩
theorem Tms.nil (w : World) : Tms w (.slice none 0 0) [] := ⟨[], Sees.nil w 2, trivial⟩
theorem Tms.shape {w : World} {v : Value} {c : List Tm} (h : Tms w v c) : ∃ ao cap, v = .slice ao c.length cap := by
  obtain ⟨cs, h1, _⟩ := h
  exact Sees.shape h1
theorem Tms.max {w : World} {v : Value} {c : List Tm} (h : Tms w v c) : c.length ≤ 9223372036854775807 := by
  obtain ⟨cs, h1, _⟩ := h
  exact Sees.max h1
theorem Tms.at {w : World} {ao : Option Addr} {m cap : Nat} {c : List Tm} (h : Tms w (.slice ao m cap) c) (k : Nat) (hk : k < c.length) :
    ∃ b off u, ao = some ⟨b, off, none⟩ ∧ b < w.heap.size ∧ w.cell? ⟨b, off + k * 2, none⟩ = some (.int .u8 ((c.getD k (0, [])).1 : Int)) ∧ w.cell? ⟨b, off + k * 2 + 1, none⟩ = some u ∧
      (c.getD k (0, [])).1 < 256 ∧ Sps w u (c.getD k (0, [])).2 := by
  obtain ⟨cs, h1, h2⟩ := h
  have hl := h2.len
  obtain ⟨b, off, e1, e2, e3⟩ := Sees.at h1 (k * 2) (by omega)
  obtain ⟨g1, g2, u, g3, g4⟩ := h2.get k hk
  exact ⟨b, off, u, e1, e2, (e3 (k * 2) (by omega)).trans g1, (e3 (k * 2 + 1) (by omega)).trans g3, g2, g4⟩

/-- The same, and each element's spans are of the call's own. -/
def HoldO (w : World) (base : Nat) : List Value → List Tm → Prop
  | [], [] => True
  | a :: b :: cs, x :: c => a = .int .u8 (x.1 : Int) ∧ x.1 < 256 ∧ w.ownsRow base 102 2 b x.2.length (sps x.2) ∧ HoldO w base cs c
  | _, _ => False
theorem HoldO.hold : ∀ {w : World} {base : Nat} {cs : List Value} {c : List Tm}, HoldO w base cs c → Hold w cs c
  | _, _, [], [], _ => trivial
  | _, _, _ :: _ :: _, _ :: _, h => ⟨h.1, h.2.1, Sps.own h.2.2.1, HoldO.hold h.2.2.2⟩
theorem HoldO.keeps : ∀ {w w' : World} {base : Nat} {cs : List Value} {c : List Tm}, HoldO w base cs c → Below w.heap.size w w' → HoldO w' base cs c
  | _, _, _, [], [], _, _ => trivial
  | _, _, _, _ :: _ :: _, _ :: _, h, hb => ⟨h.1, h.2.1, own_stays h.2.2.1 hb, HoldO.keeps h.2.2.2 hb⟩
theorem HoldO.append : ∀ {w : World} {base : Nat} {cs ds : List Value} {c d : List Tm}, HoldO w base cs c → HoldO w base ds d → HoldO w base (cs ++ ds) (c ++ d)
  | _, _, [], _, [], _, _, h => h
  | _, _, _ :: _ :: _, _, _ :: _, _, h, h2 => ⟨h.1, h.2.1, h.2.2.1, HoldO.append h.2.2.2 h2⟩
/-- A clock of the call's own, its spans too. -/
def OwnC (w : World) (base : Nat) (v : Value) (c : List Tm) : Prop := ∃ cs, w.ownsRow base 72 2 v c.length cs ∧ HoldO w base cs c
theorem OwnC.tms {w : World} {base : Nat} {v : Value} {c : List Tm} (h : OwnC w base v c) : Tms w v c := by
  obtain ⟨cs, h1, h2⟩ := h
  exact ⟨cs, Sees.own h1, h2.hold⟩
theorem OwnC.keeps {w w' : World} {base : Nat} {v : Value} {c : List Tm} (h : OwnC w base v c) (hb : Below w.heap.size w w') : OwnC w' base v c := by
  obtain ⟨cs, h1, h2⟩ := h
  exact ⟨cs, own_stays h1 hb, h2.keeps hb⟩
theorem times_info : (Tryz.prog.info? 72).map (fun i => (i.zero, i.size, i.bytes)) = some (some (.agg #[.int .u8 0, .slice none 0 0]), 2, 32) := by kernel_rfl
end Go.Proofs.YtdackenaknieaaaGreat

/- octavoref07: Twin, Same, In, Many, May, Check, Has, Count: what each answers. Conditions: the slices' cells are spans. -/
namespace Go.Proofs.YtdackenaknieaaaGreat.Spans
open Go.RowKit
attribute [local go_sem ↓] Go.wp_at_zero Go.wp_at_succ

theorem twin_any {v : Value} {l : List Sp} {w : World} (hv : Sps w v l) (hl : l.length ≤ 1000000) :
    Calls Tryz.prog 154 #[v] w fun e w' => ∃ v', e = .returned v' ∧ w'.ownsRow w.heap.size 102 2 v' l.length (sps l) ∧ Below w.heap.size w w' := by
  obtain ⟨ao, cap, rfl⟩ := hv.shape
  have HV : Hid (Sees w (.slice ao l.length cap) 2 l.length (sps l)) := hv
  have O0 : Hid (w.ownsRow w.heap.size 102 2 (.slice none 0 0) 0 []) := World.ownsRow_nil _ _ _ _
  clear hv
  go_enter Tryz.func154, Tryz.ntmps154
  go_wp2_with (at_builtin; refine wpList_append_sees rfl (.tmp 4) (.tmp 5) 70 102 rfl Tryz.underlying70 span_info rfl (by decide) w.heap.size _ 0 [] rfl O0.out _ l.length _ rfl HV.out (sps_oneCell l) ?k1 ?k2 ?k3 ?_)
  case k1 => omega
  case k2 => omega
  case k3 => simp
  rintro v1 w1 o1 g1 b1
  have HO : Hid (w1.ownsRow w.heap.size 102 2 v1 l.length (sps l)) := o1
  have HB := Lib.hid b1
  clear o1 g1 b1
  go_wp2
  go_ret
  exact ⟨_, rfl, HO.out, HB.out⟩

theorem sps_ne : ∀ {a b : List Sp}, a.length = b.length → a ≠ b → ∃ k, k < a.length ∧ a.getD k zsp ≠ b.getD k zsp
  | [], [], _, h => absurd rfl h
  | x :: a, y :: b, hl, h => by
    by_cases hxy : x = y
    · subst hxy
      obtain ⟨k, h1, h2⟩ := sps_ne (a := a) (b := b) (by simpa using hl) (fun e => h (by rw [e]))
      exact ⟨k + 1, by simpa using h1, by simpa using h2⟩
    · exact ⟨0, by simp, by simpa using hxy⟩
  | [], _ :: _, hl, _ => by simp at hl
  | _ :: _, [], hl, _ => by simp at hl

set_option maxHeartbeats 1000000 in
theorem same_yes_drawn {a b : Value} {l : List Sp} {w : World} (ha : Sps w a l) (hb : Sps w b l) :
    Calls Tryz.prog 46 #[a, b] w fun e w' => e = .returned (.bool true) ∧ ∃ m, w' = w.drewN m := by
  obtain ⟨ao, ca, rfl⟩ := ha.shape
  obtain ⟨bo, cb, rfl⟩ := hb.shape
  obtain ⟨n, hn⟩ : ∃ n, n = l.length := ⟨_, rfl⟩
  have hm : n ≤ 9223372036854775807 := by rw [hn]; exact Sees.max ha
  have HA := Lib.hid ha
  have HB := Lib.hid hb
  have HN := Lib.hid hn
  rw [← hn]
  clear ha hb hn
  have t1 : ((n : Int) != (n : Int)) = false := by simp
  go_enter Tryz.func46, Tryz.ntmps46
  go_wp2
  go_loopw [5] (fun i wr => ∃ k : Nat, k ≤ n ∧ i = .int .i64 (k : Int) ∧ ∃ q, wr = w.drewN q) (fun i _ => n - (intOf i).toNat)
  case atStart => exact ⟨0, by omega, rfl, 0, rfl⟩
  case round =>
    obtain ⟨k, hk, rfl, q, rfl⟩ := hrel
    by_cases hkn : k < n
    · have q1 : decide (k < n) = true := by simpa using hkn
      obtain ⟨b1, o1, rfl, hb1, ha0, ha1⟩ := HA.out.at k (by rw [← HN.out]; exact hkn)
      obtain ⟨b2, o2, rfl, hb2, hb0, hb1'⟩ := HB.out.at k (by rw [← HN.out]; exact hkn)
      obtain ⟨x, hx⟩ : ∃ x, x = l.getD k zsp := ⟨_, rfl⟩
      rw [← hx] at ha0 ha1 hb0 hb1'
      obtain ⟨xt, xr, _, _⟩ := x
      simp only at ha0 ha1 hb0 hb1'
      have q2 : (0 : Int) ≤ (k : Int) := by omega
      have q3 : (k : Int) < (n : Int) := by omega
      clear hx
      go_wp2
      go_quiet (fail)
      go_wp2
      go_roundw
      case rel => exact ⟨k + 1, by omega, by go_num, _, rfl⟩
      case measure => simp [intOf]; omega
    · have q1 : decide (k < n) = false := by simpa using hkn
      go_wp2
      go_ret
      exact ⟨rfl, _, rfl⟩

set_option maxHeartbeats 1000000 in
theorem same_no_drawn {a b : Value} {l m : List Sp} {w : World} (ha : Sps w a l) (hb : Sps w b m) (hlm : l ≠ m) :
    Calls Tryz.prog 46 #[a, b] w fun e w' => e = .returned (.bool false) ∧ ∃ m, w' = w.drewN m := by
  obtain ⟨ao, ca, rfl⟩ := ha.shape
  obtain ⟨bo, cb, rfl⟩ := hb.shape
  obtain ⟨n, hn⟩ : ∃ n, n = l.length := ⟨_, rfl⟩
  obtain ⟨n2, hn2⟩ : ∃ n, n = m.length := ⟨_, rfl⟩
  have hm : n ≤ 9223372036854775807 := by rw [hn]; exact Sees.max ha
  have HA := Lib.hid ha
  have HB := Lib.hid hb
  have HN := Lib.hid hn
  have HN2 := Lib.hid hn2
  have HL := Lib.hid hlm
  rw [← hn, ← hn2]
  clear ha hb hn hn2 hlm
  by_cases hlen : n = n2
  · subst hlen
    have t1 : ((n : Int) != (n : Int)) = false := by simp
    go_enter Tryz.func46, Tryz.ntmps46
    go_wp2
    go_loopw [5] (fun i wr => ∃ k : Nat, k ≤ n ∧ i = .int .i64 (k : Int) ∧ Hid (∀ j, j < k → l.getD j zsp = m.getD j zsp) ∧ ∃ q, wr = w.drewN q) (fun i _ => n - (intOf i).toNat)
    case atStart => exact ⟨0, by omega, rfl, Lib.hid (by omega), 0, rfl⟩
    case round =>
      obtain ⟨k, hk, rfl, hal, q, rfl⟩ := hrel
      by_cases hkn : k < n
      · have q1 : decide (k < n) = true := by simpa using hkn
        obtain ⟨b1, o1, rfl, hb1, ha0, ha1⟩ := HA.out.at k (by rw [← HN.out]; exact hkn)
        obtain ⟨b2, o2, rfl, hb2, hb0, hb1'⟩ := HB.out.at k (by rw [← HN2.out]; exact hkn)
        obtain ⟨x, hx⟩ : ∃ x, x = l.getD k zsp := ⟨_, rfl⟩
        obtain ⟨y, hy⟩ : ∃ y, y = m.getD k zsp := ⟨_, rfl⟩
        rw [← hx] at ha0 ha1
        rw [← hy] at hb0 hb1'
        have q2 : (0 : Int) ≤ (k : Int) := by omega
        have q3 : (k : Int) < (n : Int) := by omega
        by_cases hxy : x = y
        · have HX := Lib.hid (show l.getD k zsp = m.getD k zsp by rw [← hx, ← hy, hxy])
          subst hxy
          obtain ⟨xt, xr, _, _⟩ := x
          simp only at ha0 ha1 hb0 hb1'
          clear hx hy
          go_wp2
          go_quiet (fail)
          go_wp2
          go_roundw
          case rel =>
            refine ⟨k + 1, by omega, by go_num, Lib.hid (fun j hj => ?_), _, rfl⟩
            by_cases e : j = k
            · rw [e]; exact HX.out
            · exact hal.out j (by omega)
          case measure => simp [intOf]; omega
        · have hparts : ¬ x.f = y.f ∨ (x.f = y.f ∧ ¬ x.t = y.t) := by
            by_cases h1 : x.f = y.f
            · exact .inr ⟨h1, fun h2 => hxy (Sp.ext' h1 h2)⟩
            · exact .inl h1
          obtain ⟨xt, xr, _, _⟩ := x
          obtain ⟨yt, yr, _, _⟩ := y
          simp only at ha0 ha1 hb0 hb1' hparts
          clear hx hy hxy
          rcases hparts with h1 | ⟨rfl, h2⟩
          · go_wp2
            go_quiet (fail)
            go_wp2
            go_ret
            exact ⟨rfl, _, by rw [World.drewN_drewN]⟩
          · have h4 : ((xr : Int) == (yr : Int)) = false := by simp; omega
            have h5 : decide (xr = yr) = false := decide_eq_false h2
            go_wp2
            go_quiet (fail)
            go_wp2
            go_ret
            exact ⟨rfl, _, by rw [World.drewN_drewN]⟩
      · exfalso
        obtain ⟨j, h1, h2⟩ := sps_ne (by rw [← HN.out, ← HN2.out]) HL.out
        exact h2 (hal.out j (by have := HN.out; omega))
  · have t1 : ((n : Int) != (n2 : Int)) = true := by simp; omega
    have t2 : ¬ n = n2 := hlen
    go_enter Tryz.func46, Tryz.ntmps46
    go_wp2
    go_ret
    exact ⟨rfl, 0, rfl⟩
theorem same_yes {a b : Value} {l : List Sp} {w : World} (ha : Sps w a l) (hb : Sps w b l) :
    Calls Tryz.prog 46 #[a, b] w fun e w' => e = .returned (.bool true) ∧ Below w.heap.size w w' :=
  (same_yes_drawn ha hb).mono fun _ _ ⟨he, m, hm⟩ => ⟨he, by rw [hm]; exact below_draw (Below.refl _ _) m⟩
theorem same_no {a b : Value} {l m : List Sp} {w : World} (ha : Sps w a l) (hb : Sps w b m) (hlm : l ≠ m) :
    Calls Tryz.prog 46 #[a, b] w fun e w' => e = .returned (.bool false) ∧ Below w.heap.size w w' :=
  (same_no_drawn ha hb hlm).mono fun _ _ ⟨he, m, hm⟩ => ⟨he, by rw [hm]; exact below_draw (Below.refl _ _) m⟩
theorem refSame_drawn {a b : Value} {l m : List Sp} {w : World} (ha : Sps w a l) (hb : Sps w b m) :
    Calls Tryz.prog 46 #[a, b] w fun e w' => e = .returned (.bool (decide (l = m))) ∧ ∃ k, w' = w.drewN k := by
  by_cases h : l = m
  · subst h
    rw [decide_eq_true rfl]
    exact same_yes_drawn ha hb
  · rw [decide_eq_false h]
    exact same_no_drawn ha hb h
theorem refSame_any {a b : Value} {l m : List Sp} {w : World} (ha : Sps w a l) (hb : Sps w b m) :
    Calls Tryz.prog 46 #[a, b] w fun e w' => e = .returned (.bool (decide (l = m))) ∧ Below w.heap.size w w' := by
  by_cases h : l = m
  · subst h
    rw [decide_eq_true rfl]
    exact same_yes ha hb
  · rw [decide_eq_false h]
    exact same_no ha hb h

end Go.Proofs.YtdackenaknieaaaGreat.Spans

/- octavoref07: Many, May, Check, Has, Count, told: what each answers. Conditions: the slices' cells are spans. -/
namespace Go.Proofs.YtdackenaknieaaaGreat.Spans
open Go.RowKit
attribute [local go_sem ↓] Go.wp_at_zero Go.wp_at_succ

def chk (l : List Sp) : Int := if mayB l = true then 0 else 8
def has (l : List Sp) (t : Nat) : Bool := mayB l && inB l t
def count (l : List Sp) : Nat := if mayB l = true then many l else 0
end Go.Proofs.YtdackenaknieaaaGreat.Spans

/- octavoref08: May, Check, Spans, In, Has, Many, Count, Top: what each answers. Conditions: the slices' cells are replicas' spans. -/
namespace Go.Proofs.YtdackenaknieaaaGreat.Clocks
open Go.RowKit Go.Proofs.YtdackenaknieaaaGreat.Spans
attribute [local go_sem ↓] Go.wp_at_zero Go.wp_at_succ

theorem Tms.drawn {w : World} {v : Value} {c : List Tm} (h : Tms w v c) (n : Nat) : Tms (w.drewN n) v c := h.keeps (below_draw (Below.refl _ _) n)

end Go.Proofs.YtdackenaknieaaaGreat.Clocks

/- octavoref08: Check, Spans, In, Has, Many, Count, Top: what each answers. Conditions: the slices' cells are replicas' spans. -/
namespace Go.Proofs.YtdackenaknieaaaGreat.Clocks
open Go.RowKit Go.Proofs.YtdackenaknieaaaGreat.Spans
attribute [local go_sem ↓] Go.wp_at_zero Go.wp_at_succ

/-- The first one of a replica, or none. -/
theorem spn_find (c : List Tm) (r : Nat) : (∃ k, k < c.length ∧ (∀ j, j < k → (c.getD j ztm).1 ≠ r) ∧ (c.getD k ztm).1 = r) ∨ ∀ j, j < c.length → (c.getD j ztm).1 ≠ r := by
  have go : ∀ n, n ≤ c.length → (∃ k, k < n ∧ (∀ j, j < k → (c.getD j ztm).1 ≠ r) ∧ (c.getD k ztm).1 = r) ∨ ∀ j, j < n → (c.getD j ztm).1 ≠ r := by
    intro n
    induction n with
    | zero => intro _; exact .inr (fun j hj => by omega)
    | succ n ih =>
      intro h
      rcases ih (by omega) with ⟨k, h1, h2, h3⟩ | h1
      · exact .inl ⟨k, by omega, h2, h3⟩
      · by_cases q : (c.getD n ztm).1 = r
        · exact .inl ⟨n, by omega, h1, q⟩
        · refine .inr (fun j hj => ?_)
          by_cases e : j = n
          · rw [e]; exact q
          · exact h1 j (by omega)
  exact go c.length (Nat.le_refl _)

set_option maxRecDepth 100000 in
set_option maxHeartbeats 1000000 in
theorem refSpans_at {v : Value} {c : List Tm} {w : World} (hv : Tms w v c) (r : Nat) :
    ∃ u, Sps w u (spn c r) ∧ ∀ W, Below w.heap.size w W → Calls Tryz.prog 139 #[v, .int .u8 (r : Int)] W fun e w' => e = .returned u ∧ w' = W := by
  obtain ⟨ao, cap, rfl⟩ := hv.shape
  rcases spn_find c r with ⟨K, hK, hmin, hr⟩ | hmiss
  · obtain ⟨b1, o1, u, rfl, hb1, ha0, ha1, _, hsp⟩ := hv.at K hK
    refine ⟨u, by rw [spn_hit hmin hK hr]; exact hsp, fun W hW => ?_⟩
    have hW1 := (hW.cell (p := ⟨b1, o1 + K * 2 + 1, none⟩) hb1).trans ha1
    obtain ⟨so, sc, rfl⟩ := hsp.shape
    have HV := Lib.hid (hv.keeps hW)
    obtain ⟨n, hn⟩ : ∃ n, n = c.length := ⟨_, rfl⟩
    have hm : n ≤ 9223372036854775807 := by rw [hn]; exact Tms.max hv
    have HN := Lib.hid hn
    have HMin := Lib.hid hmin
    have HR := Lib.hid hr
    obtain ⟨sl, hsl⟩ : ∃ sl, sl = (c.getD K (0, [])).2.length := ⟨_, rfl⟩
    rw [← hsl] at hW1 ⊢
    rw [← hn] at hK ⊢
    clear hv hn hW ha0 ha1 hsp hmin hr hsl
    go_enter Tryz.func139, Tryz.ntmps139
    go_wp2
    go_loop [5] (fun i => ∃ k : Nat, k ≤ n ∧ i = .int .i64 (k : Int) ∧ Hid (∀ j, j < k → (c.getD j ztm).1 ≠ r)) (fun i => n - (intOf i).toNat)
    case atStart => exact ⟨0, by omega, rfl, Lib.hid (fun j hj => by omega)⟩
    case round =>
      obtain ⟨k, hk, rfl, hno⟩ := hrel
      have hkK : k ≤ K := by
        by_cases q : k ≤ K
        · exact q
        · exact absurd HR.out (hno.out K (by omega))
      have hkn : k < n := by omega
      have q1 : decide (k < n) = true := by simpa using hkn
      have q2 : (0 : Int) ≤ (k : Int) := by omega
      have q3 : (k : Int) < (n : Int) := by omega
      obtain ⟨b2, o2, u2, he, -, hx0, -, -, -⟩ := HV.out.at k (by rw [← HN.out]; exact hkn)
      obtain ⟨rfl, rfl⟩ : b1 = b2 ∧ o1 = o2 := by simpa using he
      obtain ⟨x, hx⟩ : ∃ x, x = (c.getD k ztm).1 := ⟨_, rfl⟩
      have hx' : (c.getD k (0, [])).1 = x := hx.symm
      rw [hx'] at hx0
      by_cases e : x = r
      · obtain rfl : k = K := by
          by_cases q : k = K
          · exact q
          · exact absurd (hx.symm.trans e) (HMin.out k (by omega))
        subst e
        clear hx hx' he hkK
        have t1 : ((x : Int) == (x : Int)) = true := by simp
        go_wp2
        go_ret
        exact ⟨rfl, rfl⟩
      · have t1 : ((x : Int) == (r : Int)) = false := by rw [beq_eq_false_iff_ne]; omega
        have t2 : decide (x = r) = false := decide_eq_false e
        have HNo : Hid (∀ j, j < k + 1 → (c.getD j ztm).1 ≠ r) := fun j hj => by
          by_cases q : j = k
          · rw [q, ← hx]; exact e
          · exact hno.out j (by omega)
        clear hx hx' he hkK
        go_wp2
        go_round
        case rel => exact ⟨k + 1, by omega, by go_num, HNo⟩
        case measure => simp [intOf]; omega
  · refine ⟨.slice none 0 0, by rw [spn_miss hmiss]; exact Sps.nil w, fun W hW => ?_⟩
    have HV := Lib.hid (hv.keeps hW)
    obtain ⟨n, hn⟩ : ∃ n, n = c.length := ⟨_, rfl⟩
    have hm : n ≤ 9223372036854775807 := by rw [hn]; exact Tms.max hv
    have HN := Lib.hid hn
    have HMiss := Lib.hid hmiss
    rw [← hn]
    clear hv hn hW hmiss
    go_enter Tryz.func139, Tryz.ntmps139
    go_wp2
    go_loop [5] (fun i => ∃ k : Nat, k ≤ n ∧ i = .int .i64 (k : Int)) (fun i => n - (intOf i).toNat)
    case atStart => exact ⟨0, by omega, rfl⟩
    case round =>
      obtain ⟨k, hk, rfl⟩ := hrel
      by_cases hkn : k < n
      · have q1 : decide (k < n) = true := by simpa using hkn
        have q2 : (0 : Int) ≤ (k : Int) := by omega
        have q3 : (k : Int) < (n : Int) := by omega
        obtain ⟨b1, o1, u2, rfl, _, hx0, _, _, _⟩ := HV.out.at k (by rw [← HN.out]; exact hkn)
        have e := HMiss.out k (by rw [← HN.out]; exact hkn)
        obtain ⟨x, hx⟩ : ∃ x, x = (c.getD k ztm).1 := ⟨_, rfl⟩
        have hx' : (c.getD k (0, [])).1 = x := hx.symm
        rw [hx'] at hx0
        rw [← hx] at e
        have t1 : ((x : Int) == (r : Int)) = false := by rw [beq_eq_false_iff_ne]; omega
        have t2 : decide (x = r) = false := decide_eq_false e
        clear hx hx'
        go_wp2
        go_round
        case rel => exact ⟨k + 1, by omega, by go_num⟩
        case measure => simp [intOf]; omega
      · have q1 : decide (k < n) = false := by simpa using hkn
        go_wp2
        go_ret
        exact ⟨rfl, rfl⟩

end Go.Proofs.YtdackenaknieaaaGreat.Clocks

/- octavoref07.Without: what it answers. Conditions: the slice's cells are spans that may be. -/
namespace Go.Proofs.YtdackenaknieaaaGreat.Spans
open Go.RowKit
attribute [local go_sem ↓] Go.wp_at_zero Go.wp_at_succ

theorem two_blk {X : World} {g : Nat} {c0 c1 : Value} {e : TypeId} {fr : Nat × Nat} (h : X.heap[g]? = some (.cells #[c0, c1] e fr)) : X.cell? ⟨g, 0, none⟩ = some c0 ∧ X.cell? ⟨g, 1, none⟩ = some c1 :=
  ⟨cell_of_row _ g 0 #[c0, c1] e _ h, cell_of_row _ g 1 #[c0, c1] e _ h⟩
theorem two_free {X : World} {g : Nat} {c0 c1 : Value} {e : TypeId} (h : X.heap[g]? = some (.cells #[c0, c1] e)) : X.frozen? ⟨g, 0, none⟩ = false ∧ X.frozen? ⟨g, 1, none⟩ = false := by
  constructor <;> simp [World.frozen?, h]
theorem sees_sp {X : World} {g : Nat} {a : Sp} {F T : Int} {e : TypeId} (h : X.heap[g]? = some (.cells #[.int .u32 F, .int .u32 T] e)) (hF : F = (a.f : Int)) (hT : T = (a.t : Int)) : Sees X (.slice (some ⟨g, 0, none⟩) 1 1) 2 1 (sps [a]) := by
  subst hF hT
  refine ⟨rfl, _, _, rfl, Nat.le_refl _, by decide, by simp, .inr ⟨g, 0, rfl, (Array.getElem?_eq_some_iff.1 h).1, fun j u hj => ?_⟩⟩
  rw [cell_of_row X g (0 + j) _ e _ h, Nat.zero_add]
  simpa [sps] using hj
theorem own_base {w : World} {b b' : Nat} {e : TypeId} {v : Value} {sz n : Nat} {cs : List Value} (h : w.ownsRow b e sz v n cs) (hb : b' ≤ b) : w.ownsRow b' e sz v n cs :=
  ⟨h.1, h.2.imp_right fun ⟨g, c, cur, h1, h2, h3⟩ => ⟨g, c, cur, h1, Nat.le_trans hb h2, h3⟩⟩

theorem kb_new {X : World} {g : Nat} {o : Obj} (h : X.heap.size = g) : (X.alloc o).heap[g]? = some o := by
  subst h; exact heap_alloc_new X o
end Go.Proofs.YtdackenaknieaaaGreat.Spans
