/- octavoref11.Of, Has, Find: what each answers. Conditions: the slice's cells are operations. -/
import Derived.Test.YtocjkegkgnbboaaPk08
import Derived.Test.YtocjkegkgnbboaaPk06
import Derived.Test.YtocjkegkgnbboaaPk01

namespace Go.Proofs.Ytocjkegkgnbboaa.Bags
open Go.RowKit Go.WideShapes Stamp Go.Proofs.Ytocjkegkgnbboaa.Place Ops Codes
attribute [local go_sem ↓] Go.wp_at_zero Go.wp_at_succ
attribute [local go_sem] yielded_undef

/-- What is found of a stamp. -/
def FoundO (q : Option Opn) (v0 : Value) (l : List Opn) (w : World) (e : Ending) (w' : World) : Prop := ∃ v, e = .returned (.tuple #[opv (q.getD zop) v, .bool q.isSome]) ∧ (∀ W : World, Below W.heap.size W w → OpL W v0 l → Runs W v (q.getD zop).pl) ∧ Below w.heap.size w w'

set_option maxRecDepth 100000 in
set_option maxHeartbeats 8000000 in
theorem refOfO_any {v : Value} {l : List Opn} (a : Id) {w : World} (hv : OpL w v l) :
    Calls Try.prog 54 #[v, .agg #[.int .u32 (a.t : Int), .int .u8 (a.r : Int)]] w (FoundO (findO l a) v l w) := by
  obtain ⟨ao, cap, rfl⟩ := hv.shape
  obtain ⟨n, hn⟩ : ∃ n, n = l.length := ⟨_, rfl⟩
  have hmx : n ≤ 9223372036854775807 := by rw [hn]; exact hv.max
  have HV : Hid (∀ W : World, Below w.heap.size w W → OpL W (.slice ao l.length cap) l) := fun W h => hv.keeps h
  have HN := Lib.hid hn
  obtain ⟨q, hq⟩ : ∃ q, findO l a = q := ⟨_, rfl⟩
  have HQ : Hid (∀ (k : Nat) (hk : k < l.length), (∀ j (h : j < l.length), j < k → idO (l[j]'h) ≠ a) → idO (l[k]'hk) = a → q = some (l[k]'hk)) := fun k hk h1 h2 => by rw [← hq]; exact findO_at k hk h1 h2
  have HZ : Hid ((∀ j (h : j < l.length), idO (l[j]'h) ≠ a) → q = none) := fun h => by
    rw [← hq]; refine findO_none.2 (fun o ho => ?_)
    obtain ⟨i, hi, rfl⟩ := List.getElem_of_mem ho
    exact h i hi
  rw [hq, ← hn]
  obtain ⟨A, hA⟩ : ∃ A, A = a := ⟨_, rfl⟩
  rw [← hA] at HQ HZ
  have HA : Hid (∀ x : Opn, idO x = A ↔ x.t = a.t ∧ x.r = a.r) := fun x => by rw [hA, Id.eq_iff]; rfl
  obtain ⟨ta, ra, hta, hra⟩ := a
  simp only at HA ⊢
  obtain ⟨wl, hwl⟩ : ∃ x, x = (w.alloc (.cells #[.int .u32 (ta : Int), .int .u8 (ra : Int)] 27)).alloc (.cells #[.int .u8 0, .int .u32 0, .int .u8 0, .slice none 0 0, .int .i64 0] 30) := ⟨_, rfl⟩
  have XI : Hid (wl.heap[w.heap.size]? = some (.cells #[.int .u32 (ta : Int), .int .u8 (ra : Int)] 27)) := by rw [hwl]; exact blk_old (blk_new rfl)
  have XO : Hid (wl.heap[w.heap.size + 1]? = some (.cells #[.int .u8 0, .int .u32 0, .int .u8 0, .slice none 0 0, .int .i64 0] 30)) := by rw [hwl]; exact blk_new (by simp)
  have BL : Hid (Below w.heap.size w wl) := by rw [hwl]; exact ((Below.refl _ _).alloc (Nat.le_refl _) _).alloc (by simp) _
  have B0 : Hid (Below wl.heap.size wl ((w.alloc (.cells #[.int .u32 (ta : Int), .int .u8 (ra : Int)] 27)).alloc (.cells #[.int .u8 0, .int .u32 0, .int .u8 0, .slice none 0 0, .int .i64 0] 30))) := by rw [← hwl]; exact Below.refl _ _
  clear hv hn hq hA hwl
  go_enter Try.func54, Try.ntmps54
  go_wp2
  go_loopw [6] (fun i wr => ∃ j : Nat, j ≤ n ∧ i = .int .i64 (j : Int) ∧ Hid (∀ k (h : k < l.length), k < j → idO (l[k]'h) ≠ A) ∧ Hid (Below wl.heap.size wl wr)) (fun i _ => n - (intOf i).toNat)
  case atStart => exact ⟨0, by omega, rfl, fun k h hk => by omega, B0⟩
  case round =>
    clear B0
    obtain ⟨j, hj, rfl, hno, hbel⟩ := hrel
    have XI2 := Lib.hid (blk_below hbel.out XI.out)
    have XO2 := Lib.hid (blk_below hbel.out XO.out)
    have BW := Lib.hid (bt BL.out hbel.out)
    by_cases hjn : j < n
    rotate_left
    · have q3 : decide (j < n) = false := by simpa using hjn
      obtain rfl := HZ.out (fun i h => hno.out i h (by have := HN.out; omega))
      obtain ⟨x0, x1, x2, x3, x4⟩ := cells5 XO2.out
      have f0 : ∀ o, wr.frozen? ⟨w.heap.size + 1, o, none⟩ = false := fun o => free5 XO2.out o
      go_wp2_with fail
      obtain ⟨WF, hWF⟩ : ∃ WF, WF = put5 wr (w.heap.size + 1) (.int .u8 0) (.int .u32 0) (.int .u8 0) (.slice none 0 0) (.int .i64 0) := ⟨_, rfl⟩
      have HF := put5_same (.int .u8 0) (.int .u32 0) (.int .u8 0) (.slice none 0 0) (.int .i64 0) XO2.out
      have BF := put5_below (.int .u8 0) (.int .u32 0) (.int .u8 0) (.slice none 0 0) (.int .i64 0) (show w.heap.size ≤ w.heap.size + 1 by omega) BW.out
      rw [← hWF] at HF BF
      unfold put5 at hWF
      rw [← hWF]
      obtain ⟨e0, e1, e2, e3, e4⟩ := cells5 HF
      exact bodyPost_ret (v := .tuple #[.agg #[.int .u8 0, .int .u32 0, .int .u8 0, .slice none 0 0, .int .i64 0], .bool false]) (by simp [results, Try.results54, go_sem, e0, e1, e2, e3, e4]) rfl ⟨.slice none 0 0, rfl, fun _ _ _ => Runs.nil _, BF⟩
    have q3 : decide (j < n) = true := by simpa using hjn
    have q4 : (0 : Int) ≤ (j : Int) := by omega
    have q5 : (j : Int) < (n : Int) := by omega
    have hjl : j < l.length := by rw [← HN.out]; exact hjn
    obtain ⟨bb, oo, u, e, hbb, hru, h0, h1, h2, h3, h4⟩ := opl_at (HV.out w (Below.refl _ _)) j hjl
    subst e
    obtain ⟨x, hx⟩ : ∃ x, x = l[j]'hjl := ⟨_, rfl⟩
    rw [← hx] at hru h0 h1 h2 h4
    have HO : Hid (∀ v : Value, opv x v = .agg #[.int .u8 (x.k : Int), .int .u32 (x.t : Int), .int .u8 (x.r : Int), v, .int .i64 x.p]) := fun v => rfl
    obtain ⟨uo, uc, rfl⟩ := hru.shape
    obtain ⟨nu, hnu⟩ : ∃ n, n = x.pl.length := ⟨_, rfl⟩
    have HNU := Lib.hid hnu
    rw [← hnu] at hru h3
    clear hnu
    have HRU : Hid (∀ W : World, Below W.heap.size W w → OpL W (.slice (some ⟨bb, oo, none⟩) n cap) l → Runs W (.slice uo nu uc) x.pl) := fun W hb h => by
      have hn9 := HN.out
      rw [hn9] at h
      obtain ⟨b9, o9, u9, e9, hlt9, hr9, _, _, _, h9, _⟩ := opl_at h j hjl
      cases e9
      have e9 := (hb.cell (p := ⟨bb, oo + j * 5 + 3, none⟩) hlt9).trans h9
      rw [h3] at e9
      cases e9
      rw [hx]; exact hr9
    replace h0 := ((BW.out).cell (p := ⟨bb, oo + j * 5, none⟩) hbb).trans h0
    replace h1 := ((BW.out).cell (p := ⟨bb, oo + j * 5 + 1, none⟩) hbb).trans h1
    replace h2 := ((BW.out).cell (p := ⟨bb, oo + j * 5 + 2, none⟩) hbb).trans h2
    replace h3 := ((BW.out).cell (p := ⟨bb, oo + j * 5 + 3, none⟩) hbb).trans h3
    replace h4 := ((BW.out).cell (p := ⟨bb, oo + j * 5 + 4, none⟩) hbb).trans h4
    have hbo := hbb
    replace hbb := Nat.lt_of_lt_of_le hbb (BW.out).size
    have HX : Hid (x = l[j]'hjl) := hx
    have HE := Lib.hid (HA.out x)
    have HG := Lib.hid (HQ.out j hjl (fun i h hi => hno.out i h hi))
    have hxx := hx
    clear hx hru
    obtain ⟨k, hk⟩ : ∃ z, x.k = z := ⟨_, rfl⟩
    obtain ⟨t, ht⟩ : ∃ z, x.t = z := ⟨_, rfl⟩
    obtain ⟨r, hr⟩ : ∃ z, x.r = z := ⟨_, rfl⟩
    obtain ⟨p, hp⟩ : ∃ z, x.p = z := ⟨_, rfl⟩
    rw [hk, ht, hr, hp] at HO
    rw [hk] at h0
    rw [ht] at h1
    rw [hr] at h2
    rw [hp] at h4
    obtain ⟨f0, f1⟩ : wr.cell? ⟨w.heap.size, 0, none⟩ = some (.int .u32 (ta : Int)) ∧ wr.cell? ⟨w.heap.size, 1, none⟩ = some (.int .u8 (ra : Int)) := ⟨cell_of_row _ _ 0 _ _ _ XI2.out, cell_of_row _ _ 1 _ _ _ XI2.out⟩
    have hlt := World.block_lt_of_cell? _ _ f0
    have SK : Hid (∀ w' : World, Below wr.heap.size wr w' → Below wr.heap.size wr w' ∧ w'.cell? ⟨bb, oo + j * 5 + 1, none⟩ = some (.int .u32 (t : Int)) ∧ w'.cell? ⟨bb, oo + j * 5 + 2, none⟩ = some (.int .u8 (r : Int)) ∧ w'.cell? ⟨w.heap.size, 0, none⟩ = some (.int .u32 (ta : Int)) ∧ w'.cell? ⟨w.heap.size, 1, none⟩ = some (.int .u8 (ra : Int))) := fun W h => ⟨h, (h.cell (p := ⟨bb, oo + j * 5 + 1, none⟩) hbb).trans h1, (h.cell (p := ⟨bb, oo + j * 5 + 2, none⟩) hbb).trans h2, (h.cell (p := ⟨w.heap.size, 0, none⟩) hlt).trans f0, (h.cell (p := ⟨w.heap.size, 1, none⟩) hlt).trans f1⟩
    have F1 : Hid (FiveAt wr bb (oo + j * 5) (.int .u8 (k : Int)) (.int .u32 (t : Int)) (.int .u8 (r : Int)) (.slice uo nu uc) (.int .i64 p)) := ⟨hbb, h0, h1, h2, h3, h4⟩
    rw [ht, hr] at HE
    have HFV : Hid (∀ v : Value, Value.agg #[.int .u8 (k : Int), .int .u32 (t : Int), .int .u8 (r : Int), v, .int .i64 p] = opv x v) := fun v => (HO.out v).symm
    clear hk ht hr hp h0 h1 h2 h3 h4 f0 f1 hlt HO hbb
    obtain ⟨b1, hb1⟩ : ∃ b, decide (t = ta) = b := ⟨_, rfl⟩
    obtain ⟨b2, hb2⟩ : ∃ b, decide (r = ra) = b := ⟨_, rfl⟩
    have hb1' : ((t : Int) == (ta : Int)) = b1 := by rw [← hb1]; by_cases h : t = ta <;> simp [h] <;> omega
    have hb2' : ((r : Int) == (ra : Int)) = b2 := by rw [← hb2]; by_cases h : r = ra <;> simp [h] <;> omega
    have HM : Hid ((b1 && b2) = true → q = some (l[j]'hjl)) := fun h => HG.out (by rw [← HX.out, HE.out]; rw [Bool.and_eq_true, ← hb1, ← hb2, decide_eq_true_eq, decide_eq_true_eq] at h; exact h)
    have HNM : Hid ((b1 && b2) = false → ∀ i (h : i < l.length), i < j + 1 → idO (l[i]'h) ≠ A) := fun h i hi hij => by
      by_cases e : i = j
      · subst e; rw [← HX.out, Ne, HE.out]; rintro ⟨h1, h2⟩; rw [← hb1, ← hb2, decide_eq_true h1, decide_eq_true h2] at h; cases h
      · exact hno.out i hi (by omega)
    clear HE HG
    cases b1
    · cases b2
      · go_wp2
        refine wp_region_held_drew (S := fun w' => Below wr.heap.size wr w' ∧ w'.cell? ⟨bb, oo + j * 5 + 1, none⟩ = some (.int .u32 (t : Int)) ∧ w'.cell? ⟨bb, oo + j * 5 + 2, none⟩ = some (.int .u8 (r : Int)) ∧ w'.cell? ⟨w.heap.size, 0, none⟩ = some (.int .u32 (ta : Int)) ∧ w'.cell? ⟨w.heap.size, 1, none⟩ = some (.int .u8 (ra : Int))) (by kernel_rfl) (SK.out _ (drew1 _)) (fun hHeld => ?_)
        refine wpAnyH_take (i := 0) (v := ?va0) rfl (by kernel_rfl) (by kernel_rfl) (by kernel_rfl) (fun _ _ _ h => h) (Or.inl ⟨by rfl, ?ya0⟩) (by assumption) ?_
        case ya0 => intro w hSw; (try dsimp only at hSw); go_simp <;> with_reducible rfl
        try simp only [List.getElem_toArray, List.getElem_cons_zero, Act.put, List.setIfInBounds_toArray, List.set_cons_zero, List.set_cons_succ]
        refine wpAnyH_take (i := 1) (v := ?va1) rfl (by kernel_rfl) (by kernel_rfl) (by kernel_rfl) (fun _ _ _ h => h) (Or.inl ⟨by rfl, ?ya1⟩) (by assumption) ?_
        case ya1 => intro w hSw; (try dsimp only at hSw); go_simp <;> with_reducible rfl
        try simp only [List.getElem_toArray, List.getElem_cons_succ, List.getElem_cons_zero, Act.put, List.setIfInBounds_toArray, List.set_cons_zero, List.set_cons_succ]
        refine wpAnyH_take (i := 2) (v := ?va2) rfl (by kernel_rfl) (by kernel_rfl) (by kernel_rfl) (fun _ _ _ h => h) (Or.inl ⟨by rfl, ?ya2⟩) (by assumption) ?_
        case ya2 => intro w hSw; (try dsimp only at hSw); go_simp <;> with_reducible rfl
        try simp only [List.getElem_toArray, List.getElem_cons_succ, List.getElem_cons_zero, Act.put, List.setIfInBounds_toArray, List.set_cons_zero, List.set_cons_succ]
        refine wpAnyH_take (i := 3) (v := ?va3) rfl (by kernel_rfl) (by kernel_rfl) (by kernel_rfl) (fun _ _ _ h => h) (Or.inl ⟨by rfl, ?ya3⟩) (by assumption) ?_
        case ya3 => intro w hSw; (try dsimp only at hSw); go_simp <;> with_reducible rfl
        try simp only [List.getElem_toArray, List.getElem_cons_succ, List.getElem_cons_zero, Act.put, List.setIfInBounds_toArray, List.set_cons_zero, List.set_cons_succ]
        refine wpAnyH_take (i := 4) (v := ?va4) rfl (by kernel_rfl) (by kernel_rfl) (by kernel_rfl) (fun _ _ _ h => h) (Or.inl ⟨by rfl, ?ya4⟩) (by assumption) ?_
        case ya4 => intro w hSw; (try dsimp only at hSw); go_simp <;> with_reducible rfl
        try simp only [List.getElem_toArray, List.getElem_cons_succ, List.getElem_cons_zero, Act.put, List.setIfInBounds_toArray, List.set_cons_zero, List.set_cons_succ]
        refine wpAnyH_take (i := 5) (v := ?va5) rfl (by kernel_rfl) (by kernel_rfl) (by kernel_rfl) (fun _ _ _ h => h) (Or.inl ⟨by rfl, ?ya5⟩) (by assumption) ?_
        case ya5 => intro w hSw; (try dsimp only at hSw); go_simp <;> with_reducible rfl
        try simp only [List.getElem_toArray, List.getElem_cons_succ, List.getElem_cons_zero, Act.put, List.setIfInBounds_toArray, List.set_cons_zero, List.set_cons_succ]
        refine wpAnyH_take (i := 6) (v := ?va6) rfl (by kernel_rfl) (by kernel_rfl) (by kernel_rfl) (fun _ _ _ h => h) (Or.inl ⟨by rfl, ?ya6⟩) (by assumption) ?_
        case ya6 => intro w hSw; (try dsimp only at hSw); go_simp <;> with_reducible rfl
        try simp only [List.getElem_toArray, List.getElem_cons_succ, List.getElem_cons_zero, Act.put, List.setIfInBounds_toArray, List.set_cons_zero, List.set_cons_succ]
        refine wpAnyH_done (by kernel_rfl) ?_ _
        have NJ := Lib.hid (HNM.out rfl)
        go_wp2
        go_roundw
        case rel => exact ⟨j + 1, by omega, by go_num, NJ, Lib.hid (bt hbel.out hHeld.1)⟩
        case measure => simp [intOf]; omega
      · go_wp2
        refine wp_region_held_drew (S := fun w' => Below wr.heap.size wr w' ∧ w'.cell? ⟨bb, oo + j * 5 + 1, none⟩ = some (.int .u32 (t : Int)) ∧ w'.cell? ⟨bb, oo + j * 5 + 2, none⟩ = some (.int .u8 (r : Int)) ∧ w'.cell? ⟨w.heap.size, 0, none⟩ = some (.int .u32 (ta : Int)) ∧ w'.cell? ⟨w.heap.size, 1, none⟩ = some (.int .u8 (ra : Int))) (by kernel_rfl) (SK.out _ (drew1 _)) (fun hHeld => ?_)
        refine wpAnyH_take (i := 0) (v := ?vb0) rfl (by kernel_rfl) (by kernel_rfl) (by kernel_rfl) (fun _ _ _ h => h) (Or.inl ⟨by rfl, ?yb0⟩) (by assumption) ?_
        case yb0 => intro w hSw; (try dsimp only at hSw); go_simp <;> with_reducible rfl
        try simp only [List.getElem_toArray, List.getElem_cons_zero, Act.put, List.setIfInBounds_toArray, List.set_cons_zero, List.set_cons_succ]
        refine wpAnyH_take (i := 1) (v := ?vb1) rfl (by kernel_rfl) (by kernel_rfl) (by kernel_rfl) (fun _ _ _ h => h) (Or.inl ⟨by rfl, ?yb1⟩) (by assumption) ?_
        case yb1 => intro w hSw; (try dsimp only at hSw); go_simp <;> with_reducible rfl
        try simp only [List.getElem_toArray, List.getElem_cons_succ, List.getElem_cons_zero, Act.put, List.setIfInBounds_toArray, List.set_cons_zero, List.set_cons_succ]
        refine wpAnyH_take (i := 2) (v := ?vb2) rfl (by kernel_rfl) (by kernel_rfl) (by kernel_rfl) (fun _ _ _ h => h) (Or.inl ⟨by rfl, ?yb2⟩) (by assumption) ?_
        case yb2 => intro w hSw; (try dsimp only at hSw); go_simp <;> with_reducible rfl
        try simp only [List.getElem_toArray, List.getElem_cons_succ, List.getElem_cons_zero, Act.put, List.setIfInBounds_toArray, List.set_cons_zero, List.set_cons_succ]
        refine wpAnyH_take (i := 3) (v := ?vb3) rfl (by kernel_rfl) (by kernel_rfl) (by kernel_rfl) (fun _ _ _ h => h) (Or.inl ⟨by rfl, ?yb3⟩) (by assumption) ?_
        case yb3 => intro w hSw; (try dsimp only at hSw); go_simp <;> with_reducible rfl
        try simp only [List.getElem_toArray, List.getElem_cons_succ, List.getElem_cons_zero, Act.put, List.setIfInBounds_toArray, List.set_cons_zero, List.set_cons_succ]
        refine wpAnyH_take (i := 4) (v := ?vb4) rfl (by kernel_rfl) (by kernel_rfl) (by kernel_rfl) (fun _ _ _ h => h) (Or.inl ⟨by rfl, ?yb4⟩) (by assumption) ?_
        case yb4 => intro w hSw; (try dsimp only at hSw); go_simp <;> with_reducible rfl
        try simp only [List.getElem_toArray, List.getElem_cons_succ, List.getElem_cons_zero, Act.put, List.setIfInBounds_toArray, List.set_cons_zero, List.set_cons_succ]
        refine wpAnyH_take (i := 5) (v := ?vb5) rfl (by kernel_rfl) (by kernel_rfl) (by kernel_rfl) (fun _ _ _ h => h) (Or.inl ⟨by rfl, ?yb5⟩) (by assumption) ?_
        case yb5 => intro w hSw; (try dsimp only at hSw); go_simp <;> with_reducible rfl
        try simp only [List.getElem_toArray, List.getElem_cons_succ, List.getElem_cons_zero, Act.put, List.setIfInBounds_toArray, List.set_cons_zero, List.set_cons_succ]
        refine wpAnyH_take (i := 6) (v := ?vb6) rfl (by kernel_rfl) (by kernel_rfl) (by kernel_rfl) (fun _ _ _ h => h) (Or.inl ⟨by rfl, ?yb6⟩) (by assumption) ?_
        case yb6 => intro w hSw; (try dsimp only at hSw); go_simp <;> with_reducible rfl
        try simp only [List.getElem_toArray, List.getElem_cons_succ, List.getElem_cons_zero, Act.put, List.setIfInBounds_toArray, List.set_cons_zero, List.set_cons_succ]
        refine wpAnyH_done (by kernel_rfl) ?_ _
        have NJ := Lib.hid (HNM.out rfl)
        go_wp2
        go_roundw
        case rel => exact ⟨j + 1, by omega, by go_num, NJ, Lib.hid (bt hbel.out hHeld.1)⟩
        case measure => simp [intOf]; omega
    · cases b2
      · go_wp2
        refine wp_region_held_drew (S := fun w' => Below wr.heap.size wr w' ∧ w'.cell? ⟨bb, oo + j * 5 + 1, none⟩ = some (.int .u32 (t : Int)) ∧ w'.cell? ⟨bb, oo + j * 5 + 2, none⟩ = some (.int .u8 (r : Int)) ∧ w'.cell? ⟨w.heap.size, 0, none⟩ = some (.int .u32 (ta : Int)) ∧ w'.cell? ⟨w.heap.size, 1, none⟩ = some (.int .u8 (ra : Int))) (by kernel_rfl) (SK.out _ (drew1 _)) (fun hHeld => ?_)
        refine wpAnyH_take (i := 0) (v := ?vc0) rfl (by kernel_rfl) (by kernel_rfl) (by kernel_rfl) (fun _ _ _ h => h) (Or.inl ⟨by rfl, ?yc0⟩) (by assumption) ?_
        case yc0 => intro w hSw; (try dsimp only at hSw); go_simp <;> with_reducible rfl
        try simp only [List.getElem_toArray, List.getElem_cons_zero, Act.put, List.setIfInBounds_toArray, List.set_cons_zero, List.set_cons_succ]
        refine wpAnyH_take (i := 1) (v := ?vc1) rfl (by kernel_rfl) (by kernel_rfl) (by kernel_rfl) (fun _ _ _ h => h) (Or.inl ⟨by rfl, ?yc1⟩) (by assumption) ?_
        case yc1 => intro w hSw; (try dsimp only at hSw); go_simp <;> with_reducible rfl
        try simp only [List.getElem_toArray, List.getElem_cons_succ, List.getElem_cons_zero, Act.put, List.setIfInBounds_toArray, List.set_cons_zero, List.set_cons_succ]
        refine wpAnyH_take (i := 2) (v := ?vc2) rfl (by kernel_rfl) (by kernel_rfl) (by kernel_rfl) (fun _ _ _ h => h) (Or.inl ⟨by rfl, ?yc2⟩) (by assumption) ?_
        case yc2 => intro w hSw; (try dsimp only at hSw); go_simp <;> with_reducible rfl
        try simp only [List.getElem_toArray, List.getElem_cons_succ, List.getElem_cons_zero, Act.put, List.setIfInBounds_toArray, List.set_cons_zero, List.set_cons_succ]
        refine wpAnyH_take (i := 3) (v := ?vc3) rfl (by kernel_rfl) (by kernel_rfl) (by kernel_rfl) (fun _ _ _ h => h) (Or.inl ⟨by rfl, ?yc3⟩) (by assumption) ?_
        case yc3 => intro w hSw; (try dsimp only at hSw); go_simp <;> with_reducible rfl
        try simp only [List.getElem_toArray, List.getElem_cons_succ, List.getElem_cons_zero, Act.put, List.setIfInBounds_toArray, List.set_cons_zero, List.set_cons_succ]
        refine wpAnyH_take (i := 4) (v := ?vc4) rfl (by kernel_rfl) (by kernel_rfl) (by kernel_rfl) (fun _ _ _ h => h) (Or.inl ⟨by rfl, ?yc4⟩) (by assumption) ?_
        case yc4 => intro w hSw; (try dsimp only at hSw); go_simp <;> with_reducible rfl
        try simp only [List.getElem_toArray, List.getElem_cons_succ, List.getElem_cons_zero, Act.put, List.setIfInBounds_toArray, List.set_cons_zero, List.set_cons_succ]
        refine wpAnyH_take (i := 5) (v := ?vc5) rfl (by kernel_rfl) (by kernel_rfl) (by kernel_rfl) (fun _ _ _ h => h) (Or.inl ⟨by rfl, ?yc5⟩) (by assumption) ?_
        case yc5 => intro w hSw; (try dsimp only at hSw); go_simp <;> with_reducible rfl
        try simp only [List.getElem_toArray, List.getElem_cons_succ, List.getElem_cons_zero, Act.put, List.setIfInBounds_toArray, List.set_cons_zero, List.set_cons_succ]
        refine wpAnyH_take (i := 6) (v := ?vc6) rfl (by kernel_rfl) (by kernel_rfl) (by kernel_rfl) (fun _ _ _ h => h) (Or.inl ⟨by rfl, ?yc6⟩) (by assumption) ?_
        case yc6 => intro w hSw; (try dsimp only at hSw); go_simp <;> with_reducible rfl
        try simp only [List.getElem_toArray, List.getElem_cons_succ, List.getElem_cons_zero, Act.put, List.setIfInBounds_toArray, List.set_cons_zero, List.set_cons_succ]
        refine wpAnyH_done (by kernel_rfl) ?_ _
        have NJ := Lib.hid (HNM.out rfl)
        go_wp2
        go_roundw
        case rel => exact ⟨j + 1, by omega, by go_num, NJ, Lib.hid (bt hbel.out hHeld.1)⟩
        case measure => simp [intOf]; omega
      · obtain rfl := HM.out rfl
        go_wp2
        refine wp_region_held_drew (S := fun w' => Below wr.heap.size wr w' ∧ w'.cell? ⟨bb, oo + j * 5 + 1, none⟩ = some (.int .u32 (t : Int)) ∧ w'.cell? ⟨bb, oo + j * 5 + 2, none⟩ = some (.int .u8 (r : Int)) ∧ w'.cell? ⟨w.heap.size, 0, none⟩ = some (.int .u32 (ta : Int)) ∧ w'.cell? ⟨w.heap.size, 1, none⟩ = some (.int .u8 (ra : Int))) (by kernel_rfl) (SK.out _ (drew1 _)) (fun hHeld => ?_)
        refine wpAnyH_take (i := 0) (v := ?vd0) rfl (by kernel_rfl) (by kernel_rfl) (by kernel_rfl) (fun _ _ _ h => h) (Or.inl ⟨by rfl, ?yd0⟩) (by assumption) ?_
        case yd0 => intro w hSw; (try dsimp only at hSw); go_simp <;> with_reducible rfl
        try simp only [List.getElem_toArray, List.getElem_cons_zero, Act.put, List.setIfInBounds_toArray, List.set_cons_zero, List.set_cons_succ]
        refine wpAnyH_take (i := 1) (v := ?vd1) rfl (by kernel_rfl) (by kernel_rfl) (by kernel_rfl) (fun _ _ _ h => h) (Or.inl ⟨by rfl, ?yd1⟩) (by assumption) ?_
        case yd1 => intro w hSw; (try dsimp only at hSw); go_simp <;> with_reducible rfl
        try simp only [List.getElem_toArray, List.getElem_cons_succ, List.getElem_cons_zero, Act.put, List.setIfInBounds_toArray, List.set_cons_zero, List.set_cons_succ]
        refine wpAnyH_take (i := 2) (v := ?vd2) rfl (by kernel_rfl) (by kernel_rfl) (by kernel_rfl) (fun _ _ _ h => h) (Or.inl ⟨by rfl, ?yd2⟩) (by assumption) ?_
        case yd2 => intro w hSw; (try dsimp only at hSw); go_simp <;> with_reducible rfl
        try simp only [List.getElem_toArray, List.getElem_cons_succ, List.getElem_cons_zero, Act.put, List.setIfInBounds_toArray, List.set_cons_zero, List.set_cons_succ]
        refine wpAnyH_take (i := 3) (v := ?vd3) rfl (by kernel_rfl) (by kernel_rfl) (by kernel_rfl) (fun _ _ _ h => h) (Or.inl ⟨by rfl, ?yd3⟩) (by assumption) ?_
        case yd3 => intro w hSw; (try dsimp only at hSw); go_simp <;> with_reducible rfl
        try simp only [List.getElem_toArray, List.getElem_cons_succ, List.getElem_cons_zero, Act.put, List.setIfInBounds_toArray, List.set_cons_zero, List.set_cons_succ]
        refine wpAnyH_take (i := 4) (v := ?vd4) rfl (by kernel_rfl) (by kernel_rfl) (by kernel_rfl) (fun _ _ _ h => h) (Or.inl ⟨by rfl, ?yd4⟩) (by assumption) ?_
        case yd4 => intro w hSw; (try dsimp only at hSw); go_simp <;> with_reducible rfl
        try simp only [List.getElem_toArray, List.getElem_cons_succ, List.getElem_cons_zero, Act.put, List.setIfInBounds_toArray, List.set_cons_zero, List.set_cons_succ]
        refine wpAnyH_take (i := 5) (v := ?vd5) rfl (by kernel_rfl) (by kernel_rfl) (by kernel_rfl) (fun _ _ _ h => h) (Or.inl ⟨by rfl, ?yd5⟩) (by assumption) ?_
        case yd5 => intro w hSw; (try dsimp only at hSw); go_simp <;> with_reducible rfl
        try simp only [List.getElem_toArray, List.getElem_cons_succ, List.getElem_cons_zero, Act.put, List.setIfInBounds_toArray, List.set_cons_zero, List.set_cons_succ]
        refine wpAnyH_take (i := 6) (v := ?vd6) rfl (by kernel_rfl) (by kernel_rfl) (by kernel_rfl) (fun _ _ _ h => h) (Or.inl ⟨by rfl, ?yd6⟩) (by assumption) ?_
        case yd6 => intro w hSw; (try dsimp only at hSw); go_simp <;> with_reducible rfl
        try simp only [List.getElem_toArray, List.getElem_cons_succ, List.getElem_cons_zero, Act.put, List.setIfInBounds_toArray, List.set_cons_zero, List.set_cons_succ]
        refine wpAnyH_done (by kernel_rfl) ?_ _
        have XO3 := Lib.hid (blk_below hHeld.1 XO2.out)
        have F3 := (F1.out.keeps hHeld.1).2
        have B3 := Lib.hid (bt BW.out hHeld.1)
        clear hHeld
        generalize wr.drew = we at XO3 F3 B3 ⊢
        obtain ⟨F30, F31, F32, F33, F34⟩ := F3
        obtain ⟨x0, x1, x2, x3, x4⟩ := cells5 XO3.out
        have f0 : ∀ o, we.frozen? ⟨w.heap.size + 1, o, none⟩ = false := fun o => free5 XO3.out o
        go_wp2_with fail
        obtain ⟨WF, hWF⟩ : ∃ WF, WF = put5 we (w.heap.size + 1) (.int .u8 (k : Int)) (.int .u32 (t : Int)) (.int .u8 (r : Int)) (.slice uo nu uc) (.int .i64 p) := ⟨_, rfl⟩
        have HF := put5_same (.int .u8 (k : Int)) (.int .u32 (t : Int)) (.int .u8 (r : Int)) (.slice uo nu uc) (.int .i64 p) XO3.out
        have BF := put5_below (.int .u8 (k : Int)) (.int .u32 (t : Int)) (.int .u8 (r : Int)) (.slice uo nu uc) (.int .i64 p) (show w.heap.size ≤ w.heap.size + 1 by omega) B3.out
        rw [← hWF] at HF BF
        unfold put5 at hWF
        rw [← hWF]
        obtain ⟨e0, e1, e2, e3, e4⟩ := cells5 HF
        refine bodyPost_ret (v := .tuple #[.agg #[.int .u8 (k : Int), .int .u32 (t : Int), .int .u8 (r : Int), .slice uo nu uc, .int .i64 p], .bool true]) (by simp [results, Try.results54, go_sem, e0, e1, e2, e3, e4]) rfl ⟨.slice uo nu uc, ?_, ?_, BF⟩
        · rw [HFV.out, HX.out]; rfl
        · intro W hb h
          have := HRU.out W hb h
          rw [HX.out] at this
          exact this

theorem refHasO_any {v : Value} {l : List Opn} (a : Id) {w : World} (hv : OpL w v l) :
    Calls Try.prog 89 #[v, .agg #[.int .u32 (a.t : Int), .int .u8 (a.r : Int)]] w fun e w' => e = .returned (.bool (hasO l a)) ∧ Below w.heap.size w w' := by
  have C : Hid (∀ W : World, Below w.heap.size w W → Calls Try.prog 54 #[v, .agg #[.int .u32 (a.t : Int), .int .u8 (a.r : Int)]] W (FoundO (findO l a) v l W)) := fun W h => refOfO_any a (hv.keeps h)
  have HVV : Hid (∀ W : World, Below w.heap.size w W → OpL W v l) := fun W h => hv.keeps h
  unfold hasO
  obtain ⟨q, hq⟩ : ∃ q, findO l a = q := ⟨_, rfl⟩
  rw [hq] at C ⊢
  obtain ⟨ta, ra, hta, hra⟩ := a
  simp only at C ⊢
  have B0 : Hid (Below w.heap.size w (w.alloc (.cells #[.int .u32 (ta : Int), .int .u8 (ra : Int)] 27))) := (Below.refl _ _).alloc (Nat.le_refl _) _
  clear hv hq
  go_enter Try.func89, Try.ntmps89
  go_wp2_with fail
  refine (C.out _ B0.out).mono ?_
  rintro e w1 ⟨v1, rfl, r1, b1⟩
  have B1 := Lib.hid (bt B0.out b1)
  obtain ⟨uo, uc, rfl⟩ := (r1 _ (Below.refl _ _) (HVV.out _ B0.out)).shape
  generalize (q.getD zop).pl.length = nu
  clear r1 b1
  unfold opv
  go_wp2
  go_ret
  exact ⟨rfl, B1.out.alloc B1.out.size _⟩
end Go.Proofs.Ytocjkegkgnbboaa.Bags

/- Rows of the call's own whose elements may hold slices that were there ahead of it; append of one. Conditions: none. -/
namespace Go.Proofs.Ytocjkegkgnbboaa
open Go.RowKit Go.WideShapes

/-- A row of the call's own (since the world w0), what its elements hold lies in w0. -/
def Shr {α : Type} (E : Enc α) (te : TypeId) (w0 w : World) (v : Value) (l : List α) : Prop := ∃ cs, w.ownsRow w0.heap.size te E.sz v l.length cs ∧ E.rows w0 cs l
theorem Shr.nil {α : Type} (E : Enc α) (te : TypeId) (w0 w : World) : Shr E te w0 w (.slice none 0 0) [] := ⟨[], World.ownsRow_nil _ _ _ _, rfl⟩
theorem Shr.keeps {α : Type} {E : Enc α} {te : TypeId} {w0 w w' : World} {v : Value} {l : List α} (h : Shr E te w0 w v l) (hb : Below w.heap.size w w') : Shr E te w0 w' v l := by
  obtain ⟨cs, h1, h2⟩ := h
  exact ⟨cs, own_stays h1 hb, h2⟩
theorem Shr.seq {α : Type} {E : Enc α} {te : TypeId} {w0 w : World} {v : Value} {l : List α} (h : Shr E te w0 w v l) (hb : Below w0.heap.size w0 w) : Seq E w v l := by
  obtain ⟨cs, h1, h2⟩ := h
  exact ⟨cs, Sees.own h1, Enc.rows_keep hb h2⟩
theorem Shr.shape {α : Type} {E : Enc α} {te : TypeId} {w0 w : World} {v : Value} {l : List α} (h : Shr E te w0 w v l) : ∃ ao cap, v = .slice ao l.length cap := by
  obtain ⟨cs, h1, _⟩ := h; exact Sees.shape (Sees.own h1)

theorem wpList_append_enc {α : Type} {E : Enc α} {ts te : TypeId} (ht : Try.prog.underlying ts = some (.slice te)) {z : Value} {bytes : Nat}
    (hi : (Try.prog.info? te).map (fun i => (i.zero, i.size, i.bytes)) = some (some z, E.sz, bytes)) (hzs : z.cells.size = E.sz)
    {w0 wp : World} {ops : Array Oper} {rest : List Oper} {o : Oper} {a : Act} {Q : Exit → Act → World → Prop} (hgd : o.guard = none) (s x : Operand)
    (ho : o.op = .call { callee := .builtin .append, args := #[s, x], argTypes := #[ts, ts] }) {v : Value} {L : List α} (hs : a.eval s = v) (hv : Shr E te w0 wp v L)
    {G : Nat} (hx : a.eval x = .slice (some ⟨G, 0, none⟩) 1 1) (hG : wp.heap.size = G) {c : Array Value} {y : α} (hin : E.inn w0 c.toList y) {m : Nat} (hm : m = L.length) (h47 : (m + 1) * bytes ≤ 140737488355328) (hl : m ≤ 1000000000000) (hbase : w0.heap.size ≤ wp.heap.size)
    (h : ∀ v' w', Shr E te w0 w' v' (L ++ [y]) → (∃ ao cap, v' = .slice ao (m + 1) cap) → Below w0.heap.size wp w' → wpList Try.prog ops Q rest (a.put o.dst v') w') :
    wpList Try.prog ops Q (o :: rest) a (wp.alloc (.cells c te)) := by
  subst hG
  subst hm
  obtain ⟨cs, h1, h2⟩ := hv
  have hlen : c.toList.length = 1 * E.sz := by rw [E.len hin]; omega
  have hse := sees_new wp c.toList E.sz 1 hlen (by omega) te (0, 0)
  rw [Array.toArray_toList] at hse
  have hb := (Below.refl wp.heap.size wp).alloc (Nat.le_refl _) (.cells c te)
  refine wpList_append_sees hgd s x ts te ho ht hi hzs E.pos w0.heap.size v L.length cs hs (own_stays h1 hb) _ 1 c.toList hx hse (E.one hin) h47 (by omega) (Nat.le_trans hbase hb.size) ?_
  intro v' w' o6 _ b6
  refine h v' w' ⟨cs ++ c.toList, by rw [List.length_append]; exact o6, Enc.rows_snoc h2 hin⟩ (Sees.shape (Sees.own o6)) (((Below.refl _ _).alloc hbase _).trans b6)
end Go.Proofs.Ytocjkegkgnbboaa
