/- octavolaw08's helpers: by, of. Conditions: the numbers are spans' ends, two by two. -/
import Derived.Test.YtinglfhndlklaaaClockOf
namespace Go.Proofs.Ytinglfhndlklaaa.Clocks
open Go.RowKit Go.Proofs.Ytinglfhndlklaaa.Spans Go.Proofs.Ytinglfhndlklaaa.Srt
attribute [local go_sem ↓] Go.wp_at_zero Go.wp_at_succ

theorem by08_any {t r : Nat} {w : World} :
    Calls Try.prog 14 #[.int .u32 (t : Int), .int .u8 (r : Int)] w fun e w' => e = .returned (.agg #[.int .u32 (t : Int), .int .u8 (r : Int)]) ∧ Below w.heap.size w w' := by
  go_enter Try.func14, Try.ntmps14
  go_wp2
  refine bodyPost_ret (v := .agg #[.int .u32 (t : Int), .int .u8 (r : Int)]) (by simp [results, Try.results14, go_sem]) rfl ⟨rfl, ?_⟩
  exact (Below.refl _ _).alloc (Nat.le_refl _) _

/-- Spans' ends, one by one. -/
def flat : List Sp → List Nat
  | [] => []
  | x :: l => x.f :: x.t :: flat l
theorem flat_len : ∀ l : List Sp, (flat l).length = l.length * 2
  | [] => rfl
  | x :: l => by simp [flat, flat_len l]; omega
theorem flat_get : ∀ (l : List Sp) (k : Nat), k < l.length → (flat l).getD (k * 2) 0 = (l.getD k zsp).f ∧ (flat l).getD (k * 2 + 1) 0 = (l.getD k zsp).t
  | x :: l, 0, _ => ⟨rfl, rfl⟩
  | x :: l, k + 1, h => by
    have ih := flat_get l k (by simpa using h)
    rw [show (k + 1) * 2 = k * 2 + 1 + 1 by omega]
    simpa [flat] using ih
theorem flat_cells {w : World} {b o cap n : Nat} {l : List Sp} (h : Sees w (.slice (some ⟨b, o, none⟩) n cap) 1 n (us (flat l))) (k : Nat) (hk : k < l.length) :
    b < w.heap.size ∧ w.cell? ⟨b, o + k * 2, none⟩ = some (.int .u32 ((l.getD k zsp).f : Int)) ∧ w.cell? ⟨b, o + (k * 2 + 1), none⟩ = some (.int .u32 ((l.getD k zsp).t : Int)) := by
  obtain ⟨hl, ao, c, he, h2, h3, h4, h5⟩ := h
  have hfl := flat_len l
  have hg := flat_get l k hk
  rcases h5 with h5 | ⟨b', o', e5, hlt, h6⟩
  · have : (us (flat l)).length = 0 := by rw [h5]; rfl
    rw [us_len] at this; omega
  · have e1 := (Value.slice.inj he).1
    rw [e5] at e1
    cases e1
    refine ⟨hlt, ?_, ?_⟩
    · rw [← hg.1]; exact h6 _ _ (us_get _ _ (by omega))
    · rw [← hg.2]; exact h6 _ _ (us_get _ _ (by omega))
theorem grown_setCell (w : World) (p : Addr) (v : Value) : w.grownBy (w.setCell p v) (some p.block) :=
  have h := (Below.refl 0 w).setCell (p := p) (Nat.zero_le _) v
  ⟨h.os, h.tape, h.output, h.size, fun k _ hne => heap_setCell_other w p k v (fun e => hne (by rw [e]))⟩
/-- What is kept: the place that is answered, the place at hand, and its spans. -/
def OfK (N r k : Nat) (L : List Sp) (w wr : World) : Prop :=
  ∃ v, wr.heap[N]? = some (.cells #[.int .u8 0, .slice none 0 0] 28) ∧ wr.heap[N + 1]? = some (.cells #[.int .u8 (r : Int), v] 28) ∧ wr.ownsRow (N + 2) 63 2 v k (sps (L.take k)) ∧ Below N w wr
set_option maxRecDepth 100000 in
set_option maxHeartbeats 4000000 in
theorem of08_any {b o cap r : Nat} {L : List Sp} {n : Nat} {w : World} (hr : r < 256) (hn : n = L.length * 2) (hn2 : n ≤ 1000000) (hv : Sees w (.slice (some ⟨b, o, none⟩) n cap) 1 n (us (flat L))) :
    Calls Try.prog 10 #[.int .u8 (r : Int), .slice (some ⟨b, o, none⟩) n cap] w fun e w' => ∃ v, e = .returned (.agg #[.int .u8 (r : Int), v]) ∧ w'.ownsRow w.heap.size 63 2 v L.length (sps L) ∧ Below w.heap.size w w' := by
  have HV := Lib.hid hv
  have HN := Lib.hid hn
  have hLn : L.length ≤ 1000000 := by omega
  obtain ⟨m, hm⟩ : ∃ m, m = L.length := ⟨_, rfl⟩
  have HM := Lib.hid hm
  have hmn : n = m * 2 := by omega
  subst hmn
  rw [← hm] at hLn
  rw [← hm]
  have O0 : Hid (OfK w.heap.size r 0 L w ((w.alloc (.cells #[.int .u8 0, .slice none 0 0] 28)).alloc (.cells #[.int .u8 (r : Int), .slice none 0 0] 28))) :=
    ⟨.slice none 0 0, blk_old (kb_new rfl), kb_new (by simp), World.ownsRow_nil _ _ _ _, ((Below.refl w.heap.size w).alloc (Nat.le_refl _) _).alloc (by simp) _⟩
  clear hv hn hm
  go_enter Try.func10, Try.ntmps10
  go_wp2
  go_loopw [6] (fun i wr => ∃ k : Nat, k ≤ m ∧ i = .int .i64 ((k * 2 : Nat) : Int) ∧ Hid (OfK w.heap.size r k L w wr)) (fun i _ => m * 2 - (intOf i).toNat)
  case atStart => exact ⟨0, by omega, rfl, O0⟩
  case round =>
    clear O0
    obtain ⟨k, hk, rfl, hof⟩ := hrel
    obtain ⟨wo, rfl⟩ : ∃ wo : World, wo = wr := ⟨_, rfl⟩
    obtain ⟨v, hb0, hb1, hown, hbel⟩ := hof.out
    by_cases hkm : k < m
    · have q1 : decide ((((k * 2 : Nat) : Int) + 1) < ((m * 2 : Nat) : Int)) = true := decide_eq_true (by omega)
      have q1' : decide ((k : Int) * 2 + 1 < (m : Int) * 2) = true := decide_eq_true (by omega)
      have q2 : (0 : Int) ≤ ((k * 2 : Nat) : Int) := by omega
      have q3 : ((k * 2 : Nat) : Int) < ((m * 2 : Nat) : Int) := by omega
      have q4 : (0 : Int) ≤ ((k * 2 : Nat) : Int) + 1 := by omega
      have q5 : ((k * 2 : Nat) : Int) + 1 < ((m * 2 : Nat) : Int) := by omega
      have q6 : IntKind.i64.wrap (((k * 2 : Nat) : Int) + 1) = ((k * 2 : Nat) : Int) + 1 := IntWalk.i64_in _ (by omega)
      have q7 : (((k * 2 : Nat) : Int) + 1).toNat = k * 2 + 1 := by omega
      have q8 : (((k * 2 : Nat) : Int)).toNat = k * 2 := by omega
      have hkl : k < L.length := by rw [← HM.out]; exact hkm
      obtain ⟨hb, hx0, hx1⟩ := flat_cells HV.out k hkl
      have hx0 := (hbel.cell (p := ⟨b, o + k * 2, none⟩) hb).trans hx0
      have hx1 := (hbel.cell (p := ⟨b, o + (k * 2 + 1), none⟩) hb).trans hx1
      have hs : L.take (k + 1) = L.take k ++ [L.getD k zsp] := by
        rw [List.take_succ_eq_append_getElem hkl]
        simp [List.getD, List.getElem?_eq_getElem hkl]
      obtain ⟨x, hx⟩ : ∃ x, x = L.getD k zsp := ⟨_, rfl⟩
      rw [← hx] at hx0 hx1 hs
      obtain ⟨xf, xt, hxf, hxt⟩ := x
      simp only at hx0 hx1
      obtain ⟨vo, vc, rfl⟩ := Sees.shape (Sees.own hown)
      have c1 : wo.cell? ⟨w.heap.size + 1, 1, none⟩ = some (.slice vo k vc) := cell_of_row wo (w.heap.size + 1) 1 _ _ _ hb1
      clear hx
      go_upto_region 5 with fail
      have q3' : (k : Int) * 2 < (m : Int) * 2 := by omega
      have q2' : (0 : Int) ≤ (k : Int) * 2 := by omega
      have q4' : (0 : Int) ≤ (k : Int) * 2 + 1 := by omega
      have q5' : (k : Int) * 2 + 1 < (m : Int) * 2 := by omega
      have q6' : IntKind.i64.wrap ((k : Int) * 2 + 1) = (k : Int) * 2 + 1 := IntWalk.i64_in _ (by omega)
      have q7' : ((k : Int) * 2 + 1).toNat = k * 2 + 1 := by omega
      have q8' : ((k : Int) * 2).toNat = k * 2 := by omega
      have hsz : w.heap.size + 2 ≤ wo.heap.size := (Array.getElem?_eq_some_iff.1 hb1).1
      have c1a : (wo.alloc (.cells #[.int .u32 (xf : Int), .int .u32 (xt : Int)] 63)).cell? ⟨w.heap.size + 1, 1, none⟩ = some (.slice vo k vc) := (((Below.refl wo.heap.size wo).alloc (Nat.le_refl _) _).cell (p := ⟨w.heap.size + 1, 1, none⟩) (by show w.heap.size + 1 < _; omega)).trans c1
      have hxN : xf < 4294967296 ∧ xt < 4294967296 := ⟨hxf, hxt⟩
      have OX : Hid ((wo.alloc (.cells #[.int .u32 (xf : Int), .int .u32 (xt : Int)] 63)).drew.ownsRow (w.heap.size + 2) 63 2 (.slice vo k vc) k (sps (L.take k))) := own_stays hown ((Below.refl wo.heap.size wo).alloc (Nat.le_refl _) _).drew
      have SE : Hid (Sees (wo.alloc (.cells #[.int .u32 (xf : Int), .int .u32 (xt : Int)] 63)).drew (.slice (some ⟨wo.heap.size, 0, none⟩) 1 1) 2 1 (sps [⟨xf, xt, hxf, hxt⟩])) := sees_sp (a := ⟨xf, xt, hxf, hxt⟩) (kb_new rfl) rfl rfl
      have hNE : ∀ j, j < w.heap.size + 2 → (Value.slice vo k vc).ownBlock ≠ some j := fun j hj e => by have := (hown.lt j e).1; omega
      have BD : Below w.heap.size w (wo.alloc (.cells #[.int .u32 (xf : Int), .int .u32 (xt : Int)] 63)).drew := (hbel.alloc (by omega) _).drew
      have S5 : Hid (∀ w5, (wo.alloc (.cells #[.int .u32 (xf : Int), .int .u32 (xt : Int)] 63)).drew.grownBy w5 (Value.slice vo k vc).ownBlock → (fun w' => w'.cell? ⟨b, o + k * 2, none⟩ = some (.int .u32 (xf : Int)) ∧ w'.cell? ⟨b, o + (k * 2 + 1), none⟩ = some (.int .u32 (xt : Int))) w5 ∧ Below w.heap.size w w5 ∧ w5.heap[w.heap.size]? = some (.cells #[.int .u8 0, .slice none 0 0] 28) ∧ w5.heap[w.heap.size + 1]? = some (.cells #[.int .u8 (r : Int), .slice vo k vc] 28)) := fun w5 g5 => by
        have hz : w.heap.size + 2 ≤ (wo.alloc (.cells #[.int .u32 (xf : Int), .int .u32 (xt : Int)] 63)).drew.heap.size := by show _ ≤ (wo.alloc _).heap.size; rw [World.size_alloc]; omega
        have B5 : Below w.heap.size w w5 := BD.grown g5 (by omega) (fun j e => by have := (hown.lt j e).1; omega)
        have c5 : ∀ p : Nat, w5.cell? ⟨b, p, none⟩ = wo.cell? ⟨b, p, none⟩ := fun p => ((B5.cell (p := ⟨b, p, none⟩) hb)).trans (hbel.cell (p := ⟨b, p, none⟩) hb).symm
        refine ⟨⟨(c5 _).trans hx0, (c5 _).trans hx1⟩, B5, ?_, ?_⟩
        · exact (g5.block _ (by omega) (fun e => hNE _ (by omega) e.symm)).trans ((Below.heap_alloc wo _ _ (by omega)).trans hb0)
        · exact (g5.block _ (by omega) (fun e => hNE _ (by omega) e.symm)).trans ((Below.heap_alloc wo _ _ (by omega)).trans hb1)
      have S4 : Hid ((fun w' => w'.cell? ⟨b, o + k * 2, none⟩ = some (.int .u32 (xf : Int)) ∧ w'.cell? ⟨b, o + (k * 2 + 1), none⟩ = some (.int .u32 (xt : Int))) (wo.alloc (.cells #[.int .u32 (xf : Int), .int .u32 (xt : Int)] 63)).drew) := by
        have c5 : ∀ p : Nat, (wo.alloc (.cells #[.int .u32 (xf : Int), .int .u32 (xt : Int)] 63)).drew.cell? ⟨b, p, none⟩ = wo.cell? ⟨b, p, none⟩ := fun p => ((BD.cell (p := ⟨b, p, none⟩) hb)).trans (hbel.cell (p := ⟨b, p, none⟩) hb).symm
        exact ⟨(c5 _).trans hx0, (c5 _).trans hx1⟩
      have HS := Lib.hid hs
      have hkb : k ≤ 1000000 := by omega
      clear hof hb0 hb1 hown hbel hs BD hNE
      refine wp_region_held_drew (S := fun w' => w'.cell? ⟨b, o + k * 2, none⟩ = some (.int .u32 (xf : Int)) ∧ w'.cell? ⟨b, o + (k * 2 + 1), none⟩ = some (.int .u32 (xt : Int))) (by kernel_rfl) ⟨hx0, hx1⟩ (fun hHeld => ?_)
      refine wpAnyH_take (i := 0) (v := ?va0) rfl (by kernel_rfl) (by kernel_rfl) (by kernel_rfl) (fun _ _ _ h => h) (Or.inl ⟨by rfl, ?ya0⟩) (by assumption) ?_
      case ya0 => intro w hSw; (try dsimp only at hSw); go_simp <;> with_reducible rfl
      try simp only [List.getElem_toArray, List.getElem_cons_zero, Act.put, List.setIfInBounds_toArray, List.set_cons_zero, List.set_cons_succ]
      refine wpAnyH_take (i := 2) (v := ?va2) rfl (by kernel_rfl) (by kernel_rfl) (by kernel_rfl) (fun _ _ _ h => h) (Or.inl ⟨by rfl, ?ya2⟩) (by assumption) ?_
      case ya2 => intro w hSw; (try dsimp only at hSw); go_simp <;> with_reducible rfl
      try simp only [List.getElem_toArray, List.getElem_cons_succ, List.getElem_cons_zero, Act.put, List.setIfInBounds_toArray, List.set_cons_zero, List.set_cons_succ]
      refine wpAnyH_take (i := 3) (v := ?va3) rfl (by kernel_rfl) (by kernel_rfl) (by kernel_rfl) (fun _ _ _ h => h) (Or.inl ⟨by rfl, ?ya3⟩) (by assumption) ?_
      case ya3 => intro w hSw; (try dsimp only at hSw); go_simp <;> with_reducible rfl
      try simp only [List.getElem_toArray, List.getElem_cons_succ, List.getElem_cons_zero, Act.put, List.setIfInBounds_toArray, List.set_cons_zero, List.set_cons_succ]
      refine wpAnyH_take (i := 4) (v := ?va4) rfl (by kernel_rfl) (by kernel_rfl) (by kernel_rfl) (fun _ _ _ h => h) (Or.inl ⟨by rfl, ?ya4⟩) (by assumption) ?_
      case ya4 => intro w hSw; (try dsimp only at hSw); go_simp <;> with_reducible rfl
      try simp only [List.getElem_toArray, List.getElem_cons_succ, List.getElem_cons_zero, Act.put, List.setIfInBounds_toArray, List.set_cons_zero, List.set_cons_succ]
      refine wpAnyH_take (i := 5) (v := ?va5) rfl (by kernel_rfl) (by kernel_rfl) (by kernel_rfl) (fun _ _ _ h => h) (Or.inl ⟨by rfl, ?ya5⟩) (by assumption) ?_
      case ya5 => intro w hSw; (try dsimp only at hSw); go_simp <;> with_reducible rfl
      try simp only [List.getElem_toArray, List.getElem_cons_succ, List.getElem_cons_zero, Act.put, List.setIfInBounds_toArray, List.set_cons_zero, List.set_cons_succ]
      refine wpAnyH_take (i := 6) (v := ?va6) rfl (by kernel_rfl) (by kernel_rfl) (by kernel_rfl) (fun _ _ _ h => h) (Or.inl ⟨by rfl, ?ya6⟩) (by assumption) ?_
      case ya6 => intro w hSw; (try dsimp only at hSw); go_simp <;> with_reducible rfl
      try simp only [List.getElem_toArray, List.getElem_cons_succ, List.getElem_cons_zero, Act.put, List.setIfInBounds_toArray, List.set_cons_zero, List.set_cons_succ]
      refine wpAnyH_take (i := 7) (v := ?va7) rfl (by kernel_rfl) (by kernel_rfl) (by kernel_rfl) (fun _ _ _ h => h) (Or.inl ⟨by rfl, ?ya7⟩) (by assumption) ?_
      case ya7 => intro w hSw; (try dsimp only at hSw); go_simp <;> with_reducible rfl
      try simp only [List.getElem_toArray, List.getElem_cons_succ, List.getElem_cons_zero, Act.put, List.setIfInBounds_toArray, List.set_cons_zero, List.set_cons_succ]
      refine wpAnyH_take (i := 8) (v := ?va8) rfl (by kernel_rfl) (by kernel_rfl) (by kernel_rfl) (fun _ _ _ h => h) (Or.inl ⟨by rfl, ?ya8⟩) (by assumption) ?_
      case ya8 => intro w hSw; (try dsimp only at hSw); go_simp <;> with_reducible rfl
      try simp only [List.getElem_toArray, List.getElem_cons_succ, List.getElem_cons_zero, Act.put, List.setIfInBounds_toArray, List.set_cons_zero, List.set_cons_succ]
      refine wpAnyH_take (i := 9) (v := ?va9) rfl (by kernel_rfl) (by kernel_rfl) (by kernel_rfl) (fun _ _ _ h => h) (Or.inl ⟨by rfl, ?ya9⟩) (by assumption) ?_
      case ya9 => intro w hSw; (try dsimp only at hSw); go_simp <;> with_reducible rfl
      try simp only [List.getElem_toArray, List.getElem_cons_succ, List.getElem_cons_zero, Act.put, List.setIfInBounds_toArray, List.set_cons_zero, List.set_cons_succ]
      refine wpAnyH_take (i := 10) (v := ?va10) rfl (by kernel_rfl) (by kernel_rfl) (by kernel_rfl) (fun _ _ _ h => h) (Or.inl ⟨by rfl, ?ya10⟩) (by assumption) ?_
      case ya10 => intro w hSw; (try dsimp only at hSw); go_simp <;> with_reducible rfl
      try simp only [List.getElem_toArray, List.getElem_cons_succ, List.getElem_cons_zero, Act.put, List.setIfInBounds_toArray, List.set_cons_zero, List.set_cons_succ]
      refine wpAnyH_take (i := 11) (v := ?va11) rfl (by kernel_rfl) (by kernel_rfl) (by kernel_rfl) (fun _ _ _ h => h) (Or.inl ⟨by rfl, ?ya11⟩) (by assumption) ?_
      case ya11 => intro w hSw; (try dsimp only at hSw); go_simp <;> with_reducible rfl
      try simp only [List.getElem_toArray, List.getElem_cons_succ, List.getElem_cons_zero, Act.put, List.setIfInBounds_toArray, List.set_cons_zero, List.set_cons_succ]
      refine wpAnyH_ready (rs := [1, 12]) (by kernel_rfl) (by simp) ?_
      refine AllReadyH.cons rfl (fun K hK => ?_) ?zb6
      case zb6 =>
        refine AllReadyH.cons rfl (fun K hK => ?_) AllReadyH.nil
        go_simp
        refine hK.out _ _ S4.out (fun hNew => ?_)
        clear hNew hK K
        try simp only [List.getElem_toArray, List.getElem_cons_succ, List.getElem_cons_zero, Act.put, List.setIfInBounds_toArray, List.set_cons_zero, List.set_cons_succ]
        refine wpAnyH_ready (rs := [1]) (by kernel_rfl) (by simp) ?_
        refine AllReadyH.cons rfl (fun K hK => ?_) AllReadyH.nil
        go_simp
        refine hK.out _ _ S4.out (fun hNew => ?_)
        clear hNew hK K
        try simp only [List.getElem_toArray, List.getElem_cons_succ, List.getElem_cons_zero, Act.put, List.setIfInBounds_toArray, List.set_cons_zero, List.set_cons_succ]
        refine wpAnyH_ready (rs := [13]) (by kernel_rfl) (by simp) ?_
        refine AllReadyH.cons rfl (fun K hK => ?_) AllReadyH.nil
        refine step_append_at rfl (.tmp 17) (.tmp 28) 26 63 rfl Try.underlying26 span_info rfl (by decide) (w.heap.size + 2) (.slice vo k vc) k (sps (L.take k)) rfl OX.out (.slice (some ⟨wo.heap.size, 0, none⟩) 1 1) 1 (sps [⟨xf, xt, hxf, hxt⟩]) rfl SE.out (sps_oneCell _) (by omega) (by omega) (by show w.heap.size + 2 ≤ (wo.alloc _).heap.size; rw [World.size_alloc]; omega) ?_
        intro v5 w5 o5 g5 b5 l5
        obtain ⟨h5, B5, p0, p1⟩ := S5.out w5 g5
        have O5 : Hid (w5.ownsRow (w.heap.size + 2) 63 2 v5 (k + 1) (sps (L.take (k + 1)))) := by show World.ownsRow _ _ _ _ _ _ _; rw [HS.out, sps_append]; exact o5
        refine hK.out _ _ h5 (fun hNew => ?_)
        clear hK K o5 g5 b5 l5
        try simp only [List.getElem_toArray, List.getElem_cons_succ, List.getElem_cons_zero, Act.put, List.setIfInBounds_toArray, List.set_cons_zero, List.set_cons_succ]
        refine wpAnyH_take (i := 14) (v := ?va14) rfl (by kernel_rfl) (by kernel_rfl) (by kernel_rfl) (fun _ _ _ h => h) (Or.inl ⟨by rfl, ?ya14⟩) hNew ?_
        case ya14 => intro w hSw; (try dsimp only at hSw); go_simp <;> with_reducible rfl
        try simp only [List.getElem_toArray, List.getElem_cons_succ, List.getElem_cons_zero, Act.put, List.setIfInBounds_toArray, List.set_cons_zero, List.set_cons_succ]
        have z0 := cell_of_row w5 (w.heap.size + 1) 1 _ _ _ p1
        have z1 := frozen_of_row w5 (w.heap.size + 1) 1 _ _ p1
        obtain ⟨so, sc, rfl⟩ := Sees.shape (Sees.own O5.out)
        have p2 := heap_setCell_same w5 (w.heap.size + 1) 1 _ _ (.slice so (k + 1) sc) p1
        have z2 : w.heap.size + 1 < w5.heap.size := (Array.getElem?_eq_some_iff.1 p1).1
        have F6 : Hid (OfK w.heap.size r (k + 1) L w (w5.setCell ⟨w.heap.size + 1, 1, none⟩ (.slice so (k + 1) sc))) := by
          refine ⟨.slice so (k + 1) sc, ?_, p2, ?_, ?_⟩
          · exact (heap_setCell_other w5 ⟨w.heap.size + 1, 1, none⟩ w.heap.size _ (by show w.heap.size ≠ w.heap.size + 1; omega)).trans p0
          · exact O5.out.kept (grown_setCell w5 ⟨w.heap.size + 1, 1, none⟩ _) (.inr (fun e => by have h : w.heap.size + 2 ≤ w.heap.size + 1 := (O5.out.lt _ e).1; omega))
          · exact B5.setCell (p := ⟨w.heap.size + 1, 1, none⟩) (Nat.le_succ _) _
        have h6 : (fun w' => w'.cell? ⟨b, o + k * 2, none⟩ = some (.int .u32 (xf : Int)) ∧ w'.cell? ⟨b, o + (k * 2 + 1), none⟩ = some (.int .u32 (xt : Int))) (w5.setCell ⟨w.heap.size + 1, 1, none⟩ (.slice so (k + 1) sc)) := by
          exact ⟨(World.cell?_setCell_far _ _ _ _ (by show w.heap.size + 1 ≠ b; omega)).trans h5.1, (World.cell?_setCell_far _ _ _ _ (by show w.heap.size + 1 ≠ b; omega)).trans h5.2⟩
        clear hNew O5 p0 p1 p2
        refine wpAnyH_ready (rs := [15]) (by kernel_rfl) (by simp) ?_
        refine AllReadyH.cons rfl (fun K hK => ?_) AllReadyH.nil
        go_simp
        refine hK.out _ _ h6 (fun hNew => ?_)
        clear hNew hK K
        try simp only [List.getElem_toArray, List.getElem_cons_succ, List.getElem_cons_zero, Act.put, List.setIfInBounds_toArray, List.set_cons_zero, List.set_cons_succ]
        refine wpAnyH_done (by kernel_rfl) ?_ _
        clear hHeld OX SE S4 S5
        go_wp2
        go_roundw
        case rel => exact ⟨k + 1, by omega, by go_num, F6⟩
        case measure => simp [intOf]; omega
      go_simp
      refine hK.out _ _ hHeld (fun hNew => ?_)
      clear hNew hK K
      try simp only [List.getElem_toArray, List.getElem_cons_succ, List.getElem_cons_zero, Act.put, List.setIfInBounds_toArray, List.set_cons_zero, List.set_cons_succ]
      refine wpAnyH_ready (rs := [12]) (by kernel_rfl) (by simp) ?_
      refine AllReadyH.cons rfl (fun K hK => ?_) AllReadyH.nil
      go_simp
      refine hK.out _ _ S4.out (fun hNew => ?_)
      clear hNew hK K
      try simp only [List.getElem_toArray, List.getElem_cons_succ, List.getElem_cons_zero, Act.put, List.setIfInBounds_toArray, List.set_cons_zero, List.set_cons_succ]
      refine wpAnyH_ready (rs := [13]) (by kernel_rfl) (by simp) ?_
      refine AllReadyH.cons rfl (fun K hK => ?_) AllReadyH.nil
      refine step_append_at rfl (.tmp 17) (.tmp 28) 26 63 rfl Try.underlying26 span_info rfl (by decide) (w.heap.size + 2) (.slice vo k vc) k (sps (L.take k)) rfl OX.out (.slice (some ⟨wo.heap.size, 0, none⟩) 1 1) 1 (sps [⟨xf, xt, hxf, hxt⟩]) rfl SE.out (sps_oneCell _) (by omega) (by omega) (by show w.heap.size + 2 ≤ (wo.alloc _).heap.size; rw [World.size_alloc]; omega) ?_
      intro v5 w5 o5 g5 b5 l5
      obtain ⟨h5, B5, p0, p1⟩ := S5.out w5 g5
      have O5 : Hid (w5.ownsRow (w.heap.size + 2) 63 2 v5 (k + 1) (sps (L.take (k + 1)))) := by show World.ownsRow _ _ _ _ _ _ _; rw [HS.out, sps_append]; exact o5
      refine hK.out _ _ h5 (fun hNew => ?_)
      clear hK K o5 g5 b5 l5
      try simp only [List.getElem_toArray, List.getElem_cons_succ, List.getElem_cons_zero, Act.put, List.setIfInBounds_toArray, List.set_cons_zero, List.set_cons_succ]
      refine wpAnyH_take (i := 14) (v := ?va14) rfl (by kernel_rfl) (by kernel_rfl) (by kernel_rfl) (fun _ _ _ h => h) (Or.inl ⟨by rfl, ?ya14⟩) hNew ?_
      case ya14 => intro w hSw; (try dsimp only at hSw); go_simp <;> with_reducible rfl
      try simp only [List.getElem_toArray, List.getElem_cons_succ, List.getElem_cons_zero, Act.put, List.setIfInBounds_toArray, List.set_cons_zero, List.set_cons_succ]
      have z0 := cell_of_row w5 (w.heap.size + 1) 1 _ _ _ p1
      have z1 := frozen_of_row w5 (w.heap.size + 1) 1 _ _ p1
      obtain ⟨so, sc, rfl⟩ := Sees.shape (Sees.own O5.out)
      have p2 := heap_setCell_same w5 (w.heap.size + 1) 1 _ _ (.slice so (k + 1) sc) p1
      have z2 : w.heap.size + 1 < w5.heap.size := (Array.getElem?_eq_some_iff.1 p1).1
      have F6 : Hid (OfK w.heap.size r (k + 1) L w (w5.setCell ⟨w.heap.size + 1, 1, none⟩ (.slice so (k + 1) sc))) := by
        refine ⟨.slice so (k + 1) sc, ?_, p2, ?_, ?_⟩
        · exact (heap_setCell_other w5 ⟨w.heap.size + 1, 1, none⟩ w.heap.size _ (by show w.heap.size ≠ w.heap.size + 1; omega)).trans p0
        · exact O5.out.kept (grown_setCell w5 ⟨w.heap.size + 1, 1, none⟩ _) (.inr (fun e => by have h : w.heap.size + 2 ≤ w.heap.size + 1 := (O5.out.lt _ e).1; omega))
        · exact B5.setCell (p := ⟨w.heap.size + 1, 1, none⟩) (Nat.le_succ _) _
      have h6 : (fun w' => w'.cell? ⟨b, o + k * 2, none⟩ = some (.int .u32 (xf : Int)) ∧ w'.cell? ⟨b, o + (k * 2 + 1), none⟩ = some (.int .u32 (xt : Int))) (w5.setCell ⟨w.heap.size + 1, 1, none⟩ (.slice so (k + 1) sc)) := by
        exact ⟨(World.cell?_setCell_far _ _ _ _ (by show w.heap.size + 1 ≠ b; omega)).trans h5.1, (World.cell?_setCell_far _ _ _ _ (by show w.heap.size + 1 ≠ b; omega)).trans h5.2⟩
      clear hNew O5 p0 p1 p2
      refine wpAnyH_ready (rs := [15]) (by kernel_rfl) (by simp) ?_
      refine AllReadyH.cons rfl (fun K hK => ?_) AllReadyH.nil
      go_simp
      refine hK.out _ _ h6 (fun hNew => ?_)
      clear hNew hK K
      try simp only [List.getElem_toArray, List.getElem_cons_succ, List.getElem_cons_zero, Act.put, List.setIfInBounds_toArray, List.set_cons_zero, List.set_cons_succ]
      refine wpAnyH_done (by kernel_rfl) ?_ _
      clear hHeld OX SE S4 S5
      go_wp2
      go_roundw
      case rel => exact ⟨k + 1, by omega, by go_num, F6⟩
      case measure => simp [intOf]; omega
    · have q1 : decide ((((k * 2 : Nat) : Int) + 1) < ((m * 2 : Nat) : Int)) = false := decide_eq_false (by omega)
      have q1' : decide ((k : Int) * 2 + 1 < (m : Int) * 2) = false := decide_eq_false (by omega)
      obtain rfl : k = m := by omega
      have q6 : IntKind.i64.wrap (((k * 2 : Nat) : Int) + 1) = ((k * 2 : Nat) : Int) + 1 := IntWalk.i64_in _ (by omega)
      have q6' : IntKind.i64.wrap ((k : Int) * 2 + 1) = (k : Int) * 2 + 1 := IntWalk.i64_in _ (by omega)
      have hkk : L.take k = L := List.take_of_length_le (by have := HM.out; omega)
      rw [hkk] at hown
      obtain ⟨vo, vc, rfl⟩ := Sees.shape (Sees.own hown)
      have z0 := cell_of_row wo (w.heap.size + 1) 0 _ _ _ hb1
      have z1 := cell_of_row wo (w.heap.size + 1) 1 _ _ _ hb1
      have y0 := cell_of_row wo w.heap.size 0 _ _ _ hb0
      have y1 := cell_of_row wo w.heap.size 1 _ _ _ hb0
      have x0 := frozen_of_row wo w.heap.size 0 _ _ hb0
      have x1 := frozen_of_row wo w.heap.size 1 _ _ hb0
      have g1 : wo.grownBy (wo.setCell ⟨w.heap.size, 0, none⟩ (.int .u8 (r : Int))) (some w.heap.size) := grown_setCell wo ⟨w.heap.size, 0, none⟩ _
      have g2 : (wo.setCell ⟨w.heap.size, 0, none⟩ (.int .u8 (r : Int))).grownBy ((wo.setCell ⟨w.heap.size, 0, none⟩ (.int .u8 (r : Int))).setCell ⟨w.heap.size, 1, none⟩ (.slice vo k vc)) (some w.heap.size) := grown_setCell _ ⟨w.heap.size, 1, none⟩ _
      have OW := Lib.hid ((hown.kept g1 (.inr (fun e => by have := (hown.lt _ e).1; omega))).kept g2 (.inr (fun e => by have := (hown.lt _ e).1; omega)))
      have BW := Lib.hid ((hbel.setCell (p := ⟨w.heap.size, 0, none⟩) (Nat.le_refl _) (.int .u8 (r : Int))).setCell (p := ⟨w.heap.size, 1, none⟩) (Nat.le_refl _) (.slice vo k vc))
      have u0 := heap_setCell_same wo w.heap.size 0 _ _ (.int .u8 (r : Int)) hb0
      have u1 := heap_setCell_same _ w.heap.size 1 _ _ (.slice vo k vc) u0
      have t0 := cell_of_row _ w.heap.size 0 _ _ _ u1
      have t1 := cell_of_row _ w.heap.size 1 _ _ _ u1
      have HZ := Lib.hid (And.intro t0 t1)
      clear hkk hof hb0 hb1 hown hbel g1 g2 u0 u1 t0 t1
      go_wp2
      have t0 := HZ.out.1
      have t1 := HZ.out.2
      refine bodyPost_ret (v := .agg #[.int .u8 (r : Int), .slice vo k vc]) (by simp [results, Try.results10, go_sem, t0, t1]) rfl ⟨_, rfl, own_base OW.out (by omega), BW.out⟩
end Go.Proofs.Ytinglfhndlklaaa.Clocks
