/- octavolaw08's helpers: by, of. Conditions: the numbers are spans' ends, two by two. -/
import Derived.Test.YtmgdbgloacbacaaPk10
import Derived.Test.YtmgdbgloacbacaaPk09

namespace Go.Proofs.Ytmgdbgloacbacaa.Clocks
open Go.RowKit Go.Proofs.Ytmgdbgloacbacaa.Spans Go.Proofs.Ytmgdbgloacbacaa.Srt
attribute [local go_sem ↓] Go.wp_at_zero Go.wp_at_succ

theorem by08_any {t r : Nat} {w : World} :
    Calls Try.prog 46 #[.int .u32 (t : Int), .int .u8 (r : Int)] w fun e w' => e = .returned (.agg #[.int .u32 (t : Int), .int .u8 (r : Int)]) ∧ Below w.heap.size w w' := by
  go_enter Try.func46, Try.ntmps46
  go_wp2
  refine bodyPost_ret (v := .agg #[.int .u32 (t : Int), .int .u8 (r : Int)]) (by simp [results, Try.results46, go_sem]) rfl ⟨rfl, ?_⟩
  exact (Below.refl _ _).alloc (Nat.le_refl _) _

/-- Spans' ends, one by one. -/
def flat : List Sp → List Nat
  | [] => []
  | x :: l => x.f :: x.t :: flat l
theorem flat_len : ∀ l : List Sp, (flat l).length = l.length * 2
  | [] => rfl
  | x :: l => by simp [flat, flat_len l]; omega
theorem flat_get : ∀ (l : List Sp) (k : Nat), k < l.length → (flat l).getD (k * 2) 0 = (l.getD k zsp).f ∧ (flat l).getD (k * 2 + 1) 0 = (l.getD k zsp).t
  | x :: l, 0, _ => ⟨rfl, rfl⟩
  | x :: l, k + 1, h => by
    have ih := flat_get l k (by simpa using h)
    rw [show (k + 1) * 2 = k * 2 + 1 + 1 by omega]
    simpa [flat] using ih
theorem flat_cells {w : World} {b o cap n : Nat} {l : List Sp} (h : Sees w (.slice (some ⟨b, o, none⟩) n cap) 1 n (us (flat l))) (k : Nat) (hk : k < l.length) :
    b < w.heap.size ∧ w.cell? ⟨b, o + k * 2, none⟩ = some (.int .u32 ((l.getD k zsp).f : Int)) ∧ w.cell? ⟨b, o + (k * 2 + 1), none⟩ = some (.int .u32 ((l.getD k zsp).t : Int)) := by
  obtain ⟨hl, ao, c, he, h2, h3, h4, h5⟩ := h
  have hfl := flat_len l
  have hg := flat_get l k hk
  rcases h5 with h5 | ⟨b', o', e5, hlt, h6⟩
  · have : (us (flat l)).length = 0 := by rw [h5]; rfl
    rw [us_len] at this; omega
  · have e1 := (Value.slice.inj he).1
    rw [e5] at e1
    cases e1
    refine ⟨hlt, ?_, ?_⟩
    · rw [← hg.1]; exact h6 _ _ (us_get _ _ (by omega))
    · rw [← hg.2]; exact h6 _ _ (us_get _ _ (by omega))
theorem grown_setCell (w : World) (p : Addr) (v : Value) : w.grownBy (w.setCell p v) (some p.block) :=
  have h := (Below.refl 0 w).setCell (p := p) (Nat.zero_le _) v
  ⟨h.os, h.tape, h.output, h.size, fun k _ hne => heap_setCell_other w p k v (fun e => hne (by rw [e]))⟩
/-- What is kept: the place that is answered, the place at hand, and its spans. -/
def OfK (N r k : Nat) (L : List Sp) (w wr : World) : Prop :=
  ∃ v, wr.heap[N]? = some (.cells #[.int .u8 0, .slice none 0 0] 50) ∧ wr.heap[N + 1]? = some (.cells #[.int .u8 (r : Int), v] 50) ∧ wr.ownsRow (N + 2) 53 2 v k (sps (L.take k)) ∧ Below N w wr
set_option maxRecDepth 100000 in
set_option maxHeartbeats 4000000 in
theorem of08_any {b o cap r : Nat} {L : List Sp} {n : Nat} {w : World} (hr : r < 256) (hn : n = L.length * 2) (hn2 : n ≤ 1000000) (hv : Sees w (.slice (some ⟨b, o, none⟩) n cap) 1 n (us (flat L))) :
    Calls Try.prog 48 #[.int .u8 (r : Int), .slice (some ⟨b, o, none⟩) n cap] w fun e w' => ∃ v, e = .returned (.agg #[.int .u8 (r : Int), v]) ∧ w'.ownsRow w.heap.size 53 2 v L.length (sps L) ∧ Below w.heap.size w w' := by
  have HV := Lib.hid hv
  have HN := Lib.hid hn
  have hLn : L.length ≤ 1000000 := by omega
  obtain ⟨m, hm⟩ : ∃ m, m = L.length := ⟨_, rfl⟩
  have HM := Lib.hid hm
  have hmn : n = m * 2 := by omega
  subst hmn
  rw [← hm] at hLn
  rw [← hm]
  have O0 : Hid (OfK w.heap.size r 0 L w ((w.alloc (.cells #[.int .u8 0, .slice none 0 0] 50)).alloc (.cells #[.int .u8 (r : Int), .slice none 0 0] 50))) :=
    ⟨.slice none 0 0, blk_old (kb_new rfl), kb_new (by simp), World.ownsRow_nil _ _ _ _, ((Below.refl w.heap.size w).alloc (Nat.le_refl _) _).alloc (by simp) _⟩
  clear hv hn hm
  go_enter Try.func48, Try.ntmps48
  go_wp2
  go_loopw [6] (fun i wr => ∃ k : Nat, k ≤ m ∧ i = .int .i64 ((k * 2 : Nat) : Int) ∧ Hid (OfK w.heap.size r k L w wr)) (fun i _ => m * 2 - (intOf i).toNat)
  case atStart => exact ⟨0, by omega, rfl, O0⟩
  case round =>
    clear O0
    obtain ⟨k, hk, rfl, hof⟩ := hrel
    obtain ⟨wo, rfl⟩ : ∃ wo : World, wo = wr := ⟨_, rfl⟩
    obtain ⟨v, hb0, hb1, hown, hbel⟩ := hof.out
    by_cases hkm : k < m
    · have q1 : decide ((((k * 2 : Nat) : Int) + 1) < ((m * 2 : Nat) : Int)) = true := decide_eq_true (by omega)
      have q1' : decide ((k : Int) * 2 + 1 < (m : Int) * 2) = true := decide_eq_true (by omega)
      have q2 : (0 : Int) ≤ ((k * 2 : Nat) : Int) := by omega
      have q3 : ((k * 2 : Nat) : Int) < ((m * 2 : Nat) : Int) := by omega
      have q4 : (0 : Int) ≤ ((k * 2 : Nat) : Int) + 1 := by omega
      have q5 : ((k * 2 : Nat) : Int) + 1 < ((m * 2 : Nat) : Int) := by omega
      have q6 : IntKind.i64.wrap (((k * 2 : Nat) : Int) + 1) = ((k * 2 : Nat) : Int) + 1 := IntWalk.i64_in _ (by omega)
      have q7 : (((k * 2 : Nat) : Int) + 1).toNat = k * 2 + 1 := by omega
      have q8 : (((k * 2 : Nat) : Int)).toNat = k * 2 := by omega
      have hkl : k < L.length := by rw [← HM.out]; exact hkm
      obtain ⟨hb, hx0, hx1⟩ := flat_cells HV.out k hkl
      have hx0 := (hbel.cell (p := ⟨b, o + k * 2, none⟩) hb).trans hx0
      have hx1 := (hbel.cell (p := ⟨b, o + (k * 2 + 1), none⟩) hb).trans hx1
      have hs : L.take (k + 1) = L.take k ++ [L.getD k zsp] := by
        rw [List.take_succ_eq_append_getElem hkl]
        simp [List.getD, List.getElem?_eq_getElem hkl]
      obtain ⟨x, hx⟩ : ∃ x, x = L.getD k zsp := ⟨_, rfl⟩
      rw [← hx] at hx0 hx1 hs
      obtain ⟨xf, xt, hxf, hxt⟩ := x
      simp only at hx0 hx1
      obtain ⟨vo, vc, rfl⟩ := Sees.shape (Sees.own hown)
      have c1 : wo.cell? ⟨w.heap.size + 1, 1, none⟩ = some (.slice vo k vc) := cell_of_row wo (w.heap.size + 1) 1 _ _ _ hb1
      clear hx
      go_upto_region 5 with fail
      have q3' : (k : Int) * 2 < (m : Int) * 2 := by omega
      have q2' : (0 : Int) ≤ (k : Int) * 2 := by omega
      have q4' : (0 : Int) ≤ (k : Int) * 2 + 1 := by omega
      have q5' : (k : Int) * 2 + 1 < (m : Int) * 2 := by omega
      have q6' : IntKind.i64.wrap ((k : Int) * 2 + 1) = (k : Int) * 2 + 1 := IntWalk.i64_in _ (by omega)
      have q7' : ((k : Int) * 2 + 1).toNat = k * 2 + 1 := by omega
      have q8' : ((k : Int) * 2).toNat = k * 2 := by omega
      have hsz : w.heap.size + 2 ≤ wo.heap.size := (Array.getElem?_eq_some_iff.1 hb1).1
      have c1a : (wo.alloc (.cells #[.int .u32 (xf : Int), .int .u32 (xt : Int)] 53)).cell? ⟨w.heap.size + 1, 1, none⟩ = some (.slice vo k vc) := (((Below.refl wo.heap.size wo).alloc (Nat.le_refl _) _).cell (p := ⟨w.heap.size + 1, 1, none⟩) (by show w.heap.size + 1 < _; omega)).trans c1
      have hxN : xf < 4294967296 ∧ xt < 4294967296 := ⟨hxf, hxt⟩
      have OX : Hid ((wo.alloc (.cells #[.int .u32 (xf : Int), .int .u32 (xt : Int)] 53)).drew.ownsRow (w.heap.size + 2) 53 2 (.slice vo k vc) k (sps (L.take k))) := own_stays hown ((Below.refl wo.heap.size wo).alloc (Nat.le_refl _) _).drew
      have SE : Hid (Sees (wo.alloc (.cells #[.int .u32 (xf : Int), .int .u32 (xt : Int)] 53)).drew (.slice (some ⟨wo.heap.size, 0, none⟩) 1 1) 2 1 (sps [⟨xf, xt, hxf, hxt⟩])) := sees_sp (a := ⟨xf, xt, hxf, hxt⟩) (kb_new rfl) rfl rfl
      have hNE : ∀ j, j < w.heap.size + 2 → (Value.slice vo k vc).ownBlock ≠ some j := fun j hj e => by have := (hown.lt j e).1; omega
      have BD : Below w.heap.size w (wo.alloc (.cells #[.int .u32 (xf : Int), .int .u32 (xt : Int)] 53)).drew := (hbel.alloc (by omega) _).drew
      have S5 : Hid (∀ w5, (wo.alloc (.cells #[.int .u32 (xf : Int), .int .u32 (xt : Int)] 53)).drew.grownBy w5 (Value.slice vo k vc).ownBlock → (fun w' => w'.cell? ⟨b, o + k * 2, none⟩ = some (.int .u32 (xf : Int)) ∧ w'.cell? ⟨b, o + (k * 2 + 1), none⟩ = some (.int .u32 (xt : Int))) w5 ∧ Below w.heap.size w w5 ∧ w5.heap[w.heap.size]? = some (.cells #[.int .u8 0, .slice none 0 0] 50) ∧ w5.heap[w.heap.size + 1]? = some (.cells #[.int .u8 (r : Int), .slice vo k vc] 50)) := fun w5 g5 => by
        have hz : w.heap.size + 2 ≤ (wo.alloc (.cells #[.int .u32 (xf : Int), .int .u32 (xt : Int)] 53)).drew.heap.size := by show _ ≤ (wo.alloc _).heap.size; rw [World.size_alloc]; omega
        have B5 : Below w.heap.size w w5 := BD.grown g5 (by omega) (fun j e => by have := (hown.lt j e).1; omega)
        have c5 : ∀ p : Nat, w5.cell? ⟨b, p, none⟩ = wo.cell? ⟨b, p, none⟩ := fun p => ((B5.cell (p := ⟨b, p, none⟩) hb)).trans (hbel.cell (p := ⟨b, p, none⟩) hb).symm
        refine ⟨⟨(c5 _).trans hx0, (c5 _).trans hx1⟩, B5, ?_, ?_⟩
        · exact (g5.block _ (by omega) (fun e => hNE _ (by omega) e.symm)).trans ((Below.heap_alloc wo _ _ (by omega)).trans hb0)
        · exact (g5.block _ (by omega) (fun e => hNE _ (by omega) e.symm)).trans ((Below.heap_alloc wo _ _ (by omega)).trans hb1)
      have S4 : Hid ((fun w' => w'.cell? ⟨b, o + k * 2, none⟩ = some (.int .u32 (xf : Int)) ∧ w'.cell? ⟨b, o + (k * 2 + 1), none⟩ = some (.int .u32 (xt : Int))) (wo.alloc (.cells #[.int .u32 (xf : Int), .int .u32 (xt : Int)] 53)).drew) := by
        have c5 : ∀ p : Nat, (wo.alloc (.cells #[.int .u32 (xf : Int), .int .u32 (xt : Int)] 53)).drew.cell? ⟨b, p, none⟩ = wo.cell? ⟨b, p, none⟩ := fun p => ((BD.cell (p := ⟨b, p, none⟩) hb)).trans (hbel.cell (p := ⟨b, p, none⟩) hb).symm
        exact ⟨(c5 _).trans hx0, (c5 _).trans hx1⟩
      have HS := Lib.hid hs
      have hkb : k ≤ 1000000 := by omega
      clear hof hb0 hb1 hown hbel hs BD hNE
      refine wp_region_held_drew (S := fun w' => w'.cell? ⟨b, o + k * 2, none⟩ = some (.int .u32 (xf : Int)) ∧ w'.cell? ⟨b, o + (k * 2 + 1), none⟩ = some (.int .u32 (xt : Int))) (by kernel_rfl) ⟨hx0, hx1⟩ (fun hHeld => ?_)
      refine wpAnyH_take (i := 0) (v := ?va0) rfl (by kernel_rfl) (by kernel_rfl) (by kernel_rfl) (fun _ _ _ h => h) (Or.inl ⟨by rfl, ?ya0⟩) (by assumption) ?_
      case ya0 => intro w hSw; (try dsimp only at hSw); go_simp <;> with_reducible rfl
      try simp only [List.getElem_toArray, List.getElem_cons_zero, Act.put, List.setIfInBounds_toArray, List.set_cons_zero, List.set_cons_succ]
      refine wpAnyH_take (i := 2) (v := ?va2) rfl (by kernel_rfl) (by kernel_rfl) (by kernel_rfl) (fun _ _ _ h => h) (Or.inl ⟨by rfl, ?ya2⟩) (by assumption) ?_
      case ya2 => intro w hSw; (try dsimp only at hSw); go_simp <;> with_reducible rfl
      try simp only [List.getElem_toArray, List.getElem_cons_succ, List.getElem_cons_zero, Act.put, List.setIfInBounds_toArray, List.set_cons_zero, List.set_cons_succ]
      refine wpAnyH_take (i := 3) (v := ?va3) rfl (by kernel_rfl) (by kernel_rfl) (by kernel_rfl) (fun _ _ _ h => h) (Or.inl ⟨by rfl, ?ya3⟩) (by assumption) ?_
      case ya3 => intro w hSw; (try dsimp only at hSw); go_simp <;> with_reducible rfl
      try simp only [List.getElem_toArray, List.getElem_cons_succ, List.getElem_cons_zero, Act.put, List.setIfInBounds_toArray, List.set_cons_zero, List.set_cons_succ]
      refine wpAnyH_take (i := 4) (v := ?va4) rfl (by kernel_rfl) (by kernel_rfl) (by kernel_rfl) (fun _ _ _ h => h) (Or.inl ⟨by rfl, ?ya4⟩) (by assumption) ?_
      case ya4 => intro w hSw; (try dsimp only at hSw); go_simp <;> with_reducible rfl
      try simp only [List.getElem_toArray, List.getElem_cons_succ, List.getElem_cons_zero, Act.put, List.setIfInBounds_toArray, List.set_cons_zero, List.set_cons_succ]
      refine wpAnyH_take (i := 5) (v := ?va5) rfl (by kernel_rfl) (by kernel_rfl) (by kernel_rfl) (fun _ _ _ h => h) (Or.inl ⟨by rfl, ?ya5⟩) (by assumption) ?_
      case ya5 => intro w hSw; (try dsimp only at hSw); go_simp <;> with_reducible rfl
      try simp only [List.getElem_toArray, List.getElem_cons_succ, List.getElem_cons_zero, Act.put, List.setIfInBounds_toArray, List.set_cons_zero, List.set_cons_succ]
      refine wpAnyH_take (i := 6) (v := ?va6) rfl (by kernel_rfl) (by kernel_rfl) (by kernel_rfl) (fun _ _ _ h => h) (Or.inl ⟨by rfl, ?ya6⟩) (by assumption) ?_
      case ya6 => intro w hSw; (try dsimp only at hSw); go_simp <;> with_reducible rfl
      try simp only [List.getElem_toArray, List.getElem_cons_succ, List.getElem_cons_zero, Act.put, List.setIfInBounds_toArray, List.set_cons_zero, List.set_cons_succ]
      refine wpAnyH_take (i := 7) (v := ?va7) rfl (by kernel_rfl) (by kernel_rfl) (by kernel_rfl) (fun _ _ _ h => h) (Or.inl ⟨by rfl, ?ya7⟩) (by assumption) ?_
      case ya7 => intro w hSw; (try dsimp only at hSw); go_simp <;> with_reducible rfl
      try simp only [List.getElem_toArray, List.getElem_cons_succ, List.getElem_cons_zero, Act.put, List.setIfInBounds_toArray, List.set_cons_zero, List.set_cons_succ]
      refine wpAnyH_take (i := 8) (v := ?va8) rfl (by kernel_rfl) (by kernel_rfl) (by kernel_rfl) (fun _ _ _ h => h) (Or.inl ⟨by rfl, ?ya8⟩) (by assumption) ?_
      case ya8 => intro w hSw; (try dsimp only at hSw); go_simp <;> with_reducible rfl
      try simp only [List.getElem_toArray, List.getElem_cons_succ, List.getElem_cons_zero, Act.put, List.setIfInBounds_toArray, List.set_cons_zero, List.set_cons_succ]
      refine wpAnyH_take (i := 9) (v := ?va9) rfl (by kernel_rfl) (by kernel_rfl) (by kernel_rfl) (fun _ _ _ h => h) (Or.inl ⟨by rfl, ?ya9⟩) (by assumption) ?_
      case ya9 => intro w hSw; (try dsimp only at hSw); go_simp <;> with_reducible rfl
      try simp only [List.getElem_toArray, List.getElem_cons_succ, List.getElem_cons_zero, Act.put, List.setIfInBounds_toArray, List.set_cons_zero, List.set_cons_succ]
      refine wpAnyH_take (i := 10) (v := ?va10) rfl (by kernel_rfl) (by kernel_rfl) (by kernel_rfl) (fun _ _ _ h => h) (Or.inl ⟨by rfl, ?ya10⟩) (by assumption) ?_
      case ya10 => intro w hSw; (try dsimp only at hSw); go_simp <;> with_reducible rfl
      try simp only [List.getElem_toArray, List.getElem_cons_succ, List.getElem_cons_zero, Act.put, List.setIfInBounds_toArray, List.set_cons_zero, List.set_cons_succ]
      refine wpAnyH_take (i := 11) (v := ?va11) rfl (by kernel_rfl) (by kernel_rfl) (by kernel_rfl) (fun _ _ _ h => h) (Or.inl ⟨by rfl, ?ya11⟩) (by assumption) ?_
      case ya11 => intro w hSw; (try dsimp only at hSw); go_simp <;> with_reducible rfl
      try simp only [List.getElem_toArray, List.getElem_cons_succ, List.getElem_cons_zero, Act.put, List.setIfInBounds_toArray, List.set_cons_zero, List.set_cons_succ]
      refine wpAnyH_ready (rs := [1, 12]) (by kernel_rfl) (by simp) ?_
      refine AllReadyH.cons rfl (fun K hK => ?_) ?zb6
      case zb6 =>
        refine AllReadyH.cons rfl (fun K hK => ?_) AllReadyH.nil
        go_simp
        refine hK.out _ _ S4.out (fun hNew => ?_)
        clear hNew hK K
        try simp only [List.getElem_toArray, List.getElem_cons_succ, List.getElem_cons_zero, Act.put, List.setIfInBounds_toArray, List.set_cons_zero, List.set_cons_succ]
        refine wpAnyH_ready (rs := [1]) (by kernel_rfl) (by simp) ?_
        refine AllReadyH.cons rfl (fun K hK => ?_) AllReadyH.nil
        go_simp
        refine hK.out _ _ S4.out (fun hNew => ?_)
        clear hNew hK K
        try simp only [List.getElem_toArray, List.getElem_cons_succ, List.getElem_cons_zero, Act.put, List.setIfInBounds_toArray, List.set_cons_zero, List.set_cons_succ]
        refine wpAnyH_ready (rs := [13]) (by kernel_rfl) (by simp) ?_
        refine AllReadyH.cons rfl (fun K hK => ?_) AllReadyH.nil
        refine step_append_at rfl (.tmp 17) (.tmp 28) 48 53 rfl Try.underlying48 span_info rfl (by decide) (w.heap.size + 2) (.slice vo k vc) k (sps (L.take k)) rfl OX.out (.slice (some ⟨wo.heap.size, 0, none⟩) 1 1) 1 (sps [⟨xf, xt, hxf, hxt⟩]) rfl SE.out (sps_oneCell _) (by omega) (by omega) (by show w.heap.size + 2 ≤ (wo.alloc _).heap.size; rw [World.size_alloc]; omega) ?_
        intro v5 w5 o5 g5 b5 l5
        obtain ⟨h5, B5, p0, p1⟩ := S5.out w5 g5
        have O5 : Hid (w5.ownsRow (w.heap.size + 2) 53 2 v5 (k + 1) (sps (L.take (k + 1)))) := by show World.ownsRow _ _ _ _ _ _ _; rw [HS.out, sps_append]; exact o5
        refine hK.out _ _ h5 (fun hNew => ?_)
        clear hK K o5 g5 b5 l5
        try simp only [List.getElem_toArray, List.getElem_cons_succ, List.getElem_cons_zero, Act.put, List.setIfInBounds_toArray, List.set_cons_zero, List.set_cons_succ]
        refine wpAnyH_take (i := 14) (v := ?va14) rfl (by kernel_rfl) (by kernel_rfl) (by kernel_rfl) (fun _ _ _ h => h) (Or.inl ⟨by rfl, ?ya14⟩) hNew ?_
        case ya14 => intro w hSw; (try dsimp only at hSw); go_simp <;> with_reducible rfl
        try simp only [List.getElem_toArray, List.getElem_cons_succ, List.getElem_cons_zero, Act.put, List.setIfInBounds_toArray, List.set_cons_zero, List.set_cons_succ]
        have z0 := cell_of_row w5 (w.heap.size + 1) 1 _ _ _ p1
        have z1 := frozen_of_row w5 (w.heap.size + 1) 1 _ _ p1
        obtain ⟨so, sc, rfl⟩ := Sees.shape (Sees.own O5.out)
        have p2 := heap_setCell_same w5 (w.heap.size + 1) 1 _ _ (.slice so (k + 1) sc) p1
        have z2 : w.heap.size + 1 < w5.heap.size := (Array.getElem?_eq_some_iff.1 p1).1
        have F6 : Hid (OfK w.heap.size r (k + 1) L w (w5.setCell ⟨w.heap.size + 1, 1, none⟩ (.slice so (k + 1) sc))) := by
          refine ⟨.slice so (k + 1) sc, ?_, p2, ?_, ?_⟩
          · exact (heap_setCell_other w5 ⟨w.heap.size + 1, 1, none⟩ w.heap.size _ (by show w.heap.size ≠ w.heap.size + 1; omega)).trans p0
          · exact O5.out.kept (grown_setCell w5 ⟨w.heap.size + 1, 1, none⟩ _) (.inr (fun e => by have h : w.heap.size + 2 ≤ w.heap.size + 1 := (O5.out.lt _ e).1; omega))
          · exact B5.setCell (p := ⟨w.heap.size + 1, 1, none⟩) (Nat.le_succ _) _
        have h6 : (fun w' => w'.cell? ⟨b, o + k * 2, none⟩ = some (.int .u32 (xf : Int)) ∧ w'.cell? ⟨b, o + (k * 2 + 1), none⟩ = some (.int .u32 (xt : Int))) (w5.setCell ⟨w.heap.size + 1, 1, none⟩ (.slice so (k + 1) sc)) := by
          exact ⟨(World.cell?_setCell_far _ _ _ _ (by show w.heap.size + 1 ≠ b; omega)).trans h5.1, (World.cell?_setCell_far _ _ _ _ (by show w.heap.size + 1 ≠ b; omega)).trans h5.2⟩
        clear hNew O5 p0 p1 p2
        refine wpAnyH_ready (rs := [15]) (by kernel_rfl) (by simp) ?_
        refine AllReadyH.cons rfl (fun K hK => ?_) AllReadyH.nil
        go_simp
        refine hK.out _ _ h6 (fun hNew => ?_)
        clear hNew hK K
        try simp only [List.getElem_toArray, List.getElem_cons_succ, List.getElem_cons_zero, Act.put, List.setIfInBounds_toArray, List.set_cons_zero, List.set_cons_succ]
        refine wpAnyH_done (by kernel_rfl) ?_ _
        clear hHeld OX SE S4 S5
        go_wp2
        go_roundw
        case rel => exact ⟨k + 1, by omega, by go_num, F6⟩
        case measure => simp [intOf]; omega
      go_simp
      refine hK.out _ _ hHeld (fun hNew => ?_)
      clear hNew hK K
      try simp only [List.getElem_toArray, List.getElem_cons_succ, List.getElem_cons_zero, Act.put, List.setIfInBounds_toArray, List.set_cons_zero, List.set_cons_succ]
      refine wpAnyH_ready (rs := [12]) (by kernel_rfl) (by simp) ?_
      refine AllReadyH.cons rfl (fun K hK => ?_) AllReadyH.nil
      go_simp
      refine hK.out _ _ S4.out (fun hNew => ?_)
      clear hNew hK K
      try simp only [List.getElem_toArray, List.getElem_cons_succ, List.getElem_cons_zero, Act.put, List.setIfInBounds_toArray, List.set_cons_zero, List.set_cons_succ]
      refine wpAnyH_ready (rs := [13]) (by kernel_rfl) (by simp) ?_
      refine AllReadyH.cons rfl (fun K hK => ?_) AllReadyH.nil
      refine step_append_at rfl (.tmp 17) (.tmp 28) 48 53 rfl Try.underlying48 span_info rfl (by decide) (w.heap.size + 2) (.slice vo k vc) k (sps (L.take k)) rfl OX.out (.slice (some ⟨wo.heap.size, 0, none⟩) 1 1) 1 (sps [⟨xf, xt, hxf, hxt⟩]) rfl SE.out (sps_oneCell _) (by omega) (by omega) (by show w.heap.size + 2 ≤ (wo.alloc _).heap.size; rw [World.size_alloc]; omega) ?_
      intro v5 w5 o5 g5 b5 l5
      obtain ⟨h5, B5, p0, p1⟩ := S5.out w5 g5
      have O5 : Hid (w5.ownsRow (w.heap.size + 2) 53 2 v5 (k + 1) (sps (L.take (k + 1)))) := by show World.ownsRow _ _ _ _ _ _ _; rw [HS.out, sps_append]; exact o5
      refine hK.out _ _ h5 (fun hNew => ?_)
      clear hK K o5 g5 b5 l5
      try simp only [List.getElem_toArray, List.getElem_cons_succ, List.getElem_cons_zero, Act.put, List.setIfInBounds_toArray, List.set_cons_zero, List.set_cons_succ]
      refine wpAnyH_take (i := 14) (v := ?va14) rfl (by kernel_rfl) (by kernel_rfl) (by kernel_rfl) (fun _ _ _ h => h) (Or.inl ⟨by rfl, ?ya14⟩) hNew ?_
      case ya14 => intro w hSw; (try dsimp only at hSw); go_simp <;> with_reducible rfl
      try simp only [List.getElem_toArray, List.getElem_cons_succ, List.getElem_cons_zero, Act.put, List.setIfInBounds_toArray, List.set_cons_zero, List.set_cons_succ]
      have z0 := cell_of_row w5 (w.heap.size + 1) 1 _ _ _ p1
      have z1 := frozen_of_row w5 (w.heap.size + 1) 1 _ _ p1
      obtain ⟨so, sc, rfl⟩ := Sees.shape (Sees.own O5.out)
      have p2 := heap_setCell_same w5 (w.heap.size + 1) 1 _ _ (.slice so (k + 1) sc) p1
      have z2 : w.heap.size + 1 < w5.heap.size := (Array.getElem?_eq_some_iff.1 p1).1
      have F6 : Hid (OfK w.heap.size r (k + 1) L w (w5.setCell ⟨w.heap.size + 1, 1, none⟩ (.slice so (k + 1) sc))) := by
        refine ⟨.slice so (k + 1) sc, ?_, p2, ?_, ?_⟩
        · exact (heap_setCell_other w5 ⟨w.heap.size + 1, 1, none⟩ w.heap.size _ (by show w.heap.size ≠ w.heap.size + 1; omega)).trans p0
        · exact O5.out.kept (grown_setCell w5 ⟨w.heap.size + 1, 1, none⟩ _) (.inr (fun e => by have h : w.heap.size + 2 ≤ w.heap.size + 1 := (O5.out.lt _ e).1; omega))
        · exact B5.setCell (p := ⟨w.heap.size + 1, 1, none⟩) (Nat.le_succ _) _
      have h6 : (fun w' => w'.cell? ⟨b, o + k * 2, none⟩ = some (.int .u32 (xf : Int)) ∧ w'.cell? ⟨b, o + (k * 2 + 1), none⟩ = some (.int .u32 (xt : Int))) (w5.setCell ⟨w.heap.size + 1, 1, none⟩ (.slice so (k + 1) sc)) := by
        exact ⟨(World.cell?_setCell_far _ _ _ _ (by show w.heap.size + 1 ≠ b; omega)).trans h5.1, (World.cell?_setCell_far _ _ _ _ (by show w.heap.size + 1 ≠ b; omega)).trans h5.2⟩
      clear hNew O5 p0 p1 p2
      refine wpAnyH_ready (rs := [15]) (by kernel_rfl) (by simp) ?_
      refine AllReadyH.cons rfl (fun K hK => ?_) AllReadyH.nil
      go_simp
      refine hK.out _ _ h6 (fun hNew => ?_)
      clear hNew hK K
      try simp only [List.getElem_toArray, List.getElem_cons_succ, List.getElem_cons_zero, Act.put, List.setIfInBounds_toArray, List.set_cons_zero, List.set_cons_succ]
      refine wpAnyH_done (by kernel_rfl) ?_ _
      clear hHeld OX SE S4 S5
      go_wp2
      go_roundw
      case rel => exact ⟨k + 1, by omega, by go_num, F6⟩
      case measure => simp [intOf]; omega
    · have q1 : decide ((((k * 2 : Nat) : Int) + 1) < ((m * 2 : Nat) : Int)) = false := decide_eq_false (by omega)
      have q1' : decide ((k : Int) * 2 + 1 < (m : Int) * 2) = false := decide_eq_false (by omega)
      obtain rfl : k = m := by omega
      have q6 : IntKind.i64.wrap (((k * 2 : Nat) : Int) + 1) = ((k * 2 : Nat) : Int) + 1 := IntWalk.i64_in _ (by omega)
      have q6' : IntKind.i64.wrap ((k : Int) * 2 + 1) = (k : Int) * 2 + 1 := IntWalk.i64_in _ (by omega)
      have hkk : L.take k = L := List.take_of_length_le (by have := HM.out; omega)
      rw [hkk] at hown
      obtain ⟨vo, vc, rfl⟩ := Sees.shape (Sees.own hown)
      have z0 := cell_of_row wo (w.heap.size + 1) 0 _ _ _ hb1
      have z1 := cell_of_row wo (w.heap.size + 1) 1 _ _ _ hb1
      have y0 := cell_of_row wo w.heap.size 0 _ _ _ hb0
      have y1 := cell_of_row wo w.heap.size 1 _ _ _ hb0
      have x0 := frozen_of_row wo w.heap.size 0 _ _ hb0
      have x1 := frozen_of_row wo w.heap.size 1 _ _ hb0
      have g1 : wo.grownBy (wo.setCell ⟨w.heap.size, 0, none⟩ (.int .u8 (r : Int))) (some w.heap.size) := grown_setCell wo ⟨w.heap.size, 0, none⟩ _
      have g2 : (wo.setCell ⟨w.heap.size, 0, none⟩ (.int .u8 (r : Int))).grownBy ((wo.setCell ⟨w.heap.size, 0, none⟩ (.int .u8 (r : Int))).setCell ⟨w.heap.size, 1, none⟩ (.slice vo k vc)) (some w.heap.size) := grown_setCell _ ⟨w.heap.size, 1, none⟩ _
      have OW := Lib.hid ((hown.kept g1 (.inr (fun e => by have := (hown.lt _ e).1; omega))).kept g2 (.inr (fun e => by have := (hown.lt _ e).1; omega)))
      have BW := Lib.hid ((hbel.setCell (p := ⟨w.heap.size, 0, none⟩) (Nat.le_refl _) (.int .u8 (r : Int))).setCell (p := ⟨w.heap.size, 1, none⟩) (Nat.le_refl _) (.slice vo k vc))
      have u0 := heap_setCell_same wo w.heap.size 0 _ _ (.int .u8 (r : Int)) hb0
      have u1 := heap_setCell_same _ w.heap.size 1 _ _ (.slice vo k vc) u0
      have t0 := cell_of_row _ w.heap.size 0 _ _ _ u1
      have t1 := cell_of_row _ w.heap.size 1 _ _ _ u1
      have HZ := Lib.hid (And.intro t0 t1)
      clear hkk hof hb0 hb1 hown hbel g1 g2 u0 u1 t0 t1
      go_wp2
      have t0 := HZ.out.1
      have t1 := HZ.out.2
      refine bodyPost_ret (v := .agg #[.int .u8 (r : Int), .slice vo k vc]) (by simp [results, Try.results48, go_sem, t0, t1]) rfl ⟨_, rfl, own_base OW.out (by omega), BW.out⟩
end Go.Proofs.Ytmgdbgloacbacaa.Clocks

/- octavolaw08.alive: it answers yes. Conditions: none. -/
namespace Go.Proofs.Ytmgdbgloacbacaa.Clocks
open Go.RowKit Go.Proofs.Ytmgdbgloacbacaa.Spans Go.Proofs.Ytmgdbgloacbacaa.Srt
attribute [local go_sem ↓] Go.wp_at_zero Go.wp_at_succ

theorem sees_at {X : World} {g : Nat} {cs : List Value} {e : TypeId} {sz n : Nat} (h : X.heap[g]? = some (.cells cs.toArray e)) (hl : cs.length = n * sz) (hn : n ≤ 1000000) : Sees X (.slice (some ⟨g, 0, none⟩) n n) sz n cs := by
  refine ⟨hl, _, _, rfl, Nat.le_refl _, by omega, by simp, .inr ⟨g, 0, rfl, (Array.getElem?_eq_some_iff.1 h).1, fun j u hj => ?_⟩⟩
  rw [cell_of_row X g (0 + j) _ e _ h, Nat.zero_add]
  simpa using hj
theorem Tms.nil (W : World) : Tms W (.slice none 0 0) [] := (OwnC.nil W 0).tms
theorem of_lit {r f t : Nat} (hr : r < 256) (hf : f < 4294967296) (ht : t < 4294967296) {rI fI tI : Int} (e1 : rI = r) (e2 : fI = f) (e3 : tI = t) :
    ∀ (W : World) (g : Nat), W.heap[g]? = some (.cells #[.int .u32 fI, .int .u32 tI] 23) → Calls Try.prog 48 #[.int .u8 rI, .slice (some ⟨g, 0, none⟩) 2 2] W fun e w' => ∃ so sc, e = .returned (.agg #[.int .u8 rI, .slice so 1 sc]) ∧ Sps w' (.slice so 1 sc) [mk f t] ∧ Below W.heap.size W w' := by
  intro W g h
  subst e1 e2 e3
  have hs : Sees W (.slice (some ⟨g, 0, none⟩) 2 2) 1 2 (us (flat [mk f t])) := by
    have e : us (flat [mk f t]) = [.int .u32 (f : Int), .int .u32 (t : Int)] := by simp only [flat, mk_f hf, mk_t ht]; rfl
    rw [e]
    exact sees_at h rfl (by decide)
  refine (of08_any (L := [mk f t]) (n := 2) hr rfl (by decide) hs).mono ?_
  rintro e w' ⟨v, rfl, o, b⟩
  obtain ⟨so, sc, rfl⟩ := Sees.shape (Sees.own o)
  exact ⟨so, sc, rfl, Sps.own o, b⟩
theorem by_lit {t r : Nat} {tI rI : Int} (e1 : tI = t) (e2 : rI = r) (w : World) :
    Calls Try.prog 46 #[.int .u32 tI, .int .u8 rI] w fun e w' => e = .returned (.agg #[.int .u32 tI, .int .u8 rI]) ∧ Below w.heap.size w w' := by
  subst e1 e2
  exact by08_any
theorem tms_new1 {X : World} {g r1 n1 : Nat} {c1 : Nat} {s1 : Option Addr} {i1 : Int} {L1 : List Sp} (q1 : r1 < 256) (e1 : i1 = (r1 : Int)) (h : X.heap[g]? = some (.cells #[.int .u8 i1, .slice s1 n1 c1] 50)) (h1 : Sps X (.slice s1 n1 c1) L1) :
    Tms X (.slice (some ⟨g, 0, none⟩) 1 1) [(r1, L1)] := by
  subst e1
  exact ⟨[.int .u8 (r1 : Int), .slice s1 n1 c1], sees_at h rfl (by decide), ⟨rfl, q1, h1, trivial⟩⟩
theorem tms_new2 {X : World} {g r1 n1 r2 n2 : Nat} {c1 c2 : Nat} {s1 s2 : Option Addr} {i1 i2 : Int} {L1 L2 : List Sp} (q1 : r1 < 256) (e1 : i1 = (r1 : Int)) (q2 : r2 < 256) (e2 : i2 = (r2 : Int))
    (h : X.heap[g]? = some (.cells #[.int .u8 i1, .slice s1 n1 c1, .int .u8 i2, .slice s2 n2 c2] 50)) (h1 : Sps X (.slice s1 n1 c1) L1) (h2 : Sps X (.slice s2 n2 c2) L2) :
    Tms X (.slice (some ⟨g, 0, none⟩) 2 2) [(r1, L1), (r2, L2)] := by
  subst e1 e2
  exact ⟨[.int .u8 (r1 : Int), .slice s1 n1 c1, .int .u8 (r2 : Int), .slice s2 n2 c2], sees_at h rfl (by decide), ⟨rfl, q1, h1, rfl, q2, h2, trivial⟩⟩
theorem of_is {K : Nat} (HS : SortC K) (hK : K ≤ 1000000) {l : List Id} {L : List Tm} {x : Int} (hl : l.length ≤ K) (h : ofC l = (L, x)) (W : World) (v : Value) (hv : Ids W v l) : Calls Try.prog 10 #[v] W (DoneC L x W) := by
  have := cOf_any HS hK hv hl
  rw [h] at this
  exact this

set_option maxRecDepth 100000 in
set_option maxHeartbeats 8000000 in
theorem alive08_any (w : World) : Calls Try.prog 24 #[] w fun e w' => e = .returned (.bool true) ∧ Below w.heap.size w w' := by
  have Q0 := Lib.hid (by_lit (t := 4) (r := 1) (tI := 4) (rI := 1) rfl rfl)
  have Q1 := Lib.hid (by_lit (t := 3) (r := 1) (tI := 3) (rI := 1) rfl rfl)
  have Q2 := Lib.hid (by_lit (t := 9) (r := 0) (tI := 9) (rI := 0) rfl rfl)
  have HOF := Lib.hid (of_is (K := 12) sort_small (by decide) (l := [⟨4, 1, by decide, by decide⟩, ⟨3, 1, by decide, by decide⟩, ⟨9, 0, by decide, by decide⟩]) (L := [(0, [mk 9 9]), (1, [mk 3 4])]) (x := 0) (by decide) (by kernel_rfl))
  have Q3 := Lib.hid (of_lit (r := 1) (f := 3) (t := 5) (by decide) (by decide) (by decide) (rI := 1) (fI := 3) (tI := 5) rfl rfl rfl)
  have Q4 := Lib.hid (by_lit (t := 6) (r := 1) (tI := 6) (rI := 1) rfl rfl)
  have Q5 := Lib.hid (add_lit (c := [(1, [mk 3 5])]) (L := [(1, [mk 3 6])]) (x := 0) (a := ⟨6, 1, by decide, by decide⟩) (few_add (by decide) _) (by kernel_rfl))
  have Q6 := Lib.hid (by_lit (t := 6) (r := 0) (tI := 6) (rI := 0) rfl rfl)
  have Q7 := Lib.hid (add_lit (c := [(1, [mk 3 5])]) (L := [(0, [mk 6 6]), (1, [mk 3 5])]) (x := 0) (a := ⟨6, 0, by decide, by decide⟩) (few_add (by decide) _) (by kernel_rfl))
  have Q8 := Lib.hid (of_lit (r := 0) (f := 9) (t := 9) (by decide) (by decide) (by decide) (rI := 0) (fI := 9) (tI := 9) rfl rfl rfl)
  have Q9 := Lib.hid (of_lit (r := 1) (f := 3) (t := 4) (by decide) (by decide) (by decide) (rI := 1) (fI := 3) (tI := 4) rfl rfl rfl)
  have Q10 := Lib.hid (rsame_lit (c := [(0, [mk 9 9]), (1, [mk 3 4])]) (d := [(0, [mk 9 9]), (1, [mk 3 4])]) (b := true) (by kernel_rfl))
  have Q11 := Lib.hid (of_lit (r := 1) (f := 3) (t := 6) (by decide) (by decide) (by decide) (rI := 1) (fI := 3) (tI := 6) rfl rfl rfl)
  have Q12 := Lib.hid (rsame_lit (c := [(1, [mk 3 6])]) (d := [(1, [mk 3 6])]) (b := true) (by kernel_rfl))
  have Q13 := Lib.hid (of_lit (r := 0) (f := 6) (t := 6) (by decide) (by decide) (by decide) (rI := 0) (fI := 6) (tI := 6) rfl rfl rfl)
  have Q14 := Lib.hid (rsame_lit (c := [(0, [mk 6 6]), (1, [mk 3 5])]) (d := [(0, [mk 6 6]), (1, [mk 3 5])]) (b := true) (by kernel_rfl))
  go_enter Try.func24, Try.ntmps24
  go_wp2_with fail
  refine (Q0.out _).mono ?_
  rintro e w1 ⟨rfl, b1⟩
  have B2 := Lib.hid b1
  clear b1
  go_wp2_with fail
  refine (Q1.out _).mono ?_
  rintro e w2 ⟨rfl, b3⟩
  have B4 := Lib.hid (bt B2.out b3)
  clear B2
  clear b3
  go_wp2_with fail
  refine (Q2.out _).mono ?_
  rintro e w3 ⟨rfl, b5⟩
  have B6 := Lib.hid (bt B4.out b5)
  clear B4
  clear b5
  have B7 := Lib.hid (bt B6.out ((Below.refl w3.heap.size w3).alloc (Nat.le_refl _) (.cells #[.int .u32 4, .int .u8 1, .int .u32 3, .int .u8 1, .int .u32 9, .int .u8 0] 25)))
  clear B6
  have K8 : Hid ((w3.alloc (.cells #[.int .u32 4, .int .u8 1, .int .u32 3, .int .u8 1, .int .u32 9, .int .u8 0] 25)).heap[w3.heap.size]? = some (.cells #[.int .u32 4, .int .u8 1, .int .u32 3, .int .u8 1, .int .u32 9, .int .u8 0] 25)) := kb_new rfl
  have F9 : Hid (Ids (w3.alloc (.cells #[.int .u32 4, .int .u8 1, .int .u32 3, .int .u8 1, .int .u32 9, .int .u8 0] 25)) (.slice (some ⟨w3.heap.size, 0, none⟩) 3 3) [⟨4, 1, by decide, by decide⟩, ⟨3, 1, by decide, by decide⟩, ⟨9, 0, by decide, by decide⟩]) := sees_at K8.out rfl (by decide)
  clear K8
  go_wp2_with fail
  refine (HOF.out _ _ F9.out).mono ?_
  rintro e w4 ⟨v10, rfl, o12, b13⟩
  have F14 := Lib.hid (F9.out.keeps (b13))
  clear F9
  have B15 := Lib.hid (bt B7.out b13)
  clear B7
  clear b13
  have F18 := Lib.hid o12.tms
  obtain ⟨so16, sc17, rfl⟩ := o12.tms.shape
  clear o12
  clear F14
  have F19 := Lib.hid (F18.out.keeps ((Below.refl w4.heap.size w4).alloc (Nat.le_refl _) (.cells #[.int .u32 3, .int .u32 5] 23)))
  clear F18
  have B20 := Lib.hid (bt B15.out ((Below.refl w4.heap.size w4).alloc (Nat.le_refl _) (.cells #[.int .u32 3, .int .u32 5] 23)))
  clear B15
  have K21 : Hid ((w4.alloc (.cells #[.int .u32 3, .int .u32 5] 23)).heap[w4.heap.size]? = some (.cells #[.int .u32 3, .int .u32 5] 23)) := kb_new rfl
  go_wp2_with fail
  refine (Q3.out _ _ K21.out).mono ?_
  rintro e w5 ⟨so22, sc23, rfl, f24, b25⟩
  clear K21
  have F26 := Lib.hid (F19.out.keeps (b25))
  clear F19
  have B27 := Lib.hid (bt B20.out b25)
  clear B20
  clear b25
  have F28 := Lib.hid f24
  clear f24
  have F29 := Lib.hid (F26.out.keeps ((Below.refl w5.heap.size w5).alloc (Nat.le_refl _) (.cells #[.int .u8 1, .slice so22 1 sc23] 50)))
  clear F26
  have F30 := Lib.hid (F28.out.keeps ((Below.refl w5.heap.size w5).alloc (Nat.le_refl _) (.cells #[.int .u8 1, .slice so22 1 sc23] 50)))
  clear F28
  have B31 := Lib.hid (bt B27.out ((Below.refl w5.heap.size w5).alloc (Nat.le_refl _) (.cells #[.int .u8 1, .slice so22 1 sc23] 50)))
  clear B27
  have K32 : Hid ((w5.alloc (.cells #[.int .u8 1, .slice so22 1 sc23] 50)).heap[w5.heap.size]? = some (.cells #[.int .u8 1, .slice so22 1 sc23] 50)) := kb_new rfl
  have F33 := Lib.hid (tms_new1 (by decide) rfl K32.out F30.out)
  clear K32
  clear F30
  go_wp2_with fail
  refine (Q4.out _).mono ?_
  rintro e w6 ⟨rfl, b34⟩
  have F35 := Lib.hid (F29.out.keeps (b34))
  clear F29
  have F36 := Lib.hid (F33.out.keeps (b34))
  clear F33
  have B37 := Lib.hid (bt B31.out b34)
  clear B31
  clear b34
  go_wp2_with fail
  refine (Q5.out _ _ F36.out).mono ?_
  rintro e w7 ⟨v38, rfl, o40, b41⟩
  have F42 := Lib.hid (F35.out.keeps (b41))
  clear F35
  have F43 := Lib.hid (F36.out.keeps (b41))
  clear F36
  have B44 := Lib.hid (bt B37.out b41)
  clear B37
  clear b41
  have F47 := Lib.hid o40.tms
  obtain ⟨so45, sc46, rfl⟩ := o40.tms.shape
  clear o40
  clear F43
  have F48 := Lib.hid (F42.out.keeps ((Below.refl w7.heap.size w7).alloc (Nat.le_refl _) (.cells #[.int .u32 3, .int .u32 5] 23)))
  clear F42
  have F49 := Lib.hid (F47.out.keeps ((Below.refl w7.heap.size w7).alloc (Nat.le_refl _) (.cells #[.int .u32 3, .int .u32 5] 23)))
  clear F47
  have B50 := Lib.hid (bt B44.out ((Below.refl w7.heap.size w7).alloc (Nat.le_refl _) (.cells #[.int .u32 3, .int .u32 5] 23)))
  clear B44
  have K51 : Hid ((w7.alloc (.cells #[.int .u32 3, .int .u32 5] 23)).heap[w7.heap.size]? = some (.cells #[.int .u32 3, .int .u32 5] 23)) := kb_new rfl
  go_wp2_with fail
  refine (Q3.out _ _ K51.out).mono ?_
  rintro e w8 ⟨so52, sc53, rfl, f54, b55⟩
  clear K51
  have F56 := Lib.hid (F48.out.keeps (b55))
  clear F48
  have F57 := Lib.hid (F49.out.keeps (b55))
  clear F49
  have B58 := Lib.hid (bt B50.out b55)
  clear B50
  clear b55
  have F59 := Lib.hid f54
  clear f54
  have F60 := Lib.hid (F56.out.keeps ((Below.refl w8.heap.size w8).alloc (Nat.le_refl _) (.cells #[.int .u8 1, .slice so52 1 sc53] 50)))
  clear F56
  have F61 := Lib.hid (F57.out.keeps ((Below.refl w8.heap.size w8).alloc (Nat.le_refl _) (.cells #[.int .u8 1, .slice so52 1 sc53] 50)))
  clear F57
  have F62 := Lib.hid (F59.out.keeps ((Below.refl w8.heap.size w8).alloc (Nat.le_refl _) (.cells #[.int .u8 1, .slice so52 1 sc53] 50)))
  clear F59
  have B63 := Lib.hid (bt B58.out ((Below.refl w8.heap.size w8).alloc (Nat.le_refl _) (.cells #[.int .u8 1, .slice so52 1 sc53] 50)))
  clear B58
  have K64 : Hid ((w8.alloc (.cells #[.int .u8 1, .slice so52 1 sc53] 50)).heap[w8.heap.size]? = some (.cells #[.int .u8 1, .slice so52 1 sc53] 50)) := kb_new rfl
  have F65 := Lib.hid (tms_new1 (by decide) rfl K64.out F62.out)
  clear K64
  clear F62
  go_wp2_with fail
  refine (Q6.out _).mono ?_
  rintro e w9 ⟨rfl, b66⟩
  have F67 := Lib.hid (F60.out.keeps (b66))
  clear F60
  have F68 := Lib.hid (F61.out.keeps (b66))
  clear F61
  have F69 := Lib.hid (F65.out.keeps (b66))
  clear F65
  have B70 := Lib.hid (bt B63.out b66)
  clear B63
  clear b66
  go_wp2_with fail
  refine (Q7.out _ _ F69.out).mono ?_
  rintro e w10 ⟨v71, rfl, o73, b74⟩
  have F75 := Lib.hid (F67.out.keeps (b74))
  clear F67
  have F76 := Lib.hid (F68.out.keeps (b74))
  clear F68
  have F77 := Lib.hid (F69.out.keeps (b74))
  clear F69
  have B78 := Lib.hid (bt B70.out b74)
  clear B70
  clear b74
  have F81 := Lib.hid o73.tms
  obtain ⟨so79, sc80, rfl⟩ := o73.tms.shape
  clear o73
  clear F77
  have F82 := Lib.hid (F75.out.keeps ((Below.refl w10.heap.size w10).alloc (Nat.le_refl _) (.cells #[.int .u32 9, .int .u32 9] 23)))
  clear F75
  have F83 := Lib.hid (F76.out.keeps ((Below.refl w10.heap.size w10).alloc (Nat.le_refl _) (.cells #[.int .u32 9, .int .u32 9] 23)))
  clear F76
  have F84 := Lib.hid (F81.out.keeps ((Below.refl w10.heap.size w10).alloc (Nat.le_refl _) (.cells #[.int .u32 9, .int .u32 9] 23)))
  clear F81
  have B85 := Lib.hid (bt B78.out ((Below.refl w10.heap.size w10).alloc (Nat.le_refl _) (.cells #[.int .u32 9, .int .u32 9] 23)))
  clear B78
  have K86 : Hid ((w10.alloc (.cells #[.int .u32 9, .int .u32 9] 23)).heap[w10.heap.size]? = some (.cells #[.int .u32 9, .int .u32 9] 23)) := kb_new rfl
  go_wp2_with fail
  refine (Q8.out _ _ K86.out).mono ?_
  rintro e w11 ⟨so87, sc88, rfl, f89, b90⟩
  clear K86
  have F91 := Lib.hid (F82.out.keeps (b90))
  clear F82
  have F92 := Lib.hid (F83.out.keeps (b90))
  clear F83
  have F93 := Lib.hid (F84.out.keeps (b90))
  clear F84
  have B94 := Lib.hid (bt B85.out b90)
  clear B85
  clear b90
  have F95 := Lib.hid f89
  clear f89
  have F96 := Lib.hid (F91.out.keeps ((Below.refl w11.heap.size w11).alloc (Nat.le_refl _) (.cells #[.int .u32 3, .int .u32 4] 23)))
  clear F91
  have F97 := Lib.hid (F92.out.keeps ((Below.refl w11.heap.size w11).alloc (Nat.le_refl _) (.cells #[.int .u32 3, .int .u32 4] 23)))
  clear F92
  have F98 := Lib.hid (F93.out.keeps ((Below.refl w11.heap.size w11).alloc (Nat.le_refl _) (.cells #[.int .u32 3, .int .u32 4] 23)))
  clear F93
  have F99 := Lib.hid (F95.out.keeps ((Below.refl w11.heap.size w11).alloc (Nat.le_refl _) (.cells #[.int .u32 3, .int .u32 4] 23)))
  clear F95
  have B100 := Lib.hid (bt B94.out ((Below.refl w11.heap.size w11).alloc (Nat.le_refl _) (.cells #[.int .u32 3, .int .u32 4] 23)))
  clear B94
  have K101 : Hid ((w11.alloc (.cells #[.int .u32 3, .int .u32 4] 23)).heap[w11.heap.size]? = some (.cells #[.int .u32 3, .int .u32 4] 23)) := kb_new rfl
  go_wp2_with fail
  refine (Q9.out _ _ K101.out).mono ?_
  rintro e w12 ⟨so102, sc103, rfl, f104, b105⟩
  clear K101
  have F106 := Lib.hid (F96.out.keeps (b105))
  clear F96
  have F107 := Lib.hid (F97.out.keeps (b105))
  clear F97
  have F108 := Lib.hid (F98.out.keeps (b105))
  clear F98
  have F109 := Lib.hid (F99.out.keeps (b105))
  clear F99
  have B110 := Lib.hid (bt B100.out b105)
  clear B100
  clear b105
  have F111 := Lib.hid f104
  clear f104
  have F112 := Lib.hid (F106.out.keeps ((Below.refl w12.heap.size w12).alloc (Nat.le_refl _) (.cells #[.int .u8 0, .slice so87 1 sc88, .int .u8 1, .slice so102 1 sc103] 50)))
  clear F106
  have F113 := Lib.hid (F107.out.keeps ((Below.refl w12.heap.size w12).alloc (Nat.le_refl _) (.cells #[.int .u8 0, .slice so87 1 sc88, .int .u8 1, .slice so102 1 sc103] 50)))
  clear F107
  have F114 := Lib.hid (F108.out.keeps ((Below.refl w12.heap.size w12).alloc (Nat.le_refl _) (.cells #[.int .u8 0, .slice so87 1 sc88, .int .u8 1, .slice so102 1 sc103] 50)))
  clear F108
  have F115 := Lib.hid (F109.out.keeps ((Below.refl w12.heap.size w12).alloc (Nat.le_refl _) (.cells #[.int .u8 0, .slice so87 1 sc88, .int .u8 1, .slice so102 1 sc103] 50)))
  clear F109
  have F116 := Lib.hid (F111.out.keeps ((Below.refl w12.heap.size w12).alloc (Nat.le_refl _) (.cells #[.int .u8 0, .slice so87 1 sc88, .int .u8 1, .slice so102 1 sc103] 50)))
  clear F111
  have B117 := Lib.hid (bt B110.out ((Below.refl w12.heap.size w12).alloc (Nat.le_refl _) (.cells #[.int .u8 0, .slice so87 1 sc88, .int .u8 1, .slice so102 1 sc103] 50)))
  clear B110
  have K118 : Hid ((w12.alloc (.cells #[.int .u8 0, .slice so87 1 sc88, .int .u8 1, .slice so102 1 sc103] 50)).heap[w12.heap.size]? = some (.cells #[.int .u8 0, .slice so87 1 sc88, .int .u8 1, .slice so102 1 sc103] 50)) := kb_new rfl
  have F119 := Lib.hid (tms_new2 (by decide) rfl (by decide) rfl K118.out F115.out F116.out)
  clear K118
  clear F115
  clear F116
  go_wp2_with fail
  refine (Q10.out _ _ _ F112.out F119.out).mono ?_
  rintro e w13 ⟨rfl, b120⟩
  have F121 := Lib.hid (F112.out.keeps (b120))
  clear F112
  have F122 := Lib.hid (F113.out.keeps (b120))
  clear F113
  have F123 := Lib.hid (F114.out.keeps (b120))
  clear F114
  have F124 := Lib.hid (F119.out.keeps (b120))
  clear F119
  have B125 := Lib.hid (bt B117.out b120)
  clear B117
  clear b120
  clear F124
  clear F121
  have F126 := Lib.hid (F122.out.keeps ((Below.refl w13.heap.size w13).alloc (Nat.le_refl _) (.cells #[.int .u32 3, .int .u32 6] 23)))
  clear F122
  have F127 := Lib.hid (F123.out.keeps ((Below.refl w13.heap.size w13).alloc (Nat.le_refl _) (.cells #[.int .u32 3, .int .u32 6] 23)))
  clear F123
  have B128 := Lib.hid (bt B125.out ((Below.refl w13.heap.size w13).alloc (Nat.le_refl _) (.cells #[.int .u32 3, .int .u32 6] 23)))
  clear B125
  have K129 : Hid ((w13.alloc (.cells #[.int .u32 3, .int .u32 6] 23)).heap[w13.heap.size]? = some (.cells #[.int .u32 3, .int .u32 6] 23)) := kb_new rfl
  go_wp2_with fail
  refine (Q11.out _ _ K129.out).mono ?_
  rintro e w14 ⟨so130, sc131, rfl, f132, b133⟩
  clear K129
  have F134 := Lib.hid (F126.out.keeps (b133))
  clear F126
  have F135 := Lib.hid (F127.out.keeps (b133))
  clear F127
  have B136 := Lib.hid (bt B128.out b133)
  clear B128
  clear b133
  have F137 := Lib.hid f132
  clear f132
  have F138 := Lib.hid (F134.out.keeps ((Below.refl w14.heap.size w14).alloc (Nat.le_refl _) (.cells #[.int .u8 1, .slice so130 1 sc131] 50)))
  clear F134
  have F139 := Lib.hid (F135.out.keeps ((Below.refl w14.heap.size w14).alloc (Nat.le_refl _) (.cells #[.int .u8 1, .slice so130 1 sc131] 50)))
  clear F135
  have F140 := Lib.hid (F137.out.keeps ((Below.refl w14.heap.size w14).alloc (Nat.le_refl _) (.cells #[.int .u8 1, .slice so130 1 sc131] 50)))
  clear F137
  have B141 := Lib.hid (bt B136.out ((Below.refl w14.heap.size w14).alloc (Nat.le_refl _) (.cells #[.int .u8 1, .slice so130 1 sc131] 50)))
  clear B136
  have K142 : Hid ((w14.alloc (.cells #[.int .u8 1, .slice so130 1 sc131] 50)).heap[w14.heap.size]? = some (.cells #[.int .u8 1, .slice so130 1 sc131] 50)) := kb_new rfl
  have F143 := Lib.hid (tms_new1 (by decide) rfl K142.out F140.out)
  clear K142
  clear F140
  go_wp2_with fail
  refine (Q12.out _ _ _ F138.out F143.out).mono ?_
  rintro e w15 ⟨rfl, b144⟩
  have F145 := Lib.hid (F138.out.keeps (b144))
  clear F138
  have F146 := Lib.hid (F139.out.keeps (b144))
  clear F139
  have F147 := Lib.hid (F143.out.keeps (b144))
  clear F143
  have B148 := Lib.hid (bt B141.out b144)
  clear B141
  clear b144
  clear F147
  clear F145
  have F149 := Lib.hid (F146.out.keeps ((Below.refl w15.heap.size w15).alloc (Nat.le_refl _) (.cells #[.int .u32 6, .int .u32 6] 23)))
  clear F146
  have B150 := Lib.hid (bt B148.out ((Below.refl w15.heap.size w15).alloc (Nat.le_refl _) (.cells #[.int .u32 6, .int .u32 6] 23)))
  clear B148
  have K151 : Hid ((w15.alloc (.cells #[.int .u32 6, .int .u32 6] 23)).heap[w15.heap.size]? = some (.cells #[.int .u32 6, .int .u32 6] 23)) := kb_new rfl
  go_wp2_with fail
  refine (Q13.out _ _ K151.out).mono ?_
  rintro e w16 ⟨so152, sc153, rfl, f154, b155⟩
  clear K151
  have F156 := Lib.hid (F149.out.keeps (b155))
  clear F149
  have B157 := Lib.hid (bt B150.out b155)
  clear B150
  clear b155
  have F158 := Lib.hid f154
  clear f154
  have F159 := Lib.hid (F156.out.keeps ((Below.refl w16.heap.size w16).alloc (Nat.le_refl _) (.cells #[.int .u32 3, .int .u32 5] 23)))
  clear F156
  have F160 := Lib.hid (F158.out.keeps ((Below.refl w16.heap.size w16).alloc (Nat.le_refl _) (.cells #[.int .u32 3, .int .u32 5] 23)))
  clear F158
  have B161 := Lib.hid (bt B157.out ((Below.refl w16.heap.size w16).alloc (Nat.le_refl _) (.cells #[.int .u32 3, .int .u32 5] 23)))
  clear B157
  have K162 : Hid ((w16.alloc (.cells #[.int .u32 3, .int .u32 5] 23)).heap[w16.heap.size]? = some (.cells #[.int .u32 3, .int .u32 5] 23)) := kb_new rfl
  go_wp2_with fail
  refine (Q3.out _ _ K162.out).mono ?_
  rintro e w17 ⟨so163, sc164, rfl, f165, b166⟩
  clear K162
  have F167 := Lib.hid (F159.out.keeps (b166))
  clear F159
  have F168 := Lib.hid (F160.out.keeps (b166))
  clear F160
  have B169 := Lib.hid (bt B161.out b166)
  clear B161
  clear b166
  have F170 := Lib.hid f165
  clear f165
  have F171 := Lib.hid (F167.out.keeps ((Below.refl w17.heap.size w17).alloc (Nat.le_refl _) (.cells #[.int .u8 0, .slice so152 1 sc153, .int .u8 1, .slice so163 1 sc164] 50)))
  clear F167
  have F172 := Lib.hid (F168.out.keeps ((Below.refl w17.heap.size w17).alloc (Nat.le_refl _) (.cells #[.int .u8 0, .slice so152 1 sc153, .int .u8 1, .slice so163 1 sc164] 50)))
  clear F168
  have F173 := Lib.hid (F170.out.keeps ((Below.refl w17.heap.size w17).alloc (Nat.le_refl _) (.cells #[.int .u8 0, .slice so152 1 sc153, .int .u8 1, .slice so163 1 sc164] 50)))
  clear F170
  have B174 := Lib.hid (bt B169.out ((Below.refl w17.heap.size w17).alloc (Nat.le_refl _) (.cells #[.int .u8 0, .slice so152 1 sc153, .int .u8 1, .slice so163 1 sc164] 50)))
  clear B169
  have K175 : Hid ((w17.alloc (.cells #[.int .u8 0, .slice so152 1 sc153, .int .u8 1, .slice so163 1 sc164] 50)).heap[w17.heap.size]? = some (.cells #[.int .u8 0, .slice so152 1 sc153, .int .u8 1, .slice so163 1 sc164] 50)) := kb_new rfl
  have F176 := Lib.hid (tms_new2 (by decide) rfl (by decide) rfl K175.out F172.out F173.out)
  clear K175
  clear F172
  clear F173
  go_wp2_with fail
  refine (Q14.out _ _ _ F171.out F176.out).mono ?_
  rintro e w18 ⟨rfl, b177⟩
  have F178 := Lib.hid (F171.out.keeps (b177))
  clear F171
  have F179 := Lib.hid (F176.out.keeps (b177))
  clear F176
  have B180 := Lib.hid (bt B174.out b177)
  clear B174
  clear b177
  clear F179
  clear F178
  go_wp2
  go_ret
  exact ⟨rfl, B180.out⟩
end Go.Proofs.Ytmgdbgloacbacaa.Clocks
