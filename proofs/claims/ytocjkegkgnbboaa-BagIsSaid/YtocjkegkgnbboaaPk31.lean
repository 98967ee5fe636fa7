/- Lists of operations of the call's own, written over: what stays. Conditions: none. -/
import Derived.Test.YtocjkegkgnbboaaPk13

namespace Go.Proofs.Ytocjkegkgnbboaa.Bags
open Go.RowKit Go.WideShapes Stamp Go.Proofs.Ytocjkegkgnbboaa.Place Ops Codes
attribute [local go_sem ↓] Go.wp_at_zero Go.wp_at_succ

/-- Rows of operations and of their runs, from base on, ahead of top. -/
def SplO (w : World) (base top : Nat) (v : Value) (n : Nat) : Prop :=
  ∃ ao cap, v = .slice ao n cap ∧ n ≤ 9223372036854775807 ∧ (n = 0 ∨ ∃ b cb, ao = some ⟨b, 0, none⟩ ∧ base ≤ b ∧ b < top ∧ w.heap[b]? = some (.cells cb 30 (0, 0)) ∧ n * 5 ≤ cb.size ∧ ∀ k, k < n → ∃ so m sc, cb[k * 5 + 3]? = some (.slice so m sc) ∧ m ≤ 9223372036854775807 ∧
    (m = 0 ∨ ∃ g cur, so = some ⟨g, 0, none⟩ ∧ base ≤ g ∧ g < top ∧ g ≠ b ∧ w.heap[g]? = some (.cells cur 71 (0, 0)) ∧ m * 3 ≤ cur.size))
/-- What was there stays so, but from base on, ahead of top. -/
def Sand (base top : Nat) (w w' : World) : Prop := Below base w w' ∧ ∀ j, top ≤ j → w'.heap[j]? = w.heap[j]?
theorem Sand.refl (base top : Nat) (w : World) : Sand base top w w := ⟨Below.refl _ _, fun _ _ => rfl⟩
theorem Sand.trans {base top : Nat} {a b c : World} (h : Sand base top a b) (k : Sand base top b c) : Sand base top a c := ⟨h.1.trans k.1, fun j hj => (k.2 j hj).trans (h.2 j hj)⟩
theorem SplO.stay {w w' : World} {base top n : Nat} {v : Value} (h : SplO w base top v n) (hb : ∀ g o, base ≤ g → g < top → w.heap[g]? = some o → w'.heap[g]? = some o) : SplO w' base top v n := by
  obtain ⟨ao, cap, h1, h2, h3⟩ := h
  refine ⟨ao, cap, h1, h2, ?_⟩
  rcases h3 with h3 | ⟨b, cb, e1, e2, e3, e4, e5, e6⟩
  · exact .inl h3
  · refine .inr ⟨b, cb, e1, e2, e3, hb b _ e2 e3 e4, e5, fun k hk => ?_⟩
    obtain ⟨so, m, sc, f1, f2, f3⟩ := e6 k hk
    refine ⟨so, m, sc, f1, f2, ?_⟩
    rcases f3 with f3 | ⟨g, cur, g1, g2, g3, g4, g5, g6⟩
    · exact .inl f3
    · exact .inr ⟨g, cur, g1, g2, g3, g4, hb g _ g2 g3 g5, g6⟩
theorem SplO.keeps {w w' : World} {base top n : Nat} {v : Value} (h : SplO w base top v n) (hb : Below w.heap.size w w') : SplO w' base top v n :=
  h.stay fun g _ _ _ hg => (hb.block g (Array.getElem?_eq_some_iff.1 hg).1).trans hg
theorem SplO.sand {w w' : World} {base top base' top' n : Nat} {v : Value} (h : SplO w base' top' v n) (hs : Sand base top w w') (ht : top ≤ base') : SplO w' base' top' v n :=
  h.stay fun g _ h1 _ hg => (hs.2 g (by omega)).trans hg
theorem SplO.setG {w : World} {base top n g j : Nat} {v u : Value} (h : SplO w base top v n) (hg : ∀ b cap, v = .slice (some ⟨b, 0, none⟩) n cap → g ≠ b) : SplO (w.setCell ⟨g, j, none⟩ u) base top v n := by
  obtain ⟨ao, cap, h1, h2, h3⟩ := h
  refine ⟨ao, cap, h1, h2, ?_⟩
  rcases h3 with h3 | ⟨b, cb, e1, e2, e3, e4, e5, e6⟩
  · exact .inl h3
  · have hgb := hg b cap (by rw [h1, e1])
    refine .inr ⟨b, cb, e1, e2, e3, (heap_setCell_other w ⟨g, j, none⟩ b u (fun e => hgb e.symm)).trans e4, e5, fun k hk => ?_⟩
    obtain ⟨so, m, sc, f1, f2, f3⟩ := e6 k hk
    refine ⟨so, m, sc, f1, f2, ?_⟩
    rcases f3 with f3 | ⟨q, cur, g1, g2, g3, g4, g5, g6⟩
    · exact .inl f3
    · right
      by_cases e : q = g
      · subst e
        exact ⟨q, _, g1, g2, g3, g4, heap_setCell_same w q j cur _ u g5, by rw [Array.size_setIfInBounds]; exact g6⟩
      · exact ⟨q, cur, g1, g2, g3, g4, (heap_setCell_other w ⟨g, j, none⟩ q u e).trans g5, g6⟩
theorem SplO.setB {w : World} {base top n i b cap : Nat} {u : Value} (h : SplO w base top (.slice (some ⟨b, 0, none⟩) n cap) n) : SplO (w.setCell ⟨b, i * 5 + 4, none⟩ u) base top (.slice (some ⟨b, 0, none⟩) n cap) n := by
  obtain ⟨ao, cap', h1, h2, h3⟩ := h
  obtain ⟨rfl, -, rfl⟩ := Value.slice.inj h1
  refine ⟨_, cap, rfl, h2, ?_⟩
  rcases h3 with h3 | ⟨b', cb, e1, e2, e3, e4, e5, e6⟩
  · exact .inl h3
  · cases e1
    refine .inr ⟨b, _, rfl, e2, e3, heap_setCell_same w b (i * 5 + 4) cb _ u e4, by rw [Array.size_setIfInBounds]; exact e5, fun k hk => ?_⟩
    obtain ⟨so, m, sc, f1, f2, f3⟩ := e6 k hk
    refine ⟨so, m, sc, by rw [Array.getElem?_setIfInBounds_ne (by omega)]; exact f1, f2, ?_⟩
    rcases f3 with f3 | ⟨g, cur, g1, g2, g3, g4, g5, g6⟩
    · exact .inl f3
    · exact .inr ⟨g, cur, g1, g2, g3, g4, (heap_setCell_other w ⟨b, i * 5 + 4, none⟩ g u g4).trans g5, g6⟩
theorem holdP_spl {w : World} {base : Nat} : ∀ {cs : List Value} {l : List Opn}, HoldP w base cs l → ∀ k, k < l.length → ∃ so m sc, cs[k * 5 + 3]? = some (.slice so m sc) ∧ m ≤ 9223372036854775807 ∧
    (m = 0 ∨ ∃ g cur, so = some ⟨g, 0, none⟩ ∧ base ≤ g ∧ g < w.heap.size ∧ w.heap[g]? = some (.cells cur 71 (0, 0)) ∧ m * 3 ≤ cur.size)
  | _, x :: l, ⟨v, d, h1, ho, h3⟩, 0, _ => by
    have hm := Sees.max (Sees.own ho)
    obtain ⟨so, sc, hb⟩ := Sees.shape (Sees.own ho)
    refine ⟨so, x.pl.length, sc, by rw [h1]; simp [hb], hm, ?_⟩
    rcases ho.2 with ⟨h0, h1⟩ | ⟨g, cap, cur, h0, h1, h2, h3, _, h4, _⟩
    · exact .inl h1
    · rw [hb] at h0
      obtain ⟨rfl, -, rfl⟩ := Value.slice.inj h0
      exact .inr ⟨g, cur, rfl, h1, (Array.getElem?_eq_some_iff.1 h2).1, h2, by rw [h4]; exact Nat.mul_le_mul_right 3 h3⟩
  | _, x :: l, ⟨v, d, h1, ho, h3⟩, k + 1, hk => by
    obtain ⟨so, m, sc, h4, h5⟩ := holdP_spl h3 k (by simpa using hk)
    refine ⟨so, m, sc, ?_, h5⟩
    rw [h1, show (k + 1) * 5 + 3 = k * 5 + 3 + 5 by omega]
    simpa using h4
  | _, [], _, k, hk => by simp at hk
theorem op_row {w : World} {base n : Nat} {v : Value} {cs : List Value} (h : w.ownsRow base 30 5 v n cs) : ∀ j cur, v.ownBlock = some j → w.heap[j]? ≠ some (.cells cur 71 (0, 0)) := by
  intro j cur hj he
  rcases h.2 with ⟨h0, _⟩ | ⟨g, cap, cur2, h0, _, hgb, _⟩
  · rw [h0] at hj; cases hj
  · rw [h0] at hj
    simp only [Value.ownBlock, Option.some.injEq] at hj
    subst hj
    rw [hgb] at he
    simp at he
theorem own_spl {w : World} {base : Nat} {v : Value} {l : List Opn} (h : OwnL w base v l) : SplO w base w.heap.size v l.length := by
  obtain ⟨cs, h1, h2⟩ := h
  have hm := Sees.max (Sees.own h1)
  obtain ⟨ao, cap, hv⟩ := Sees.shape (Sees.own h1)
  refine ⟨ao, cap, hv, hm, ?_⟩
  have hr := op_row h1
  have hk := h1
  rcases h1.2 with ⟨_, h0⟩ | ⟨b, cap', cur, h0, e1, e2, e3, _, e4, _⟩
  · exact .inl h0
  · right
    rw [hv] at h0
    obtain ⟨rfl, -, rfl⟩ := Value.slice.inj h0
    refine ⟨b, cur, rfl, e1, (Array.getElem?_eq_some_iff.1 e2).1, e2, by rw [e4]; exact Nat.mul_le_mul_right 5 e3, fun k hkn => ?_⟩
    obtain ⟨so, m, sc, f1, f2, f3⟩ := holdP_spl h2 k hkn
    refine ⟨so, m, sc, ?_, f2, ?_⟩
    · rw [hv] at hk
      rw [← cell_of_row w b (k * 5 + 3) cur _ _ e2, hk.cellAt (k * 5 + 3) (by omega)]
      exact f1
    · rcases f3 with f3 | ⟨g, cu, g1, g2, g3, g4, g5⟩
      · exact .inl f3
      · refine .inr ⟨g, cu, g1, g2, g3, fun e => ?_, g4, g5⟩
        subst e
        exact hr g cu (by rw [hv]; rfl) g4

set_option maxRecDepth 100000 in
set_option maxHeartbeats 4000000 in
theorem spoil_any {base top n : Nat} {v : Value} {w : World} (hv : SplO w base top v n) :
    Calls Try.prog 26 #[v] w fun e w' => e = .returned (.tuple #[]) ∧ Sand base top w w' := by
  obtain ⟨ao, cap, rfl, hm, -⟩ := id hv
  have HV := Lib.hid hv
  clear hv
  go_enter Try.func26, Try.ntmps26
  go_wp2
  go_loopw [2, 3] (fun i c wr => ∃ k : Nat, k ≤ n ∧ i = .int .i64 (k : Int) ∧ Hid (SplO wr base top (.slice ao n cap) n) ∧ Hid (Sand base top w wr)) (fun i _ _ => n - (intOf i).toNat)
  case atStart => exact ⟨0, by omega, rfl, HV, Lib.hid (Sand.refl _ _ _)⟩
  case round =>
    obtain ⟨k, hk, rfl, hsp, hsa⟩ := hrel
    by_cases hkn : k < n
    · have q1 : decide (k < n) = true := by simpa using hkn
      have q2 : (0 : Int) ≤ (k : Int) := by omega
      have q3 : (k : Int) < (n : Int) := by omega
      obtain ⟨b, rfl⟩ : ∃ b, ao = some ⟨b, 0, none⟩ := by
        obtain ⟨_, _, h0, _, h3⟩ := hsp
        obtain ⟨rfl, -, -⟩ := Value.slice.inj h0
        rcases h3 with h3 | ⟨b, _, h3, _⟩
        · omega
        · exact ⟨b, h3⟩
      have at1 : ∀ W : World, SplO W base top (.slice (some ⟨b, 0, none⟩) n cap) n → base ≤ b ∧ b < top ∧ (∀ o, W.frozen? ⟨b, o, none⟩ = false) ∧ (∃ y, W.cell? ⟨b, k * 5 + 4, none⟩ = some y) ∧ ∃ so m sc, W.cell? ⟨b, k * 5 + 3, none⟩ = some (.slice so m sc) ∧ m ≤ 9223372036854775807 ∧
          (m = 0 ∨ ∃ g cur, so = some ⟨g, 0, none⟩ ∧ base ≤ g ∧ g < top ∧ g ≠ b ∧ W.heap[g]? = some (.cells cur 71 (0, 0)) ∧ m * 3 ≤ cur.size) := fun W h => by
        obtain ⟨_, _, h0, _, h3⟩ := h
        obtain ⟨rfl, -, -⟩ := Value.slice.inj h0
        rcases h3 with h3 | ⟨b', cb, h3, h4, h5, h6, h7, h8⟩
        · omega
        · cases h3
          obtain ⟨so, m, sc, f1, f2⟩ := h8 k hkn
          refine ⟨h4, h5, fun o => by simp [World.frozen?, h6], ⟨_, (cell_of_row W b (k * 5 + 4) cb _ _ h6).trans (Array.getElem?_eq_getElem (by omega))⟩, so, m, sc, (cell_of_row W b (k * 5 + 3) cb _ _ h6).trans f1, f2⟩
      have AT := Lib.hid at1
      obtain ⟨-, -, -, -, so, m, sc, c1, hm2, -⟩ := at1 _ hsp.out
      have C1 := Lib.hid c1
      clear at1
      obtain ⟨wo, rfl⟩ : ∃ wo : World, wo = wr := ⟨_, rfl⟩
      go_wp2
      go_loopw [3] (fun i wr => ∃ j : Nat, j ≤ m ∧ i = .int .i64 (j : Int) ∧ Hid (SplO wr base top (.slice (some ⟨b, 0, none⟩) n cap) n) ∧ Hid (Sand base top w wr) ∧ Hid (wr.cell? ⟨b, k * 5 + 3, none⟩ = some (.slice so m sc))) (fun i _ => m - (intOf i).toNat)
      case atStart => exact ⟨0, by omega, rfl, hsp, hsa, C1⟩
      case round =>
        clear C1 hsp hsa c1
        obtain ⟨j, hj, rfl, hsp, hsa, hc⟩ := hrel
        obtain ⟨w2, rfl⟩ : ∃ w2 : World, w2 = wr := ⟨_, rfl⟩
        have c1 := hc.out
        by_cases hjm : j < m
        · have p1 : decide (j < m) = true := by simpa using hjm
          have p2 : (0 : Int) ≤ (j : Int) := by omega
          have p3 : (j : Int) < (m : Int) := by omega
          obtain ⟨-, -, -, -, so', m', sc', d1, _, d3⟩ := AT.out w2 hsp.out
          rw [c1] at d1
          obtain ⟨rfl, rfl, rfl⟩ := Value.slice.inj (Option.some.inj d1)
          obtain ⟨g, cur, rfl, g2, g3, g4, g5, g6⟩ : ∃ g cur, so = some ⟨g, 0, none⟩ ∧ base ≤ g ∧ g < top ∧ g ≠ b ∧ w2.heap[g]? = some (.cells cur 71 (0, 0)) ∧ m * 3 ≤ cur.size := by
            rcases d3 with d3 | d3
            · omega
            · exact d3
          have f1 : w2.frozen? ⟨g, j * 3 + 2, none⟩ = false := by simp [World.frozen?, g5]
          have f2 : w2.cell? ⟨g, j * 3 + 2, none⟩ = cur[j * 3 + 2]? := cell_of_row w2 g (j * 3 + 2) cur _ _ g5
          have f3 : cur[j * 3 + 2]? = some cur[j * 3 + 2] := Array.getElem?_eq_getElem (by omega)
          obtain ⟨y4, f4⟩ : ∃ y, w2.cell? ⟨g, j * 3 + 2, none⟩ = some y := ⟨_, f2.trans f3⟩
          have S2 := Lib.hid (hsp.out.setG (g := g) (j := j * 3 + 2) (u := .int .i64 (-7)) (fun b' cap' h => by
            obtain ⟨h1, -, -⟩ := Value.slice.inj h
            cases h1
            exact g4))
          have A2 : Hid (Sand base top w (w2.setCell ⟨g, j * 3 + 2, none⟩ (.int .i64 (-7)))) :=
            hsa.out.trans ⟨(Below.refl _ _).setCell (p := ⟨g, j * 3 + 2, none⟩) g2 _, fun q hq => heap_setCell_other _ _ _ _ (show q ≠ g by omega)⟩
          have C2 : Hid ((w2.setCell ⟨g, j * 3 + 2, none⟩ (.int .i64 (-7))).cell? ⟨b, k * 5 + 3, none⟩ = some (.slice (some ⟨g, 0, none⟩) m sc)) :=
            (World.cell?_of_block (a := ⟨b, k * 5 + 3, none⟩) (heap_setCell_other w2 ⟨g, j * 3 + 2, none⟩ b _ (fun e => g4 e.symm))).trans c1
          clear d1 d3 f2 f3 g5 g6 hsp hsa hc
          go_wp2
          go_roundw
          case rel => exact ⟨j + 1, by omega, by go_num, S2, A2, C2⟩
          case measure => simp [intOf]; omega
        · have p1 : decide (j < m) = false := by simpa using hjm
          obtain ⟨r1, r2, r3, ⟨y4, r4⟩, -⟩ := AT.out w2 hsp.out
          have S2 := Lib.hid (hsp.out.setB (i := k) (u := .int .i64 (-7)))
          have A2 : Hid (Sand base top w (w2.setCell ⟨b, k * 5 + 4, none⟩ (.int .i64 (-7)))) :=
            hsa.out.trans ⟨(Below.refl _ _).setCell (p := ⟨b, k * 5 + 4, none⟩) r1 _, fun q hq => heap_setCell_other _ _ _ _ (show q ≠ b by omega)⟩
          clear hsp hsa hc
          go_wp2
          go_roundw
          case rel => exact ⟨k + 1, by omega, by go_num, S2, A2⟩
          case measure => simp [intOf]; omega
    · have q1 : decide (k < n) = false := by simpa using hkn
      go_wp2
      go_end0
      exact ⟨rfl, hsa.out⟩
end Go.Proofs.Ytocjkegkgnbboaa.Bags
