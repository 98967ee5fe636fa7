/- octavoref08.Ids; the laws' helper of layer 8 that writes over what was answered. Conditions: the rows are the call's own. -/
import Derived.Test.YtinglfhndlklaaaClockRef9
namespace Go.Proofs.Ytinglfhndlklaaa.Clocks
open Go.RowKit Go.Proofs.Ytinglfhndlklaaa.Spans
attribute [local go_sem ↓] Go.wp_at_zero Go.wp_at_succ

/-- What is answered: stamps of its own, and an error. -/
def DoneI (L : List Id) (x : Int) (w : World) (e : Ending) (w' : World) : Prop :=
  ∃ v, e = .returned (.tuple #[v, .int .i64 x]) ∧ OwnI w' w.heap.size v L ∧ Below w.heap.size w w'
theorem OwnI.base {w : World} {b b' : Nat} {v : Value} {L : List Id} (h : OwnI w b v L) (hb : b' ≤ b) : OwnI w b' v L := own_base h hb
set_option maxHeartbeats 1000000 in
theorem refIdsC_any {v : Value} {c : List Tm} {w : World} (hv : Tms w v c) :
    Calls Try.prog 28 #[v] w (DoneI (idsCC c).1 (idsCC c).2 w) := by
  have HV := Lib.hid hv
  obtain ⟨L, x, hd⟩ : ∃ L x, idsCC c = (L, x) := ⟨_, _, rfl⟩
  rw [hd]
  unfold idsCC at hd
  have M1 := Lib.hid (refMayC_any hv)
  obtain ⟨pa, hpa⟩ : ∃ p, mayC c = p := ⟨_, rfl⟩
  rw [hpa] at M1 hd
  simp only
  cases pa
  · rw [if_neg (by simp)] at hd
    obtain ⟨rfl, rfl⟩ : [] = L ∧ (8 : Int) = x := Prod.mk.inj hd
    clear hv hpa hd
    go_enter Try.func28, Try.ntmps28
    go_wp2_with fail
    refine M1.out.mono ?_
    rintro e w1 ⟨rfl, b1⟩
    go_wp2
    go_ret2
    exact ⟨_, rfl, OwnI.nil _ _, b1⟩
  rw [if_pos rfl] at hd
  have hc := (mayC_iff c).1 hpa
  have MA : Hid (∀ W : World, Tms W v c → Calls Try.prog 55 #[v] W fun e w' => e = .returned (.int .i64 (manyC c : Int)) ∧ Below W.heap.size W w') := fun W h => refManyC_any h hc
  obtain ⟨m, hm⟩ : ∃ m, m = manyC c := ⟨_, rfl⟩
  rw [← hm] at MA hd
  by_cases hbig : 1024 < m
  · rw [if_pos hbig] at hd
    obtain ⟨rfl, rfl⟩ : [] = L ∧ (4 : Int) = x := Prod.mk.inj hd
    have t1 : decide ((1024 : Int) < (m : Int)) = true := decide_eq_true (by omega)
    have t2 : decide (1024 < m) = true := decide_eq_true hbig
    clear hv hpa hd hc hm
    go_enter Try.func28, Try.ntmps28
    go_wp2_with fail
    refine M1.out.mono ?_
    rintro e w1 ⟨rfl, b1⟩
    have B1 := Lib.hid b1
    clear b1
    go_wp2_with fail
    refine (MA.out _ (HV.out.keeps B1.out)).mono ?_
    rintro e w2 ⟨rfl, b2⟩
    have B2 := Lib.hid (bt B1.out b2)
    clear b2
    go_wp2
    go_ret2
    exact ⟨_, rfl, OwnI.nil _ _, B2.out⟩
  · rw [if_neg hbig] at hd
    obtain ⟨rfl, rfl⟩ : allI c = L ∧ (0 : Int) = x := Prod.mk.inj hd
    have t1 : decide ((1024 : Int) < (m : Int)) = false := decide_eq_false (by omega)
    have t2 : decide (1024 < m) = false := decide_eq_false hbig
    have AL : Hid (∀ W : World, Tms W v c → Calls Try.prog 56 #[v] W fun e w' => ∃ v', e = .returned v' ∧ OwnI w' W.heap.size v' (allI c) ∧ Below W.heap.size W w') := fun W h => all_any h hc (by omega)
    clear hv hpa hd hc hm
    go_enter Try.func28, Try.ntmps28
    go_wp2_with fail
    refine M1.out.mono ?_
    rintro e w1 ⟨rfl, b1⟩
    have B1 := Lib.hid b1
    clear b1
    go_wp2_with fail
    refine (MA.out _ (HV.out.keeps B1.out)).mono ?_
    rintro e w2 ⟨rfl, b2⟩
    have B2 := Lib.hid (bt B1.out b2)
    clear b2
    go_wp2_with fail
    refine (AL.out _ (HV.out.keeps B2.out)).mono ?_
    rintro e w3 ⟨v3, rfl, o3, b3⟩
    have O3 := Lib.hid (OwnI.base o3 B2.out.size)
    have B3 := Lib.hid (bt B2.out b3)
    clear o3 b3
    go_wp2
    go_ret2
    exact ⟨_, rfl, O3.out, B3.out⟩

/-! ### Written over -/
/-- A clock's rows, wherever they lie from base on, its spans' ahead of top. -/
def Spl (w : World) (base top : Nat) (v : Value) (n : Nat) : Prop :=
  ∃ ao cap, v = .slice ao n cap ∧ n ≤ 9223372036854775807 ∧ (n = 0 ∨ ∃ b, ao = some ⟨b, 0, none⟩ ∧ base ≤ b ∧ b < w.heap.size ∧ ∀ k, k < n → ∃ so m sc, w.cell? ⟨b, k * 2 + 1, none⟩ = some (.slice so m sc) ∧ m ≤ 9223372036854775807 ∧
    (m = 0 ∨ ∃ g cur, so = some ⟨g, 0, none⟩ ∧ base ≤ g ∧ g < top ∧ g ≠ b ∧ w.heap[g]? = some (.cells cur 63 (0, 0)) ∧ m * 2 ≤ cur.size))
/-- What was there stays so, but from base on, ahead of top. -/
def Sand (base top : Nat) (w w' : World) : Prop := Below base w w' ∧ ∀ j, top ≤ j → w'.heap[j]? = w.heap[j]?
theorem Sand.refl (base top : Nat) (w : World) : Sand base top w w := ⟨Below.refl _ _, fun _ _ => rfl⟩
theorem Sand.trans {base top : Nat} {a b c : World} (h : Sand base top a b) (k : Sand base top b c) : Sand base top a c := ⟨h.1.trans k.1, fun j hj => (k.2 j hj).trans (h.2 j hj)⟩
theorem Spl.keeps {w w' : World} {base top n : Nat} {v : Value} (h : Spl w base top v n) (hb : Below w.heap.size w w') : Spl w' base top v n := by
  obtain ⟨ao, cap, h1, h2, h3⟩ := h
  refine ⟨ao, cap, h1, h2, ?_⟩
  rcases h3 with h3 | ⟨b, e1, e2, e3, e4⟩
  · exact .inl h3
  · refine .inr ⟨b, e1, e2, Nat.lt_of_lt_of_le e3 hb.size, fun k hk => ?_⟩
    obtain ⟨so, m, sc, f1, f2, f3⟩ := e4 k hk
    refine ⟨so, m, sc, (hb.cell (p := ⟨b, k * 2 + 1, none⟩) e3).trans f1, f2, ?_⟩
    rcases f3 with f3 | ⟨g, cur, g1, g2, g3, g4, g5, g6⟩
    · exact .inl f3
    · exact .inr ⟨g, cur, g1, g2, g3, g4, (hb.block g (Array.getElem?_eq_some_iff.1 g5).1).trans g5, g6⟩
theorem Spl.sand {w w' : World} {base top base' top' n : Nat} {v : Value} (h : Spl w base' top' v n) (hs : Sand base top w w') (ht : top ≤ base') : Spl w' base' top' v n := by
  obtain ⟨ao, cap, h1, h2, h3⟩ := h
  refine ⟨ao, cap, h1, h2, ?_⟩
  rcases h3 with h3 | ⟨b, e1, e2, e3, e4⟩
  · exact .inl h3
  · refine .inr ⟨b, e1, e2, Nat.lt_of_lt_of_le e3 hs.1.size, fun k hk => ?_⟩
    obtain ⟨so, m, sc, f1, f2, f3⟩ := e4 k hk
    refine ⟨so, m, sc, (World.cell?_of_block (a := ⟨b, k * 2 + 1, none⟩) (hs.2 b (by omega))).trans f1, f2, ?_⟩
    rcases f3 with f3 | ⟨g, cur, g1, g2, g3, g4, g5, g6⟩
    · exact .inl f3
    · exact .inr ⟨g, cur, g1, g2, g3, g4, (hs.2 g (by omega)).trans g5, g6⟩
theorem holdO_spl {w : World} {base : Nat} : ∀ {cs : List Value} {c : List Tm}, HoldO w base cs c → ∀ k, k < c.length → ∃ so m sc, cs[k * 2 + 1]? = some (.slice so m sc) ∧ m ≤ 9223372036854775807 ∧
    (m = 0 ∨ ∃ g cur, so = some ⟨g, 0, none⟩ ∧ base ≤ g ∧ g < w.heap.size ∧ w.heap[g]? = some (.cells cur 63 (0, 0)) ∧ m * 2 ≤ cur.size)
  | _ :: b :: _, x :: _, h, 0, _ => by
    have ho := h.2.2.1
    have hm := Sees.max (Sees.own ho)
    obtain ⟨so, sc, hb⟩ := Sees.shape (Sees.own ho)
    refine ⟨so, x.2.length, sc, by simp [hb], hm, ?_⟩
    rcases ho.2 with ⟨h0, h1⟩ | ⟨g, cap, cur, h0, h1, h2, h3, _, h4, _⟩
    · exact .inl h1
    · rw [hb] at h0
      obtain ⟨rfl, -, rfl⟩ := Value.slice.inj h0
      exact .inr ⟨g, cur, rfl, h1, (Array.getElem?_eq_some_iff.1 h2).1, h2, by rw [h4]; exact Nat.mul_le_mul_right 2 h3⟩
  | _ :: _ :: _, _ :: _, h, k + 1, hk => by
    obtain ⟨so, m, sc, h1, h2⟩ := holdO_spl h.2.2.2 k (by simpa using hk)
    refine ⟨so, m, sc, ?_, h2⟩
    rw [show (k + 1) * 2 + 1 = k * 2 + 1 + 1 + 1 by omega]
    simpa using h1
  | _, [], _, k, hk => by simp at hk
theorem OwnC.spl {w : World} {base : Nat} {v : Value} {c : List Tm} (h : OwnC w base v c) : Spl w base w.heap.size v c.length := by
  obtain ⟨cs, h1, h2⟩ := h
  have hm := Sees.max (Sees.own h1)
  obtain ⟨ao, cap, hv⟩ := Sees.shape (Sees.own h1)
  refine ⟨ao, cap, hv, hm, ?_⟩
  have hr := times_row h1
  have hk := h1
  rcases h1.2 with ⟨_, h0⟩ | ⟨b, cap', cur, h0, e1, e2, _⟩
  · exact .inl h0
  · right
    rw [hv] at h0
    obtain ⟨rfl, -, rfl⟩ := Value.slice.inj h0
    refine ⟨b, rfl, e1, (Array.getElem?_eq_some_iff.1 e2).1, fun k hkn => ?_⟩
    obtain ⟨so, m, sc, f1, f2, f3⟩ := holdO_spl h2 k hkn
    refine ⟨so, m, sc, ?_, f2, ?_⟩
    · rw [hv] at hk
      rw [hk.cellAt (k * 2 + 1) (by omega)]
      exact f1
    · rcases f3 with f3 | ⟨g, cu, g1, g2, g3, g4, g5⟩
      · exact .inl f3
      · refine .inr ⟨g, cu, g1, g2, g3, fun e => ?_, g4, g5⟩
        subst e
        exact hr g cu (by rw [hv]; rfl) g4
theorem Spl.set {w : World} {base top n g j : Nat} {v : Value} {u : Value} (h : Spl w base top v n) (hg : ∀ b cap, v = .slice (some ⟨b, 0, none⟩) n cap → g ≠ b) : Spl (w.setCell ⟨g, j, none⟩ u) base top v n := by
  obtain ⟨ao, cap, h1, h2, h3⟩ := h
  refine ⟨ao, cap, h1, h2, ?_⟩
  rcases h3 with h3 | ⟨b, e1, e2, e3, e4⟩
  · exact .inl h3
  · have hgb := hg b cap (by rw [h1, e1])
    refine .inr ⟨b, e1, e2, by simpa [World.setCell] using e3, fun k hk => ?_⟩
    obtain ⟨so, m, sc, f1, f2, f3⟩ := e4 k hk
    refine ⟨so, m, sc, (World.cell?_of_block (a := ⟨b, k * 2 + 1, none⟩) (heap_setCell_other w ⟨g, j, none⟩ b u (fun e => hgb e.symm))).trans f1, f2, ?_⟩
    rcases f3 with f3 | ⟨q, cur, g1, g2, g3, g4, g5, g6⟩
    · exact .inl f3
    · right
      by_cases e : q = g
      · subst e
        exact ⟨q, _, g1, g2, g3, g4, heap_setCell_same w q j cur _ u g5, by rw [Array.size_setIfInBounds]; exact g6⟩
      · exact ⟨q, cur, g1, g2, g3, g4, (heap_setCell_other w ⟨g, j, none⟩ q u e).trans g5, g6⟩

set_option maxRecDepth 100000 in
set_option maxHeartbeats 2000000 in
theorem spoilC_any {base top n : Nat} {v : Value} {w : World} (hv : Spl w base top v n) :
    Calls Try.prog 26 #[v] w fun e w' => e = .returned (.tuple #[]) ∧ Sand base top w w' := by
  obtain ⟨ao, cap, rfl, hm, -⟩ := id hv
  have HV := Lib.hid hv
  clear hv
  go_enter Try.func26, Try.ntmps26
  go_wp2
  go_loopw [2] (fun i wr => ∃ k : Nat, k ≤ n ∧ i = .int .i64 (k : Int) ∧ Hid (Spl wr base top (.slice ao n cap) n) ∧ Hid (Sand base top w wr)) (fun i _ => n - (intOf i).toNat)
  case atStart => exact ⟨0, by omega, rfl, HV, Lib.hid (Sand.refl _ _ _)⟩
  case round =>
    obtain ⟨k, hk, rfl, hsp, hsa⟩ := hrel
    by_cases hkn : k < n
    · have q1 : decide (k < n) = true := by simpa using hkn
      have q2 : (0 : Int) ≤ (k : Int) := by omega
      have q3 : (k : Int) < (n : Int) := by omega
      obtain ⟨b, rfl⟩ : ∃ b, ao = some ⟨b, 0, none⟩ := by
        obtain ⟨_, _, h0, _, h3⟩ := hsp
        obtain ⟨rfl, -, -⟩ := Value.slice.inj h0
        rcases h3 with h3 | ⟨b, h3, _⟩
        · omega
        · exact ⟨b, h3⟩
      have at1 : ∀ W : World, Spl W base top (.slice (some ⟨b, 0, none⟩) n cap) n → ∃ so m sc, W.cell? ⟨b, k * 2 + 1, none⟩ = some (.slice so m sc) ∧ m ≤ 9223372036854775807 ∧
          (m = 0 ∨ ∃ g cur, so = some ⟨g, 0, none⟩ ∧ base ≤ g ∧ g < top ∧ g ≠ b ∧ W.heap[g]? = some (.cells cur 63 (0, 0)) ∧ m * 2 ≤ cur.size) := fun W h => by
        obtain ⟨_, _, h0, _, h3⟩ := h
        obtain ⟨rfl, -, -⟩ := Value.slice.inj h0
        rcases h3 with h3 | ⟨b', h3, _, _, h4⟩
        · omega
        · cases h3
          exact h4 k hkn
      have AT := Lib.hid at1
      obtain ⟨so, m, sc, c1, hm2, -⟩ := at1 _ hsp.out
      have C1 := Lib.hid c1
      clear at1
      obtain ⟨wo, rfl⟩ : ∃ wo : World, wo = wr := ⟨_, rfl⟩
      go_wp2
      go_loopw [3] (fun i wr => ∃ j : Nat, j ≤ m ∧ i = .int .i64 (j : Int) ∧ Hid (Spl wr base top (.slice (some ⟨b, 0, none⟩) n cap) n) ∧ Hid (Sand base top w wr) ∧ Hid (wr.cell? ⟨b, k * 2 + 1, none⟩ = some (.slice so m sc))) (fun i _ => m - (intOf i).toNat)
      case atStart => exact ⟨0, by omega, rfl, hsp, hsa, C1⟩
      case round =>
        clear C1 hsp hsa c1
        obtain ⟨j, hj, rfl, hsp, hsa, hc⟩ := hrel
        obtain ⟨w2, rfl⟩ : ∃ w2 : World, w2 = wr := ⟨_, rfl⟩
        have c1 := hc.out
        by_cases hjm : j < m
        · have p1 : decide (j < m) = true := by simpa using hjm
          have p2 : (0 : Int) ≤ (j : Int) := by omega
          have p3 : (j : Int) < (m : Int) := by omega
          obtain ⟨so', m', sc', d1, _, d3⟩ := AT.out w2 hsp.out
          rw [c1] at d1
          obtain ⟨rfl, rfl, rfl⟩ := Value.slice.inj (Option.some.inj d1)
          obtain ⟨g, cur, rfl, g2, g3, g4, g5, g6⟩ : ∃ g cur, so = some ⟨g, 0, none⟩ ∧ base ≤ g ∧ g < top ∧ g ≠ b ∧ w2.heap[g]? = some (.cells cur 63 (0, 0)) ∧ m * 2 ≤ cur.size := by
            rcases d3 with d3 | d3
            · omega
            · exact d3
          have f1 : w2.frozen? ⟨g, j * 2 + 1, none⟩ = false := by simp [World.frozen?, g5]
          have f2 : w2.cell? ⟨g, j * 2 + 1, none⟩ = cur[j * 2 + 1]? := cell_of_row w2 g (j * 2 + 1) cur _ _ g5
          have f3 : cur[j * 2 + 1]? = some cur[j * 2 + 1] := Array.getElem?_eq_getElem (by omega)
          obtain ⟨y4, f4⟩ : ∃ y, w2.cell? ⟨g, j * 2 + 1, none⟩ = some y := ⟨_, f2.trans f3⟩
          have S2 := Lib.hid (hsp.out.set (g := g) (j := j * 2 + 1) (u := .int .u32 7777777) (fun b' cap' h => by
            obtain ⟨h1, -, -⟩ := Value.slice.inj h
            cases h1
            exact g4))
          have A2 : Hid (Sand base top w (w2.setCell ⟨g, j * 2 + 1, none⟩ (.int .u32 7777777))) :=
            hsa.out.trans ⟨(Below.refl _ _).setCell (p := ⟨g, j * 2 + 1, none⟩) g2 _, fun q hq => heap_setCell_other _ _ _ _ (show q ≠ g by omega)⟩
          have C2 : Hid ((w2.setCell ⟨g, j * 2 + 1, none⟩ (.int .u32 7777777)).cell? ⟨b, k * 2 + 1, none⟩ = some (.slice (some ⟨g, 0, none⟩) m sc)) :=
            (World.cell?_of_block (a := ⟨b, k * 2 + 1, none⟩) (heap_setCell_other w2 ⟨g, j * 2 + 1, none⟩ b _ (fun e => g4 e.symm))).trans c1
          clear d1 d3 f2 f3 g5 g6 hsp hsa hc
          go_wp2
          go_roundw
          case rel => exact ⟨j + 1, by omega, by go_num, S2, A2, C2⟩
          case measure => simp [intOf]; omega
        · have p1 : decide (j < m) = false := by simpa using hjm
          go_wp2
          go_roundw
          case rel => exact ⟨k + 1, by omega, by go_num, hsp, hsa⟩
          case measure => simp [intOf]; omega
    · have q1 : decide (k < n) = false := by simpa using hkn
      go_wp2
      go_end0
      exact ⟨rfl, hsa.out⟩
end Go.Proofs.Ytinglfhndlklaaa.Clocks
