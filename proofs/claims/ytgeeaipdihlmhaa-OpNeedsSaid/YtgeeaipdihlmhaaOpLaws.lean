/- The laws' helpers of layer 9: by, three, needs, bad, alive. Conditions: none. -/
import Derived.Test.YtgeeaipdihlmhaaOpRef
import Derived.Test.YtgeeaipdihlmhaaPlaceMore
import Derived.Deep.DrawnRows
import Derived.Deep.RegionHeld3
namespace Go.Proofs.Ytgeeaipdihlmhaa.Ops
open Go.RowKit Stamp Go.Proofs.Ytgeeaipdihlmhaa.Place
attribute [local go_sem ↓] Go.wp_at_zero Go.wp_at_succ

theorem by09_any (t r : Int) (w : World) : Calls Try.prog 7 #[.int .u32 t, .int .u8 r] w fun e w' => e = .returned (.agg #[.int .u32 t, .int .u8 r]) ∧ Below w.heap.size w w' := by
  go_enter Try.func7, Try.ntmps7
  go_wp2
  refine bodyPost_ret (v := .agg #[.int .u32 t, .int .u8 r]) (by simp [results, Try.results7, go_sem]) rfl ⟨rfl, ?_⟩
  exact (Below.refl _ _).alloc (Nat.le_refl _) _
/-- A run written out. -/
def lr9 (t r m : Nat) (h : t < 4294967296 ∧ r < 256 ∧ m < 10000) : Run := ⟨t, r, m, h.1, h.2.1, by omega⟩
def li9 (t r : Nat) (h : t < 4294967296 ∧ r < 256) : Id := ⟨t, r, h.1, h.2⟩
def lo9 (k t r : Nat) (pl : List Run) (p : Nat) (h : k < 256 ∧ t < 4294967296 ∧ r < 256 ∧ p < 2000000) : Opn := ⟨k, t, r, pl, p, h.1, h.2.1, h.2.2.1, by have := h.2.2.2; omega⟩
theorem three_any (w : World) : Calls Try.prog 11 #[] w fun e w' => ∃ g, e = .returned (.slice (some ⟨g, 0, none⟩) 1 1) ∧ Runs w' (.slice (some ⟨g, 0, none⟩) 1 1) [lr9 1 0 3 (by decide)] ∧ Below w.heap.size w w' := by
  go_enter Try.func11, Try.ntmps11
  go_wp2
  go_ret
  exact ⟨_, rfl, runs_new w [lr9 1 0 3 (by decide)] 1 rfl (by decide) 24 (0, 0), (Below.refl _ _).alloc (Nat.le_refl _) _⟩

theorem needs_yes {v u : Value} {o : Opn} {L : List Id} {w : World} (hv : Runs w v o.pl) (hu : Ids w u L) (hm : mayO o = true) (hl : needsL o = L) :
    Calls Try.prog 9 #[opv o v, u] w fun e w' => e = .returned (.bool true) ∧ Below w.heap.size w w' := by
  have N : Hid (∀ W : World, Below w.heap.size w W → Calls Try.prog 14 #[opv o v] W (Told L 0 W)) := fun W hW => by
    have h := oNeeds_any (hv.keeps hW)
    rw [hl, show chkO o = 0 by unfold chkO; rw [if_pos hm]] at h
    exact h
  have HU := Lib.hid hu
  obtain ⟨k, t, r, l, p, hk, ht, hr, hp⟩ := o
  unfold opv at N ⊢
  simp only at hv N ⊢
  have B0 : Hid (Below w.heap.size w (w.alloc (.cells #[.int .u8 (k : Int), .int .u32 (t : Int), .int .u8 (r : Int), v, .int .i64 p] 30))) := (Below.refl _ _).alloc (Nat.le_refl _) _
  clear hv hm hl hu
  go_enter Try.func9, Try.ntmps9
  go_wp2_with fail
  refine (N.out _ B0.out).mono ?_
  rintro e w1 ⟨ao, cap, rfl, i1, b1⟩
  have I1 := Lib.hid i1
  have B1 := Lib.hid (bt B0.out b1)
  clear i1 b1
  go_wp2_with fail
  refine (sameIds_yes I1.out (HU.out.keeps B1.out)).mono ?_
  rintro e w2 ⟨rfl, b2⟩
  have B2 := Lib.hid (bt B1.out b2)
  clear b2
  go_wp2
  go_ret
  exact ⟨rfl, B2.out⟩

theorem bad_yes {v : Value} {o : Opn} {w : World} (hv : Runs w v o.pl) (hm : mayO o = false) :
    Calls Try.prog 10 #[opv o v] w fun e w' => e = .returned (.bool true) ∧ Below w.heap.size w w' := by
  have N : Hid (∀ W : World, Below w.heap.size w W → Calls Try.prog 14 #[opv o v] W (Told [] 8 W)) := fun W hW => by
    have h := oNeeds_any (hv.keeps hW)
    rw [show needsL o = [] by unfold needsL; rw [hm]; rfl, show chkO o = 8 by unfold chkO; rw [hm]; rfl] at h
    exact h
  have C : Hid (∀ W : World, Below w.heap.size w W → Calls Try.prog 18 #[opv o v] W fun e w' => e = .returned (.int .i64 8) ∧ Below W.heap.size W w') := fun W hW => by
    have h := oCheck_any (hv.keeps hW)
    rw [show chkO o = 8 by unfold chkO; rw [hm]; rfl] at h
    exact h
  obtain ⟨k, t, r, l, p, hk, ht, hr, hp⟩ := o
  unfold opv at N C ⊢
  simp only at hv N C ⊢
  have B0 : Hid (Below w.heap.size w (w.alloc (.cells #[.int .u8 (k : Int), .int .u32 (t : Int), .int .u8 (r : Int), v, .int .i64 p] 30))) := (Below.refl _ _).alloc (Nat.le_refl _) _
  clear hv hm
  go_enter Try.func10, Try.ntmps10
  go_wp2_with fail
  refine (N.out _ B0.out).mono ?_
  rintro e w1 ⟨ao, cap, rfl, i1, b1⟩
  obtain ⟨c0, c1, c2, c3, c4⟩ := five_cells b1
  have B1 := Lib.hid (bt B0.out b1)
  clear i1 b1
  go_wp2_with fail
  refine (C.out _ B1.out).mono ?_
  rintro e w2 ⟨rfl, b2⟩
  have B2 := Lib.hid (bt B1.out b2)
  clear b2 c0 c1 c2 c3 c4
  go_wp2
  go_ret
  exact ⟨rfl, B2.out⟩

theorem ids_blk2 {X : World} {g : Nat} {a b : Id} {e : TypeId} {t r u s : Int} (ht : t = a.t) (hr : r = a.r) (hu : u = b.t) (hs : s = b.r) (h : X.heap[g]? = some (.cells #[.int .u32 t, .int .u8 r, .int .u32 u, .int .u8 s] e)) : Ids X (.slice (some ⟨g, 0, none⟩) 2 2) [a, b] := by
  subst ht hr hu hs
  refine ⟨rfl, _, _, rfl, Nat.le_refl _, by decide, by simp, .inr ⟨g, 0, rfl, (Array.getElem?_eq_some_iff.1 h).1, fun j u hj => ?_⟩⟩
  rw [cell_of_row X g (0 + j) _ e _ h, Nat.zero_add]
  simpa [ids] using hj
theorem ids_blk3 {X : World} {g : Nat} {a b c : Id} {e : TypeId} {t r u s x y : Int} (ht : t = a.t) (hr : r = a.r) (hu : u = b.t) (hs : s = b.r) (hx : x = c.t) (hy : y = c.r) (h : X.heap[g]? = some (.cells #[.int .u32 t, .int .u8 r, .int .u32 u, .int .u8 s, .int .u32 x, .int .u8 y] e)) : Ids X (.slice (some ⟨g, 0, none⟩) 3 3) [a, b, c] := by
  subst ht hr hu hs hx hy
  refine ⟨rfl, _, _, rfl, Nat.le_refl _, by decide, by simp, .inr ⟨g, 0, rfl, (Array.getElem?_eq_some_iff.1 h).1, fun j u hj => ?_⟩⟩
  rw [cell_of_row X g (0 + j) _ e _ h, Nat.zero_add]
  simpa [ids] using hj

/-- What blocks of five cells hold, over calls that write nothing that was there. -/
def Five (w : World) (g : Nat) (c0 c1 c2 c3 c4 : Value) : Prop := g < w.heap.size ∧ w.cell? ⟨g, 0, none⟩ = some c0 ∧ w.cell? ⟨g, 1, none⟩ = some c1 ∧ w.cell? ⟨g, 2, none⟩ = some c2 ∧ w.cell? ⟨g, 3, none⟩ = some c3 ∧ w.cell? ⟨g, 4, none⟩ = some c4
theorem Five.keeps {w w' : World} {g : Nat} {c0 c1 c2 c3 c4 : Value} (p : Five w g c0 c1 c2 c3 c4) (hb : Below w.heap.size w w') : Five w' g c0 c1 c2 c3 c4 :=
  ⟨Nat.lt_of_lt_of_le p.1 hb.size, (hb.cell (p := ⟨g, 0, none⟩) p.1).trans p.2.1, (hb.cell (p := ⟨g, 1, none⟩) p.1).trans p.2.2.1, (hb.cell (p := ⟨g, 2, none⟩) p.1).trans p.2.2.2.1, (hb.cell (p := ⟨g, 3, none⟩) p.1).trans p.2.2.2.2.1, (hb.cell (p := ⟨g, 4, none⟩) p.1).trans p.2.2.2.2.2⟩
theorem five_new (w : World) (c0 c1 c2 c3 c4 : Value) (e : TypeId) : Five (w.alloc (.cells #[c0, c1, c2, c3, c4] e)) w.heap.size c0 c1 c2 c3 c4 :=
  ⟨by simp, cell_of_row _ w.heap.size 0 _ e _ (heap_alloc_new w _), cell_of_row _ w.heap.size 1 _ e _ (heap_alloc_new w _), cell_of_row _ w.heap.size 2 _ e _ (heap_alloc_new w _), cell_of_row _ w.heap.size 3 _ e _ (heap_alloc_new w _), cell_of_row _ w.heap.size 4 _ e _ (heap_alloc_new w _)⟩
/-- The same for two such blocks, as a region wants it. -/
def Ten (wl : World) (g h : Nat) (c0 c1 c2 c3 c4 d0 d1 d2 d3 d4 : Value) (w' : World) : Prop := Below wl.heap.size wl w' ∧
  w'.cell? ⟨g, 0, none⟩ = some c0 ∧ w'.cell? ⟨g, 1, none⟩ = some c1 ∧ w'.cell? ⟨g, 2, none⟩ = some c2 ∧ w'.cell? ⟨g, 3, none⟩ = some c3 ∧ w'.cell? ⟨g, 4, none⟩ = some c4 ∧
  w'.cell? ⟨h, 0, none⟩ = some d0 ∧ w'.cell? ⟨h, 1, none⟩ = some d1 ∧ w'.cell? ⟨h, 2, none⟩ = some d2 ∧ w'.cell? ⟨h, 3, none⟩ = some d3 ∧ w'.cell? ⟨h, 4, none⟩ = some d4
theorem ten_of {wl w' : World} {g h : Nat} {c0 c1 c2 c3 c4 d0 d1 d2 d3 d4 : Value} (p : Five wl g c0 c1 c2 c3 c4) (q : Five wl h d0 d1 d2 d3 d4) (hb : Below wl.heap.size wl w') : Ten wl g h c0 c1 c2 c3 c4 d0 d1 d2 d3 d4 w' :=
  ⟨hb, (p.keeps hb).2.1, (p.keeps hb).2.2.1, (p.keeps hb).2.2.2.1, (p.keeps hb).2.2.2.2.1, (p.keeps hb).2.2.2.2.2, (q.keeps hb).2.1, (q.keeps hb).2.2.1, (q.keeps hb).2.2.2.1, (q.keeps hb).2.2.2.2.1, (q.keeps hb).2.2.2.2.2⟩
theorem ten_call {wl w1 w2 : World} {g h : Nat} {c0 c1 c2 c3 c4 d0 d1 d2 d3 d4 : Value} (p : Five wl g c0 c1 c2 c3 c4) (q : Five wl h d0 d1 d2 d3 d4) (b : Below w1.heap.size w1 w2) (hb : Below wl.heap.size wl w1) : Ten wl g h c0 c1 c2 c3 c4 d0 d1 d2 d3 d4 w2 :=
  ten_of p q (bt hb b)
theorem ten_alloc {wl w1 : World} {o : Obj} {g h : Nat} {c0 c1 c2 c3 c4 d0 d1 d2 d3 d4 : Value} (p : Five wl g c0 c1 c2 c3 c4) (q : Five wl h d0 d1 d2 d3 d4) (hb : Below wl.heap.size wl w1) : Ten wl g h c0 c1 c2 c3 c4 d0 d1 d2 d3 d4 (w1.alloc o) :=
  ten_of p q (hb.alloc hb.size o)

set_option maxRecDepth 100000 in
set_option maxHeartbeats 4000000 in
theorem alive09_any (w : World) : Calls Try.prog 8 #[] w fun e w' => e = .returned (.bool true) ∧ Below w.heap.size w w' := by
  have M1 : mayO (lo9 1 3 0 [lr9 1 0 3 (by decide)] 97 (by decide)) = true := by decide +kernel
  have M2 : mayO (lo9 3 9 1 [lr9 1 0 3 (by decide)] 0 (by decide)) = true := by decide +kernel
  have L1 : needsL (lo9 1 3 0 [lr9 1 0 3 (by decide)] 97 (by decide)) = [li9 1 0 (by decide), li9 2 0 (by decide)] := by decide +kernel
  have L2 : needsL (lo9 3 9 1 [lr9 1 0 3 (by decide)] 0 (by decide)) = [li9 1 0 (by decide), li9 2 0 (by decide), li9 3 0 (by decide)] := by decide +kernel
  have K1 : Hid (∀ (W : World) (v : Value), Runs W v [lr9 1 0 3 (by decide)] → Calls Try.prog 18 #[.agg #[.int .u8 1, .int .u32 3, .int .u8 0, v, .int .i64 97]] W fun e w' => e = .returned (.int .i64 0) ∧ Below W.heap.size W w') := fun W v h => by
    have := oCheck_any (o := lo9 1 3 0 [lr9 1 0 3 (by decide)] 97 (by decide)) h
    rw [show chkO (lo9 1 3 0 [lr9 1 0 3 (by decide)] 97 (by decide)) = 0 by unfold chkO; rw [if_pos M1]] at this
    exact this
  have K2 : Hid (∀ (W : World) (v : Value), Runs W v [lr9 1 0 3 (by decide)] → Calls Try.prog 18 #[.agg #[.int .u8 3, .int .u32 9, .int .u8 1, v, .int .i64 0]] W fun e w' => e = .returned (.int .i64 0) ∧ Below W.heap.size W w') := fun W v h => by
    have := oCheck_any (o := lo9 3 9 1 [lr9 1 0 3 (by decide)] 0 (by decide)) h
    rw [show chkO (lo9 3 9 1 [lr9 1 0 3 (by decide)] 0 (by decide)) = 0 by unfold chkO; rw [if_pos M2]] at this
    exact this
  have N1 : Hid (∀ (W : World) (v u : Value), Runs W v [lr9 1 0 3 (by decide)] → Ids W u [li9 1 0 (by decide), li9 2 0 (by decide)] → Calls Try.prog 9 #[.agg #[.int .u8 1, .int .u32 3, .int .u8 0, v, .int .i64 97], u] W fun e w' => e = .returned (.bool true) ∧ Below W.heap.size W w') := fun W v u h h2 =>
    needs_yes (o := lo9 1 3 0 [lr9 1 0 3 (by decide)] 97 (by decide)) h h2 M1 L1
  have N2 : Hid (∀ (W : World) (v u : Value), Runs W v [lr9 1 0 3 (by decide)] → Ids W u [li9 1 0 (by decide), li9 2 0 (by decide), li9 3 0 (by decide)] → Calls Try.prog 9 #[.agg #[.int .u8 3, .int .u32 9, .int .u8 1, v, .int .i64 0], u] W fun e w' => e = .returned (.bool true) ∧ Below W.heap.size W w') := fun W v u h h2 =>
    needs_yes (o := lo9 3 9 1 [lr9 1 0 3 (by decide)] 0 (by decide)) h h2 M2 L2
  clear M1 M2 L1 L2
  go_enter Try.func8, Try.ntmps8
  go_wp2_with fail
  refine (by09_any _ _ _).mono ?_
  rintro e w1 ⟨rfl, b1⟩
  have B1 := Lib.hid b1
  clear b1
  go_wp2_with fail
  refine (three_any _).mono ?_
  rintro e w2 ⟨g1, rfl, r2, b2⟩
  have R2 := Lib.hid r2
  have B2 := Lib.hid (bt B1.out b2)
  have F2 := Lib.hid (five_new w2 (.int .u8 1) (.int .u32 3) (.int .u8 0) (.slice (some ⟨g1, 0, none⟩) 1 1) (.int .i64 97) 30)
  have BA := Lib.hid ((Below.refl _ w2).alloc (Nat.le_refl _) (.cells #[.int .u8 1, .int .u32 3, .int .u8 0, .slice (some ⟨g1, 0, none⟩) 1 1, .int .i64 97] 30))
  clear r2 b2
  go_wp2_with fail
  refine (by09_any _ _ _).mono ?_
  rintro e w3 ⟨rfl, b3⟩
  have F3 := Lib.hid (F2.out.keeps b3)
  have B3 := Lib.hid (bt B2.out (bt BA.out b3))
  have R3 := Lib.hid (R2.out.keeps (bt BA.out b3))
  clear b3
  go_wp2_with fail
  refine (three_any _).mono ?_
  rintro e w4 ⟨g2, rfl, r4, b4⟩
  have R4 := Lib.hid r4
  have F4 := Lib.hid (F3.out.keeps b4)
  have B4 := Lib.hid (bt B3.out b4)
  have R5 := Lib.hid (R3.out.keeps b4)
  clear r4 b4
  have F5 := Lib.hid (five_new w4 (.int .u8 3) (.int .u32 9) (.int .u8 1) (.slice (some ⟨g2, 0, none⟩) 1 1) (.int .i64 0) 30)
  have BB := Lib.hid ((Below.refl _ w4).alloc (Nat.le_refl _) (.cells #[.int .u8 3, .int .u32 9, .int .u8 1, .slice (some ⟨g2, 0, none⟩) 1 1, .int .i64 0] 30))
  have F6 := Lib.hid (F4.out.keeps BB.out)
  have R6 := Lib.hid (R5.out.keeps BB.out)
  have R7 := Lib.hid (R4.out.keeps BB.out)
  have B6 := Lib.hid (bt B4.out BB.out)
  clear F2 BA F3 R3 F4 R5 R2 R4 BB B1 B2 B3 B4
  go_wp2_with fail
  obtain ⟨wl, hwl⟩ : ∃ wl, wl = w4.alloc (.cells #[.int .u8 3, .int .u32 9, .int .u8 1, .slice (some ⟨g2, 0, none⟩) 1 1, .int .i64 0] 30) := ⟨_, rfl⟩
  obtain ⟨h1, hh1⟩ : ∃ h, h = w2.heap.size := ⟨_, rfl⟩
  obtain ⟨h2, hh2⟩ : ∃ h, h = w4.heap.size := ⟨_, rfl⟩
  rw [← hwl] at F5 F6 R6 R7 B6 ⊢
  rw [← hh1] at F6 ⊢
  rw [← hh2] at F5 ⊢
  clear hwl hh1 hh2
  have C1 : Hid (∀ W : World, Below wl.heap.size wl W → Calls Try.prog 18 #[.agg #[.int .u8 1, .int .u32 3, .int .u8 0, .slice (some ⟨g1, 0, none⟩) 1 1, .int .i64 97]] W fun e w' => e = .returned (.int .i64 0) ∧ Below W.heap.size W w') := fun W h => K1.out _ _ (R6.out.keeps h)
  have C2 : Hid (∀ W : World, Below wl.heap.size wl W → Calls Try.prog 18 #[.agg #[.int .u8 3, .int .u32 9, .int .u8 1, .slice (some ⟨g2, 0, none⟩) 1 1, .int .i64 0]] W fun e w' => e = .returned (.int .i64 0) ∧ Below W.heap.size W w') := fun W h => K2.out _ _ (R7.out.keeps h)
  have D1 : Hid (∀ (W : World) (g : Nat), Below wl.heap.size wl W → W.heap[g]? = some (.cells #[.int .u32 1, .int .u8 0, .int .u32 2, .int .u8 0] 27) → Calls Try.prog 9 #[.agg #[.int .u8 1, .int .u32 3, .int .u8 0, .slice (some ⟨g1, 0, none⟩) 1 1, .int .i64 97], .slice (some ⟨g, 0, none⟩) 2 2] W fun e w' => e = .returned (.bool true) ∧ Below W.heap.size W w') := fun W g h hg =>
    N1.out _ _ _ (R6.out.keeps h) (ids_blk2 rfl rfl rfl rfl hg)
  have D2 : Hid (∀ (W : World) (g : Nat), Below wl.heap.size wl W → W.heap[g]? = some (.cells #[.int .u32 1, .int .u8 0, .int .u32 2, .int .u8 0, .int .u32 3, .int .u8 0] 27) → Calls Try.prog 9 #[.agg #[.int .u8 3, .int .u32 9, .int .u8 1, .slice (some ⟨g2, 0, none⟩) 1 1, .int .i64 0], .slice (some ⟨g, 0, none⟩) 3 3] W fun e w' => e = .returned (.bool true) ∧ Below W.heap.size W w') := fun W g h hg =>
    N2.out _ _ _ (R7.out.keeps h) (ids_blk3 rfl rfl rfl rfl rfl rfl hg)
  have T0 : Hid (Ten wl h1 h2 (.int .u8 1) (.int .u32 3) (.int .u8 0) (.slice (some ⟨g1, 0, none⟩) 1 1) (.int .i64 97) (.int .u8 3) (.int .u32 9) (.int .u8 1) (.slice (some ⟨g2, 0, none⟩) 1 1) (.int .i64 0) wl) := ten_of F6.out F5.out (Below.refl _ _)
  go_region_held3 (fun w' => Below wl.heap.size wl w' ∧
  w'.cell? ⟨h1, 0, none⟩ = some (.int .u8 1) ∧ w'.cell? ⟨h1, 1, none⟩ = some (.int .u32 3) ∧ w'.cell? ⟨h1, 2, none⟩ = some (.int .u8 0) ∧ w'.cell? ⟨h1, 3, none⟩ = some (.slice (some ⟨g1, 0, none⟩) 1 1) ∧ w'.cell? ⟨h1, 4, none⟩ = some (.int .i64 97) ∧
  w'.cell? ⟨h2, 0, none⟩ = some (.int .u8 3) ∧ w'.cell? ⟨h2, 1, none⟩ = some (.int .u32 9) ∧ w'.cell? ⟨h2, 2, none⟩ = some (.int .u8 1) ∧ w'.cell? ⟨h2, 3, none⟩ = some (.slice (some ⟨g2, 0, none⟩) 1 1) ∧ w'.cell? ⟨h2, 4, none⟩ = some (.int .i64 0))
    (first | exact ten_call F6.out F5.out (drew1 _) (Below.refl _ _) | (go_split_ands; exact ten_call F6.out F5.out (drew1 _) (by assumption)) | (go_split_ands; exact ten_call F6.out F5.out (by assumption) (by assumption)) | (go_split_ands; exact ten_alloc F6.out F5.out (by assumption)))
    ((first | (go_at_call 7; (with_reducible refine (by09_any _ _ _).mono ?_); rintro e w9 ⟨rfl, b9⟩)
              | (go_at_call 18; go_split_ands; (first | ((with_reducible refine (C1.out _ (by assumption)).mono ?_); rintro e w9 ⟨rfl, b9⟩) | ((with_reducible refine (C2.out _ (by assumption)).mono ?_); rintro e w9 ⟨rfl, b9⟩)))
              | (go_at_call 9; go_split_ands; (first | ((with_reducible refine (D1.out _ _ (by assumption) (blk_new rfl)).mono ?_); rintro e w9 ⟨rfl, b9⟩) | ((with_reducible refine (D2.out _ _ (by assumption) (blk_new rfl)).mono ?_); rintro e w9 ⟨rfl, b9⟩)))))
  go_wp2
  go_ret
  go_split_ands
  exact ⟨rfl, bt B6.out (by assumption)⟩
end Go.Proofs.Ytgeeaipdihlmhaa.Ops
