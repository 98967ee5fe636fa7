/- octavo/op and octavoref09: Content, Own, Same, Twin: what each answers. Conditions: the places' cells are runs. -/
import Derived.Test.YtdackenaknieaaaGreatPt06
import Derived.Test.YtdackenaknieaaaGreatPt05
import Derived.Test.YtdackenaknieaaaGreatPt01

namespace Go.Proofs.YtdackenaknieaaaGreat.Ops
open Go.RowKit Stamp Go.Proofs.YtdackenaknieaaaGreat.Place
attribute [local go_sem ↓] Go.wp_at_zero Go.wp_at_succ

theorem op_base {w : World} {b b' : Nat} {e : TypeId} {v : Value} {sz n : Nat} {cs : List Value} (h : w.ownsRow b e sz v n cs) (hb : b' ≤ b) : w.ownsRow b' e sz v n cs :=
  ⟨h.1, h.2.imp id fun ⟨g, cap, cur, h1, h2, h3⟩ => ⟨g, cap, cur, h1, by omega, h3⟩⟩
theorem op_set {w : World} {B H o n sz : Nat} {e : TypeId} {v d : Value} {cs : List Value} (h : w.ownsRow B e sz v n cs) (hH : H < B) : (w.setCell ⟨H, o, none⟩ d).ownsRow B e sz v n cs :=
  ownsRow_setCell_below h (a := ⟨H, o, none⟩) hH d
/-- Five cells of a block stored. -/
def put5 (X : World) (g : Nat) (d0 d1 d2 d3 d4 : Value) : World := ((((X.setCell ⟨g, 0, none⟩ d0).setCell ⟨g, 1, none⟩ d1).setCell ⟨g, 2, none⟩ d2).setCell ⟨g, 3, none⟩ d3).setCell ⟨g, 4, none⟩ d4
theorem put5_same {X : World} {g : Nat} {c0 c1 c2 c3 c4 : Value} (d0 d1 d2 d3 d4 : Value) {e : TypeId} (h : X.heap[g]? = some (.cells #[c0, c1, c2, c3, c4] e)) : (put5 X g d0 d1 d2 d3 d4).heap[g]? = some (.cells #[d0, d1, d2, d3, d4] e) := by
  have h0 := heap_setCell_same X g 0 _ _ d0 h
  have h1 := heap_setCell_same _ g 1 _ _ d1 h0
  have h2 := heap_setCell_same _ g 2 _ _ d2 h1
  have h3 := heap_setCell_same _ g 3 _ _ d3 h2
  have h4 := heap_setCell_same _ g 4 _ _ d4 h3
  exact h4
theorem put5_below {B g : Nat} {W X : World} (d0 d1 d2 d3 d4 : Value) (hg : B ≤ g) (h : Below B W X) : Below B W (put5 X g d0 d1 d2 d3 d4) :=
  ((((h.setCell (p := ⟨g, 0, none⟩) hg _).setCell (p := ⟨g, 1, none⟩) hg _).setCell (p := ⟨g, 2, none⟩) hg _).setCell (p := ⟨g, 3, none⟩) hg _).setCell (p := ⟨g, 4, none⟩) hg _
theorem put5_own {X : World} {B g sz n : Nat} {e : TypeId} {v : Value} {cs : List Value} (d0 d1 d2 d3 d4 : Value) (h : X.ownsRow B e sz v n cs) (hg : g < B) : (put5 X g d0 d1 d2 d3 d4).ownsRow B e sz v n cs :=
  op_set (op_set (op_set (op_set (op_set h hg) hg) hg) hg) hg
theorem cells5 {X : World} {g : Nat} {c0 c1 c2 c3 c4 : Value} {e : TypeId} (h : X.heap[g]? = some (.cells #[c0, c1, c2, c3, c4] e)) :
    X.cell? ⟨g, 0, none⟩ = some c0 ∧ X.cell? ⟨g, 1, none⟩ = some c1 ∧ X.cell? ⟨g, 2, none⟩ = some c2 ∧ X.cell? ⟨g, 3, none⟩ = some c3 ∧ X.cell? ⟨g, 4, none⟩ = some c4 :=
  ⟨cell_of_row _ g 0 _ e _ h, cell_of_row _ g 1 _ e _ h, cell_of_row _ g 2 _ e _ h, cell_of_row _ g 3 _ e _ h, cell_of_row _ g 4 _ e _ h⟩
theorem free5 {X : World} {g : Nat} {cs : Array Value} {e : TypeId} (h : X.heap[g]? = some (.cells cs e)) (o : Nat) : X.frozen? ⟨g, o, none⟩ = false := by simp [World.frozen?, h]

def contB (o : Opn) : Bool := decide (o.k = 1) || decide (o.k = 3)
/-- Are all fields the same? -/
def sameB (a b : Opn) : Bool := decide (a.k = b.k ∧ (a.t = b.t ∧ a.r = b.r) ∧ a.pl = b.pl ∧ a.p = b.p)
theorem sameB_iff (a b : Opn) : sameB a b = true ↔ a = b := by
  unfold sameB
  rw [decide_eq_true_iff]
  exact ⟨fun h => Opn.ext' h.1 h.2.1.1 h.2.1.2 h.2.2.1 h.2.2.2, fun h => by rw [h]; exact ⟨rfl, ⟨rfl, rfl⟩, rfl, rfl⟩⟩

theorem oContent_any {v : Value} {o : Opn} (w : World) :
    Calls Tryz.prog 64 #[opv o v] w fun e w' => e = .returned (.bool (contB o)) ∧ Below w.heap.size w w' := by
  obtain ⟨k, t, r, l, p, hk, ht, hr, hp⟩ := o
  unfold opv contB
  simp only
  have B0 : Hid (Below w.heap.size w (w.alloc (.cells #[.int .u8 (k : Int), .int .u32 (t : Int), .int .u8 (r : Int), v, .int .i64 p] 31))) := (Below.refl _ _).alloc (Nat.le_refl _) _
  by_cases h1 : k = 1
  · subst h1
    rw [show (decide (1 = 1) || decide (1 = 3)) = true from rfl]
    go_enter Tryz.func64, Tryz.ntmps64
    go_wp2
    go_ret
    exact ⟨rfl, B0.out⟩
  · have q1 : ((k : Int) == 1) = false := by simp; omega
    by_cases h3 : k = 3
    · subst h3
      rw [show (decide (3 = 1) || decide (3 = 3)) = true from rfl]
      go_enter Tryz.func64, Tryz.ntmps64
      go_wp2
      go_ret
      exact ⟨rfl, B0.out⟩
    · have q3 : ((k : Int) == 3) = false := by simp; omega
      rw [decide_eq_false h1, decide_eq_false h3, Bool.or_false]
      go_enter Tryz.func64, Tryz.ntmps64
      go_wp2
      go_ret
      exact ⟨rfl, B0.out⟩

theorem refContent_any {v : Value} {o : Opn} (w : World) :
    Calls Tryz.prog 76 #[opv o v] w fun e w' => e = .returned (.bool (contB o)) ∧ Below w.heap.size w w' := by
  obtain ⟨k, t, r, l, p, hk, ht, hr, hp⟩ := o
  unfold opv contB
  simp only
  have B0 : Hid (Below w.heap.size w (w.alloc (.cells #[.int .u8 (k : Int), .int .u32 (t : Int), .int .u8 (r : Int), v, .int .i64 p] 31))) := (Below.refl _ _).alloc (Nat.le_refl _) _
  by_cases h1 : k = 1
  · subst h1
    rw [show (decide (1 = 1) || decide (1 = 3)) = true from rfl]
    go_enter Tryz.func76, Tryz.ntmps76
    go_wp2
    go_ret
    exact ⟨rfl, B0.out⟩
  · have q1 : ((k : Int) == 1) = false := by simp; omega
    by_cases h3 : k = 3
    · subst h3
      rw [show (decide (3 = 1) || decide (3 = 3)) = true from rfl]
      go_enter Tryz.func76, Tryz.ntmps76
      go_wp2
      go_ret
      exact ⟨rfl, B0.out⟩
    · have q3 : ((k : Int) == 3) = false := by simp; omega
      rw [decide_eq_false h1, decide_eq_false h3, Bool.or_false]
      go_enter Tryz.func76, Tryz.ntmps76
      go_wp2
      go_ret
      exact ⟨rfl, B0.out⟩

/-- Is its place its own? -/
def ownB (o : Opn) : Bool := decide (o.k = 1) || decide (o.k = 2)

theorem refOwn_any {v : Value} {o : Opn} (w : World) :
    Calls Tryz.prog 131 #[opv o v] w fun e w' => e = .returned (.bool (ownB o)) ∧ Below w.heap.size w w' := by
  obtain ⟨k, t, r, l, p, hk, ht, hr, hp⟩ := o
  unfold opv ownB
  simp only
  have B0 : Hid (Below w.heap.size w (w.alloc (.cells #[.int .u8 (k : Int), .int .u32 (t : Int), .int .u8 (r : Int), v, .int .i64 p] 31))) := (Below.refl _ _).alloc (Nat.le_refl _) _
  by_cases h1 : k = 1
  · subst h1
    rw [show (decide (1 = 1) || decide (1 = 2)) = true from rfl]
    go_enter Tryz.func131, Tryz.ntmps131
    go_wp2
    go_ret
    exact ⟨rfl, B0.out⟩
  · have q1 : ((k : Int) == 1) = false := by simp; omega
    by_cases h3 : k = 2
    · subst h3
      rw [show (decide (2 = 1) || decide (2 = 2)) = true from rfl]
      go_enter Tryz.func131, Tryz.ntmps131
      go_wp2
      go_ret
      exact ⟨rfl, B0.out⟩
    · have q3 : ((k : Int) == 2) = false := by simp; omega
      rw [decide_eq_false h1, decide_eq_false h3, Bool.or_false]
      go_enter Tryz.func131, Tryz.ntmps131
      go_wp2
      go_ret
      exact ⟨rfl, B0.out⟩

set_option maxHeartbeats 4000000 in
theorem refSame_any {u v : Value} {a b : Opn} {w : World} (hu : Runs w u a.pl) (hv : Runs w v b.pl) :
    Calls Tryz.prog 45 #[opv a u, opv b v] w fun e w' => e = .returned (.bool (sameB a b)) ∧ Below w.heap.size w w' := by
  obtain ⟨k, t, r, l, p, hk, ht, hr, hp⟩ := a
  obtain ⟨k', t', r', l', p', hk', ht', hr', hp'⟩ := b
  unfold opv sameB
  simp only at hu hv ⊢
  have B0 : Hid (Below w.heap.size w ((w.alloc (.cells #[.int .u8 (k : Int), .int .u32 (t : Int), .int .u8 (r : Int), u, .int .i64 p] 31)).alloc (.cells #[.int .u8 (k' : Int), .int .u32 (t' : Int), .int .u8 (r' : Int), v, .int .i64 p'] 31))) := ((Below.refl _ _).alloc (Nat.le_refl _) _).alloc (by simp) _
  by_cases h1 : k = k'
  · subst h1
    by_cases h2 : t = t'
    · subst h2
      by_cases h3 : r = r'
      · subst h3
        have C : Hid (∀ W : World, Below w.heap.size w W → Calls Tryz.prog 81 #[u, v] W fun e w' => e = .returned (.bool (decide (l = l'))) ∧ Below W.heap.size W w') := fun W hW => Place.refSame_any (hu.keeps hW) (hv.keeps hW)
        have KK : Hid (∀ W : World, Below ((w.alloc (.cells #[.int .u8 (k : Int), .int .u32 (t : Int), .int .u8 (r : Int), u, .int .i64 p] 31)).alloc (.cells #[.int .u8 (k : Int), .int .u32 (t : Int), .int .u8 (r : Int), v, .int .i64 p'] 31)).heap.size ((w.alloc (.cells #[.int .u8 (k : Int), .int .u32 (t : Int), .int .u8 (r : Int), u, .int .i64 p] 31)).alloc (.cells #[.int .u8 (k : Int), .int .u32 (t : Int), .int .u8 (r : Int), v, .int .i64 p'] 31)) W →
            W.cell? ⟨w.heap.size, 4, none⟩ = some (.int .i64 p) ∧ W.cell? ⟨w.heap.size + 1, 4, none⟩ = some (.int .i64 p')) := fun W hW => by
          have a1 := five_cells (w := w) (((Below.refl _ _).alloc (Nat.le_refl _) _).trans (hW.mono (by simp)))
          have a2 := five_cells (w := w.alloc _) hW
          exact ⟨a1.2.2.2.2, by simpa using a2.2.2.2.2⟩
        by_cases h4 : l = l'
        · subst h4
          rw [decide_eq_true rfl] at C
          obtain ⟨q, hq⟩ : ∃ q, decide (p = p') = q := ⟨_, rfl⟩
          rw [show decide (k = k ∧ (t = t ∧ r = r) ∧ l = l ∧ p = p') = q by rw [← hq]; simp]
          have q5 : (p == p') = q := by rw [← hq]; simp [BEq.beq]
          clear hu hv hq
          go_enter Tryz.func45, Tryz.ntmps45
          go_wp2_with fail
          refine (C.out _ B0.out).mono ?_
          rintro e w1 ⟨rfl, b1⟩
          obtain ⟨c1, c2⟩ := KK.out _ b1
          have B1 := Lib.hid (bt B0.out b1)
          clear b1
          go_wp2
          go_ret
          exact ⟨rfl, B1.out⟩
        · rw [decide_eq_false h4] at C
          rw [decide_eq_false (fun h => h4 h.2.2.1)]
          clear hu hv h4
          go_enter Tryz.func45, Tryz.ntmps45
          go_wp2_with fail
          refine (C.out _ B0.out).mono ?_
          rintro e w1 ⟨rfl, b1⟩
          have B1 := Lib.hid (bt B0.out b1)
          clear b1
          go_wp2
          go_ret
          exact ⟨rfl, B1.out⟩
      · rw [decide_eq_false (fun h => h3 h.2.1.2)]
        have q3 : ((r : Int) == (r' : Int)) = false := by simp; omega
        have q4 : decide (r = r') = false := decide_eq_false h3
        clear hu hv
        go_enter Tryz.func45, Tryz.ntmps45
        go_wp2
        go_ret
        exact ⟨rfl, B0.out⟩
    · rw [decide_eq_false (fun h => h2 h.2.1.1)]
      have q3 : ((t : Int) == (t' : Int)) = false := by simp; omega
      have q4 : decide (t = t') = false := decide_eq_false h2
      clear hu hv
      go_enter Tryz.func45, Tryz.ntmps45
      go_wp2
      go_ret
      exact ⟨rfl, B0.out⟩
  · rw [decide_eq_false (fun h => h1 h.1)]
    have q3 : ((k : Int) == (k' : Int)) = false := by simp; omega
    have q4 : decide (k = k') = false := decide_eq_false h1
    clear hu hv
    go_enter Tryz.func45, Tryz.ntmps45
    go_wp2
    go_ret
    exact ⟨rfl, B0.out⟩

set_option maxHeartbeats 4000000 in
theorem oTwin_any {v : Value} {o : Opn} {w : World} (hv : Runs w v o.pl) (hl : o.pl.length ≤ 8796093022208) :
    Calls Tryz.prog 57 #[opv o v] w fun e w' => ∃ v', e = .returned (opv o v') ∧ w'.ownsRow w.heap.size 49 3 v' o.pl.length (runs o.pl) ∧ Below w.heap.size w w' := by
  obtain ⟨k, t, r, l, p, hk, ht, hr, hp⟩ := o
  unfold opv
  simp only at hv hl ⊢
  have C : Hid (∀ W : World, Below w.heap.size w W → Calls Tryz.prog 65 #[v] W fun e w' => ∃ v', e = .returned v' ∧ w'.ownsRow W.heap.size 49 3 v' l.length (runs l) ∧ Below W.heap.size W w') := fun W hW => ptwin_any (hv.keeps hW) hl
  have KK : Hid (∀ W : World, Below ((w.alloc (.cells #[.int .u8 (k : Int), .int .u32 (t : Int), .int .u8 (r : Int), v, .int .i64 p] 31)).alloc (.cells #[.int .u8 0, .int .u32 0, .int .u8 0, .slice none 0 0, .int .i64 0] 31)).heap.size ((w.alloc (.cells #[.int .u8 (k : Int), .int .u32 (t : Int), .int .u8 (r : Int), v, .int .i64 p] 31)).alloc (.cells #[.int .u8 0, .int .u32 0, .int .u8 0, .slice none 0 0, .int .i64 0] 31)) W →
      W.heap[w.heap.size]? = some (.cells #[.int .u8 (k : Int), .int .u32 (t : Int), .int .u8 (r : Int), v, .int .i64 p] 31) ∧ W.heap[w.heap.size + 1]? = some (.cells #[.int .u8 0, .int .u32 0, .int .u8 0, .slice none 0 0, .int .i64 0] 31)) := fun W hW =>
    ⟨blk_below hW (blk_old (blk_new rfl)), blk_below hW (blk_new (by simp))⟩
  have B0 : Hid (Below w.heap.size w ((w.alloc (.cells #[.int .u8 (k : Int), .int .u32 (t : Int), .int .u8 (r : Int), v, .int .i64 p] 31)).alloc (.cells #[.int .u8 0, .int .u32 0, .int .u8 0, .slice none 0 0, .int .i64 0] 31))) := ((Below.refl _ _).alloc (Nat.le_refl _) _).alloc (by simp) _
  clear hv hl
  go_enter Tryz.func57, Tryz.ntmps57
  go_wp2_with fail
  refine (C.out _ B0.out).mono ?_
  rintro e w1 ⟨v1, rfl, o1, b1⟩
  obtain ⟨ao, cap, rfl⟩ : ∃ ao cap, v1 = .slice ao l.length cap := Sees.shape (Sees.own o1)
  obtain ⟨k1, k2⟩ := KK.out _ b1
  have B1 := Lib.hid (bt B0.out b1)
  have O1 : Hid (w1.ownsRow (w.heap.size + 2) 49 3 (.slice ao l.length cap) l.length (runs l)) := op_base o1 (by simp)
  have k3 := heap_setCell_same w1 w.heap.size 3 _ _ (.slice ao l.length cap) k1
  have k4 : (w1.setCell ⟨w.heap.size, 3, none⟩ (.slice ao l.length cap)).heap[w.heap.size + 1]? = some (.cells #[.int .u8 0, .int .u32 0, .int .u8 0, .slice none 0 0, .int .i64 0] 31) := by
    rw [heap_setCell_other _ _ _ _ (by simp)]
    exact k2
  have f1 := free5 k1 3
  have HK := Lib.hid k3
  have HK4 := Lib.hid k4
  obtain ⟨c0, c1, c2, c3, c4⟩ := cells5 k1
  obtain ⟨d0, d1, d2, d3, d4⟩ := cells5 k2
  have OS : Hid ((w1.setCell ⟨w.heap.size, 3, none⟩ (.slice ao l.length cap)).ownsRow (w.heap.size + 2) 49 3 (.slice ao l.length cap) l.length (runs l)) := op_set O1.out (by omega)
  have BS : Hid (Below w.heap.size w (w1.setCell ⟨w.heap.size, 3, none⟩ (.slice ao l.length cap))) := B1.out.setCell (p := ⟨w.heap.size, 3, none⟩) (Nat.le_refl _) _
  have f2 : ∀ o, w1.frozen? ⟨w.heap.size + 1, o, none⟩ = false := fun o => free5 k2 o
  clear o1 b1 k1 k2 k3 k4
  go_wp2_with fail
  obtain ⟨W, hW⟩ : ∃ W, W = put5 (w1.setCell ⟨w.heap.size, 3, none⟩ (.slice ao l.length cap)) (w.heap.size + 1) (.int .u8 (k : Int)) (.int .u32 (t : Int)) (.int .u8 (r : Int)) (.slice ao l.length cap) (.int .i64 p) := ⟨_, rfl⟩
  have OW := put5_own (.int .u8 (k : Int)) (.int .u32 (t : Int)) (.int .u8 (r : Int)) (.slice ao l.length cap) (.int .i64 p) OS.out (show w.heap.size + 1 < w.heap.size + 2 by omega)
  have BW := put5_below (.int .u8 (k : Int)) (.int .u32 (t : Int)) (.int .u8 (r : Int)) (.slice ao l.length cap) (.int .i64 p) (show w.heap.size ≤ w.heap.size + 1 by omega) BS.out
  obtain ⟨e0, e1, e2, e3, e4⟩ := cells5 (put5_same (.int .u8 (k : Int)) (.int .u32 (t : Int)) (.int .u8 (r : Int)) (.slice ao l.length cap) (.int .i64 p) HK4.out)
  rw [← hW] at OW BW e0 e1 e2 e3 e4
  unfold put5 at hW
  rw [← hW]
  exact bodyPost_ret (v := .agg #[.int .u8 (k : Int), .int .u32 (t : Int), .int .u8 (r : Int), .slice ao l.length cap, .int .i64 p]) (by simp [results, Tryz.results57, go_sem, e0, e1, e2, e3, e4]) rfl ⟨_, rfl, op_base OW (by omega), BW⟩

set_option maxHeartbeats 4000000 in
theorem refTwin_any {v : Value} {o : Opn} {w : World} (hv : Runs w v o.pl) (hl : o.pl.length ≤ 8796093022208) :
    Calls Tryz.prog 72 #[opv o v] w fun e w' => ∃ v', e = .returned (opv o v') ∧ w'.ownsRow w.heap.size 49 3 v' o.pl.length (runs o.pl) ∧ Below w.heap.size w w' := by
  obtain ⟨k, t, r, l, p, hk, ht, hr, hp⟩ := o
  unfold opv
  simp only at hv hl ⊢
  have C : Hid (∀ W : World, Below w.heap.size w W → Calls Tryz.prog 110 #[v] W fun e w' => ∃ v', e = .returned v' ∧ w'.ownsRow W.heap.size 49 3 v' l.length (runs l) ∧ Below W.heap.size W w') := fun W hW => twin_any (hv.keeps hW) hl
  have KK : Hid (∀ W : World, Below ((w.alloc (.cells #[.int .u8 (k : Int), .int .u32 (t : Int), .int .u8 (r : Int), v, .int .i64 p] 31)).alloc (.cells #[.int .u8 0, .int .u32 0, .int .u8 0, .slice none 0 0, .int .i64 0] 31)).heap.size ((w.alloc (.cells #[.int .u8 (k : Int), .int .u32 (t : Int), .int .u8 (r : Int), v, .int .i64 p] 31)).alloc (.cells #[.int .u8 0, .int .u32 0, .int .u8 0, .slice none 0 0, .int .i64 0] 31)) W →
      W.heap[w.heap.size]? = some (.cells #[.int .u8 (k : Int), .int .u32 (t : Int), .int .u8 (r : Int), v, .int .i64 p] 31) ∧ W.heap[w.heap.size + 1]? = some (.cells #[.int .u8 0, .int .u32 0, .int .u8 0, .slice none 0 0, .int .i64 0] 31)) := fun W hW =>
    ⟨blk_below hW (blk_old (blk_new rfl)), blk_below hW (blk_new (by simp))⟩
  have B0 : Hid (Below w.heap.size w ((w.alloc (.cells #[.int .u8 (k : Int), .int .u32 (t : Int), .int .u8 (r : Int), v, .int .i64 p] 31)).alloc (.cells #[.int .u8 0, .int .u32 0, .int .u8 0, .slice none 0 0, .int .i64 0] 31))) := ((Below.refl _ _).alloc (Nat.le_refl _) _).alloc (by simp) _
  clear hv hl
  go_enter Tryz.func72, Tryz.ntmps72
  go_wp2_with fail
  refine (C.out _ B0.out).mono ?_
  rintro e w1 ⟨v1, rfl, o1, b1⟩
  obtain ⟨ao, cap, rfl⟩ : ∃ ao cap, v1 = .slice ao l.length cap := Sees.shape (Sees.own o1)
  obtain ⟨k1, k2⟩ := KK.out _ b1
  have B1 := Lib.hid (bt B0.out b1)
  have O1 : Hid (w1.ownsRow (w.heap.size + 2) 49 3 (.slice ao l.length cap) l.length (runs l)) := op_base o1 (by simp)
  have k3 := heap_setCell_same w1 w.heap.size 3 _ _ (.slice ao l.length cap) k1
  have k4 : (w1.setCell ⟨w.heap.size, 3, none⟩ (.slice ao l.length cap)).heap[w.heap.size + 1]? = some (.cells #[.int .u8 0, .int .u32 0, .int .u8 0, .slice none 0 0, .int .i64 0] 31) := by
    rw [heap_setCell_other _ _ _ _ (by simp)]
    exact k2
  have f1 := free5 k1 3
  have HK := Lib.hid k3
  have HK4 := Lib.hid k4
  obtain ⟨c0, c1, c2, c3, c4⟩ := cells5 k1
  obtain ⟨d0, d1, d2, d3, d4⟩ := cells5 k2
  have OS : Hid ((w1.setCell ⟨w.heap.size, 3, none⟩ (.slice ao l.length cap)).ownsRow (w.heap.size + 2) 49 3 (.slice ao l.length cap) l.length (runs l)) := op_set O1.out (by omega)
  have BS : Hid (Below w.heap.size w (w1.setCell ⟨w.heap.size, 3, none⟩ (.slice ao l.length cap))) := B1.out.setCell (p := ⟨w.heap.size, 3, none⟩) (Nat.le_refl _) _
  have f2 : ∀ o, w1.frozen? ⟨w.heap.size + 1, o, none⟩ = false := fun o => free5 k2 o
  clear o1 b1 k1 k2 k3 k4
  go_wp2_with fail
  obtain ⟨W, hW⟩ : ∃ W, W = put5 (w1.setCell ⟨w.heap.size, 3, none⟩ (.slice ao l.length cap)) (w.heap.size + 1) (.int .u8 (k : Int)) (.int .u32 (t : Int)) (.int .u8 (r : Int)) (.slice ao l.length cap) (.int .i64 p) := ⟨_, rfl⟩
  have OW := put5_own (.int .u8 (k : Int)) (.int .u32 (t : Int)) (.int .u8 (r : Int)) (.slice ao l.length cap) (.int .i64 p) OS.out (show w.heap.size + 1 < w.heap.size + 2 by omega)
  have BW := put5_below (.int .u8 (k : Int)) (.int .u32 (t : Int)) (.int .u8 (r : Int)) (.slice ao l.length cap) (.int .i64 p) (show w.heap.size ≤ w.heap.size + 1 by omega) BS.out
  obtain ⟨e0, e1, e2, e3, e4⟩ := cells5 (put5_same (.int .u8 (k : Int)) (.int .u32 (t : Int)) (.int .u8 (r : Int)) (.slice ao l.length cap) (.int .i64 p) HK4.out)
  rw [← hW] at OW BW e0 e1 e2 e3 e4
  unfold put5 at hW
  rw [← hW]
  exact bodyPost_ret (v := .agg #[.int .u8 (k : Int), .int .u32 (t : Int), .int .u8 (r : Int), .slice ao l.length cap, .int .i64 p]) (by simp [results, Tryz.results72, go_sem, e0, e1, e2, e3, e4]) rfl ⟨_, rfl, op_base OW (by omega), BW⟩
end Go.Proofs.YtdackenaknieaaaGreat.Ops

/- What Under answers, as lists: its runs are each short. Conditions: none. -/
namespace Go.Proofs.YtdackenaknieaaaGreat.Place
open Go.RowKit Stamp
attribute [local go_sem ↓] Go.wp_at_zero Go.wp_at_succ

end Go.Proofs.YtdackenaknieaaaGreat.Place

/- Places: a stamp put behind, beginnings, rising stamps, a child's place in the order. Conditions: none. -/
namespace Go.Proofs.YtdackenaknieaaaGreat.Place
open Go.RowKit Stamp

/-- A place that is not the beginning, as its last run behind the others. -/
theorem split_last {l : List Run} (h : 0 < l.length) : l = l.take (l.length - 1) ++ [l.getD (l.length - 1) zrun] := by
  have h2 : l.take (l.length - 1 + 1) = l := List.take_of_length_le (by omega)
  rw [List.take_succ_eq_append_getElem (by omega)] at h2
  rw [show l.getD (l.length - 1) zrun = l[l.length - 1] by simp [List.getD, List.getElem?_eq_getElem (show l.length - 1 < l.length by omega)]]
  exact h2.symm
theorem up_last (t r : Nat) : ∀ n, 1 ≤ n → (up t r n).getLast? = some (mk (t + n - 1) r) := by
  intro n hn
  obtain ⟨k, rfl⟩ : ∃ k, n = k + 1 := ⟨n - 1, by omega⟩
  rw [up_snoc, List.getLast?_append]
  simp
/-- The last run's last stamp is the last of all. -/
theorem last_all {l : List Run} (hc : Chain l) (h : 0 < l.length) : (all l).getLast? = some (mk ((l.getD (l.length - 1) zrun).t + (l.getD (l.length - 1) zrun).m.toNat - 1) (l.getD (l.length - 1) zrun).r) := by
  have hs := split_last h
  have ho := chain_one hc (k := l.length - 1) (by omega)
  obtain ⟨x, hx⟩ : ∃ x, x = l.getD (l.length - 1) zrun := ⟨_, rfl⟩
  rw [← hx] at hs ho ⊢
  obtain ⟨n, hn, n1, n2, n3, n4⟩ := ho.nat
  rw [hs, all_append, List.getLast?_append]
  have : all [x] = up x.t x.r n := by simp [all, n3]
  rw [this, up_last _ _ _ n1, n3]
  simp
end Go.Proofs.YtdackenaknieaaaGreat.Place

/- octavo/op.Needs, octavoref09: May, Check, Many, Stands, Needs: what each answers. Conditions: the places' cells are runs. -/
namespace Go.Proofs.YtdackenaknieaaaGreat.Ops
open Go.RowKit Stamp Go.Proofs.YtdackenaknieaaaGreat.Place
attribute [local go_sem ↓] Go.wp_at_zero Go.wp_at_succ

/-- How many of the stamps of its place it doesn't stand on. -/
def offs (o : Opn) : Nat := if ownB o = true then 1 else 0
theorem all_pos {l : List Run} (h : mayB l = true) : 1 ≤ (all l).length ∧ (all l).length ≤ 4096 ∧ ((all l).length : Int) = long l := by
  have hM := (mayB_iff l).1 h
  have h1 := long_len hM.2.2.1
  have h2 := hM.2.2.2
  refine ⟨?_, by omega, h1⟩
  rcases Nat.lt_or_ge 0 (all l).length with h3 | h3
  · exact h3
  · exfalso
    have h4 : all l = [] := List.length_eq_zero_iff.1 (by omega)
    have h5 := (all_nil hM.2.2.1).1 h4
    have := hM.1
    rw [h5] at this
    simp at this
theorem mayO_parts {o : Opn} (h : mayO o = true) : may o.t o.r = true ∧ mayB o.pl = true ∧ kindB o = true := by
  unfold mayO at h
  simp only [Bool.and_eq_true] at h
  exact ⟨h.1, h.2.1, h.2.2⟩
set_option maxHeartbeats 8000000 in
theorem refMayO_any {v : Value} {o : Opn} {w : World} (hv : Runs w v o.pl) :
    Calls Tryz.prog 111 #[opv o v] w fun e w' => e = .returned (.bool (mayO o)) ∧ Below w.heap.size w w' := by
  obtain ⟨k, t, r, l, p, hk, ht, hr, hp⟩ := o
  unfold opv
  simp only at hv ⊢
  obtain ⟨b, hb⟩ : ∃ b, mayO ⟨k, t, r, l, p, hk, ht, hr, hp⟩ = b := ⟨_, rfl⟩
  rw [hb]
  have hb2 : (may t r && (mayB l && kindF k t r (lastV l).1 (lastV l).2 p)) = b := hb
  clear hb
  have HB := Lib.hid hb2
  have HV := Lib.hid hv
  have B0 : Hid (Below w.heap.size w (w.alloc (.cells #[.int .u8 (k : Int), .int .u32 (t : Int), .int .u8 (r : Int), v, .int .i64 p] 31))) := (Below.refl _ _).alloc (Nat.le_refl _) _
  clear hb2 hv
  have q1 : decide ((k : Int) < 1) = decide (k < 1) := by simp; omega
  by_cases k0 : k = 0
  · subst k0
    obtain rfl : false = b := by rw [← HB.out]; simp [kindF]
    go_enter Tryz.func111, Tryz.ntmps111
    go_wp2
    go_ret
    exact ⟨rfl, B0.out⟩
  by_cases k5 : 4 < k
  · obtain rfl : false = b := by rw [← HB.out]; unfold kindF; rw [if_neg (by omega), if_neg (by omega), if_neg (by omega)]; simp
    have s1 : decide ((k : Int) < 1) = false := decide_eq_false (by omega)
    have s2 : decide ((4 : Int) < (k : Int)) = true := decide_eq_true (by omega)
    clear q1
    go_enter Tryz.func111, Tryz.ntmps111
    go_wp2
    go_ret
    exact ⟨rfl, B0.out⟩
  have s1 : decide ((k : Int) < 1) = false := decide_eq_false (by omega)
  have s2 : decide ((4 : Int) < (k : Int)) = false := decide_eq_false (by omega)
  have M : Hid (∀ W : World, Calls Tryz.prog 129 #[.agg #[.int .u32 (t : Int), .int .u8 (r : Int)]] W fun e w' => e = .returned (.bool (may t r)) ∧ Below W.heap.size W w') := fun W => refMay_any t r W
  clear q1
  cases h1 : may t r
  · obtain rfl : false = b := by rw [← HB.out, h1]; rfl
    rw [h1] at M
    clear h1
    go_enter Tryz.func111, Tryz.ntmps111
    go_wp2_with fail
    refine (M.out _).mono ?_
    rintro e w1 ⟨rfl, b1⟩
    have B1 := Lib.hid (bt B0.out b1)
    clear b1
    go_wp2
    go_ret
    exact ⟨rfl, B1.out⟩
  rw [h1] at M
  cases h2 : mayB l
  · obtain rfl : false = b := by rw [← HB.out, h1, h2]; rfl
    have M2 : Hid (∀ W : World, Below w.heap.size w W → Calls Tryz.prog 130 #[v] W fun e w' => e = .returned (.bool false) ∧ Below W.heap.size W w') := fun W hW => refMay_is (HV.out.keeps hW) h2
    clear h1 h2
    go_enter Tryz.func111, Tryz.ntmps111
    go_wp2_with fail
    refine (M.out _).mono ?_
    rintro e w1 ⟨rfl, b1⟩
    obtain ⟨c0, c1, c2, c3, c4⟩ := five_cells b1
    have B1 := Lib.hid (bt B0.out b1)
    clear b1
    go_wp2_with fail
    refine (M2.out _ B1.out).mono ?_
    rintro e w2 ⟨rfl, b2⟩
    have B2 := Lib.hid (bt B1.out b2)
    clear b2 c0 c1 c2 c3 c4
    go_wp2
    go_ret
    exact ⟨rfl, B2.out⟩
  have M2 : Hid (∀ W : World, Below w.heap.size w W → Calls Tryz.prog 130 #[v] W fun e w' => e = .returned (.bool true) ∧ Below W.heap.size W w') := fun W hW => refMay_is (HV.out.keeps hW) h2
  have hM := (mayB_iff l).1 h2
  have hkk : kindF k t r (lastV l).1 (lastV l).2 p = b := by rw [← HB.out, h1, h2]; rfl
  obtain ⟨j, hj⟩ : ∃ j, l.length = j + 1 := ⟨l.length - 1, by have := hM.1; omega⟩
  have hlv : lastV l = (((l.getD j zrun).t : Int) + ((l.getD j zrun).m - 1), ((l.getD j zrun).r : Int)) := by unfold lastV; rw [if_pos h2, hj, Nat.add_sub_cancel]
  have FI : Hid (∀ W : World, Below w.heap.size w W → Calls Tryz.prog 118 #[v] W fun e w' => e = .returned (.agg #[.int .u32 (lastV l).1, .int .u8 (lastV l).2]) ∧ Below W.heap.size W w') := fun W hW => by
    rw [hlv]
    exact final_any (HV.out.keeps hW) hj rfl (chain_one hM.2.2.1 (by omega)) (by have := hM.2.1; omega)
  obtain ⟨lt, hlt⟩ : ∃ x, x = (lastV l).1 := ⟨_, rfl⟩
  obtain ⟨lr, hlr⟩ : ∃ x, x = (lastV l).2 := ⟨_, rfl⟩
  rw [← hlt, ← hlr] at FI hkk
  have HK := Lib.hid hkk
  have OW : Hid (∀ W : World, Calls Tryz.prog 131 #[.agg #[.int .u8 (k : Int), .int .u32 (t : Int), .int .u8 (r : Int), v, .int .i64 p]] W fun e w' => e = .returned (.bool (decide (k = 1) || decide (k = 2))) ∧ Below W.heap.size W w') := fun W => refOwn_any (v := v) (o := ⟨k, t, r, l, p, hk, ht, hr, hp⟩) W
  have IS : Hid (∀ W : World, Calls Tryz.prog 132 #[.int .i64 p] W fun e w' => e = .returned (.bool (Pt.isB p)) ∧ W = w') := fun W => Pt.refIs_any p W
  clear h1 h2 hM hkk hj hlv hlt hlr HB
  have kk : k = 1 ∨ k = 2 ∨ (k = 3 ∨ k = 4) := by omega
  clear k0 k5
  rcases kk with rfl | rfl | hk3
  · have ho : (decide (1 = 1) || decide (1 = 2)) = true := rfl
    have hq : (decide ((lt, lr) = ((t : Int), (r : Int))) && Pt.isB p) = b := HK.out
    rw [ho] at OW
    clear ho HK
    have pair : (lt = (t : Int) ∧ lr = (r : Int)) ∨ (¬ lt = (t : Int)) ∨ (lt = (t : Int) ∧ ¬ lr = (r : Int)) := by omega
    rcases pair with ⟨rfl, rfl⟩ | h | ⟨rfl, h⟩
    · rw [decide_eq_true rfl, Bool.true_and] at hq
      rw [hq] at IS
      clear hq
      cases b
      all_goals
        go_enter Tryz.func111, Tryz.ntmps111
        go_wp2_with fail
        refine (M.out _).mono ?_
        rintro e w1 ⟨rfl, b1⟩
        obtain ⟨c0, c1, c2, c3, c4⟩ := five_cells b1
        have B1 := Lib.hid (bt B0.out b1)
        have C1 := Lib.hid b1
        clear b1
        go_wp2_with fail
        refine (M2.out _ B1.out).mono ?_
        rintro e w2 ⟨rfl, b2⟩
        have B2 := Lib.hid (bt B1.out b2)
        have C2 := Lib.hid (bt C1.out b2)
        clear b2 c0 c1 c2 c3 c4
        obtain ⟨c0, c1, c2, c3, c4⟩ := five_cells C2.out
        go_wp2_with fail
        refine (FI.out _ B2.out).mono ?_
        rintro e w3 ⟨rfl, b3⟩
        have B3 := Lib.hid (bt B2.out b3)
        have C3 := Lib.hid (bt C2.out b3)
        clear b3 c0 c1 c2 c3 c4
        obtain ⟨c0, c1, c2, c3, c4⟩ := five_cells C3.out
        have z3 : w.heap.size < w3.heap.size := by have := C3.out.size; simp at this; omega
        have B3' := Lib.hid (fun o : Obj => B3.out.alloc B3.out.size o)
        have C3' := Lib.hid (fun o : Obj => C3.out.alloc C3.out.size o)
        go_wp2_with fail
        refine (OW.out _).mono ?_
        rintro e w4 ⟨rfl, b4⟩
        have B4 := Lib.hid (bt (B3'.out _) b4)
        have C4 := Lib.hid (bt (C3'.out _) b4)
        have D4 := Lib.hid b4
        clear b4 c0 c1 c2 c3 c4
        obtain ⟨c0, c1, c2, c3, c4⟩ := five_cells C4.out
        obtain ⟨d0, d1, -, -⟩ := two_cells D4.out
        go_wp2_with fail
        refine (OW.out _).mono ?_
        rintro e w5 ⟨rfl, b5⟩
        have B5 := Lib.hid (bt B4.out b5)
        have C5 := Lib.hid (bt C4.out b5)
        have D5 := Lib.hid (bt D4.out b5)
        clear b5 c0 c1 c2 c3 c4 d0 d1
        obtain ⟨c0, c1, c2, c3, c4⟩ := five_cells C5.out
        obtain ⟨d0, d1, -, -⟩ := two_cells D5.out
        go_wp2_with fail
        refine (IS.out _).mono ?_
        rintro e w6 ⟨rfl, rfl⟩
        go_wp2
        go_ret
        exact ⟨rfl, B5.out⟩
    · rw [decide_eq_false (fun e => h (Prod.mk.inj e).1), Bool.false_and] at hq
      subst hq
      have q8 : (lt == (t : Int)) = false := by simp; omega
      have q7 : ¬ (t : Int) = lt := fun e => h e.symm
      go_enter Tryz.func111, Tryz.ntmps111
      go_wp2_with fail
      refine (M.out _).mono ?_
      rintro e w1 ⟨rfl, b1⟩
      obtain ⟨c0, c1, c2, c3, c4⟩ := five_cells b1
      have B1 := Lib.hid (bt B0.out b1)
      have C1 := Lib.hid b1
      clear b1
      go_wp2_with fail
      refine (M2.out _ B1.out).mono ?_
      rintro e w2 ⟨rfl, b2⟩
      have B2 := Lib.hid (bt B1.out b2)
      have C2 := Lib.hid (bt C1.out b2)
      clear b2 c0 c1 c2 c3 c4
      obtain ⟨c0, c1, c2, c3, c4⟩ := five_cells C2.out
      go_wp2_with fail
      refine (FI.out _ B2.out).mono ?_
      rintro e w3 ⟨rfl, b3⟩
      have B3 := Lib.hid (bt B2.out b3)
      have C3 := Lib.hid (bt C2.out b3)
      clear b3 c0 c1 c2 c3 c4
      obtain ⟨c0, c1, c2, c3, c4⟩ := five_cells C3.out
      have z3 : w.heap.size < w3.heap.size := by have := C3.out.size; simp at this; omega
      have B3' := Lib.hid (fun o : Obj => B3.out.alloc B3.out.size o)
      have C3' := Lib.hid (fun o : Obj => C3.out.alloc C3.out.size o)
      go_wp2_with fail
      refine (OW.out _).mono ?_
      rintro e w4 ⟨rfl, b4⟩
      have B4 := Lib.hid (bt (B3'.out _) b4)
      have C4 := Lib.hid (bt (C3'.out _) b4)
      have D4 := Lib.hid b4
      clear b4 c0 c1 c2 c3 c4
      obtain ⟨c0, c1, c2, c3, c4⟩ := five_cells C4.out
      obtain ⟨d0, d1, -, -⟩ := two_cells D4.out
      go_wp2
      go_ret
      exact ⟨rfl, B4.out⟩
    · rw [decide_eq_false (fun e => h (Prod.mk.inj e).2), Bool.false_and] at hq
      subst hq
      have q8 : (lr == (r : Int)) = false := by simp; omega
      have q7 : ¬ (r : Int) = lr := fun e => h e.symm
      go_enter Tryz.func111, Tryz.ntmps111
      go_wp2_with fail
      refine (M.out _).mono ?_
      rintro e w1 ⟨rfl, b1⟩
      obtain ⟨c0, c1, c2, c3, c4⟩ := five_cells b1
      have B1 := Lib.hid (bt B0.out b1)
      have C1 := Lib.hid b1
      clear b1
      go_wp2_with fail
      refine (M2.out _ B1.out).mono ?_
      rintro e w2 ⟨rfl, b2⟩
      have B2 := Lib.hid (bt B1.out b2)
      have C2 := Lib.hid (bt C1.out b2)
      clear b2 c0 c1 c2 c3 c4
      obtain ⟨c0, c1, c2, c3, c4⟩ := five_cells C2.out
      go_wp2_with fail
      refine (FI.out _ B2.out).mono ?_
      rintro e w3 ⟨rfl, b3⟩
      have B3 := Lib.hid (bt B2.out b3)
      have C3 := Lib.hid (bt C2.out b3)
      clear b3 c0 c1 c2 c3 c4
      obtain ⟨c0, c1, c2, c3, c4⟩ := five_cells C3.out
      have z3 : w.heap.size < w3.heap.size := by have := C3.out.size; simp at this; omega
      have B3' := Lib.hid (fun o : Obj => B3.out.alloc B3.out.size o)
      have C3' := Lib.hid (fun o : Obj => C3.out.alloc C3.out.size o)
      go_wp2_with fail
      refine (OW.out _).mono ?_
      rintro e w4 ⟨rfl, b4⟩
      have B4 := Lib.hid (bt (B3'.out _) b4)
      have C4 := Lib.hid (bt (C3'.out _) b4)
      have D4 := Lib.hid b4
      clear b4 c0 c1 c2 c3 c4
      obtain ⟨c0, c1, c2, c3, c4⟩ := five_cells C4.out
      obtain ⟨d0, d1, -, -⟩ := two_cells D4.out
      go_wp2
      go_ret
      exact ⟨rfl, B4.out⟩
  · have ho : (decide (2 = 1) || decide (2 = 2)) = true := rfl
    have hq : (decide ((lt, lr) = ((t : Int), (r : Int))) && decide (p = 0)) = b := HK.out
    rw [ho] at OW
    clear ho HK
    have pair : (lt = (t : Int) ∧ lr = (r : Int)) ∨ (¬ lt = (t : Int)) ∨ (lt = (t : Int) ∧ ¬ lr = (r : Int)) := by omega
    rcases pair with ⟨rfl, rfl⟩ | h | ⟨rfl, h⟩
    · rw [decide_eq_true rfl, Bool.true_and] at hq
      have q9 : (p == 0) = b := by rw [← hq]; simp [BEq.beq]
      clear hq
      cases b
      all_goals
        go_enter Tryz.func111, Tryz.ntmps111
        go_wp2_with fail
        refine (M.out _).mono ?_
        rintro e w1 ⟨rfl, b1⟩
        obtain ⟨c0, c1, c2, c3, c4⟩ := five_cells b1
        have B1 := Lib.hid (bt B0.out b1)
        have C1 := Lib.hid b1
        clear b1
        go_wp2_with fail
        refine (M2.out _ B1.out).mono ?_
        rintro e w2 ⟨rfl, b2⟩
        have B2 := Lib.hid (bt B1.out b2)
        have C2 := Lib.hid (bt C1.out b2)
        clear b2 c0 c1 c2 c3 c4
        obtain ⟨c0, c1, c2, c3, c4⟩ := five_cells C2.out
        go_wp2_with fail
        refine (FI.out _ B2.out).mono ?_
        rintro e w3 ⟨rfl, b3⟩
        have B3 := Lib.hid (bt B2.out b3)
        have C3 := Lib.hid (bt C2.out b3)
        clear b3 c0 c1 c2 c3 c4
        obtain ⟨c0, c1, c2, c3, c4⟩ := five_cells C3.out
        have z3 : w.heap.size < w3.heap.size := by have := C3.out.size; simp at this; omega
        have B3' := Lib.hid (fun o : Obj => B3.out.alloc B3.out.size o)
        have C3' := Lib.hid (fun o : Obj => C3.out.alloc C3.out.size o)
        go_wp2_with fail
        refine (OW.out _).mono ?_
        rintro e w4 ⟨rfl, b4⟩
        have B4 := Lib.hid (bt (B3'.out _) b4)
        have C4 := Lib.hid (bt (C3'.out _) b4)
        have D4 := Lib.hid b4
        clear b4 c0 c1 c2 c3 c4
        obtain ⟨c0, c1, c2, c3, c4⟩ := five_cells C4.out
        obtain ⟨d0, d1, -, -⟩ := two_cells D4.out
        go_wp2_with fail
        refine (OW.out _).mono ?_
        rintro e w5 ⟨rfl, b5⟩
        have B5 := Lib.hid (bt B4.out b5)
        have C5 := Lib.hid (bt C4.out b5)
        have D5 := Lib.hid (bt D4.out b5)
        clear b5 c0 c1 c2 c3 c4 d0 d1
        obtain ⟨c0, c1, c2, c3, c4⟩ := five_cells C5.out
        obtain ⟨d0, d1, -, -⟩ := two_cells D5.out
        go_wp2
        go_ret
        exact ⟨rfl, B5.out⟩
    · rw [decide_eq_false (fun e => h (Prod.mk.inj e).1), Bool.false_and] at hq
      subst hq
      have q8 : (lt == (t : Int)) = false := by simp; omega
      have q7 : ¬ (t : Int) = lt := fun e => h e.symm
      go_enter Tryz.func111, Tryz.ntmps111
      go_wp2_with fail
      refine (M.out _).mono ?_
      rintro e w1 ⟨rfl, b1⟩
      obtain ⟨c0, c1, c2, c3, c4⟩ := five_cells b1
      have B1 := Lib.hid (bt B0.out b1)
      have C1 := Lib.hid b1
      clear b1
      go_wp2_with fail
      refine (M2.out _ B1.out).mono ?_
      rintro e w2 ⟨rfl, b2⟩
      have B2 := Lib.hid (bt B1.out b2)
      have C2 := Lib.hid (bt C1.out b2)
      clear b2 c0 c1 c2 c3 c4
      obtain ⟨c0, c1, c2, c3, c4⟩ := five_cells C2.out
      go_wp2_with fail
      refine (FI.out _ B2.out).mono ?_
      rintro e w3 ⟨rfl, b3⟩
      have B3 := Lib.hid (bt B2.out b3)
      have C3 := Lib.hid (bt C2.out b3)
      clear b3 c0 c1 c2 c3 c4
      obtain ⟨c0, c1, c2, c3, c4⟩ := five_cells C3.out
      have z3 : w.heap.size < w3.heap.size := by have := C3.out.size; simp at this; omega
      have B3' := Lib.hid (fun o : Obj => B3.out.alloc B3.out.size o)
      have C3' := Lib.hid (fun o : Obj => C3.out.alloc C3.out.size o)
      go_wp2_with fail
      refine (OW.out _).mono ?_
      rintro e w4 ⟨rfl, b4⟩
      have B4 := Lib.hid (bt (B3'.out _) b4)
      have C4 := Lib.hid (bt (C3'.out _) b4)
      have D4 := Lib.hid b4
      clear b4 c0 c1 c2 c3 c4
      obtain ⟨c0, c1, c2, c3, c4⟩ := five_cells C4.out
      obtain ⟨d0, d1, -, -⟩ := two_cells D4.out
      go_wp2
      go_ret
      exact ⟨rfl, B4.out⟩
    · rw [decide_eq_false (fun e => h (Prod.mk.inj e).2), Bool.false_and] at hq
      subst hq
      have q8 : (lr == (r : Int)) = false := by simp; omega
      have q7 : ¬ (r : Int) = lr := fun e => h e.symm
      go_enter Tryz.func111, Tryz.ntmps111
      go_wp2_with fail
      refine (M.out _).mono ?_
      rintro e w1 ⟨rfl, b1⟩
      obtain ⟨c0, c1, c2, c3, c4⟩ := five_cells b1
      have B1 := Lib.hid (bt B0.out b1)
      have C1 := Lib.hid b1
      clear b1
      go_wp2_with fail
      refine (M2.out _ B1.out).mono ?_
      rintro e w2 ⟨rfl, b2⟩
      have B2 := Lib.hid (bt B1.out b2)
      have C2 := Lib.hid (bt C1.out b2)
      clear b2 c0 c1 c2 c3 c4
      obtain ⟨c0, c1, c2, c3, c4⟩ := five_cells C2.out
      go_wp2_with fail
      refine (FI.out _ B2.out).mono ?_
      rintro e w3 ⟨rfl, b3⟩
      have B3 := Lib.hid (bt B2.out b3)
      have C3 := Lib.hid (bt C2.out b3)
      clear b3 c0 c1 c2 c3 c4
      obtain ⟨c0, c1, c2, c3, c4⟩ := five_cells C3.out
      have z3 : w.heap.size < w3.heap.size := by have := C3.out.size; simp at this; omega
      have B3' := Lib.hid (fun o : Obj => B3.out.alloc B3.out.size o)
      have C3' := Lib.hid (fun o : Obj => C3.out.alloc C3.out.size o)
      go_wp2_with fail
      refine (OW.out _).mono ?_
      rintro e w4 ⟨rfl, b4⟩
      have B4 := Lib.hid (bt (B3'.out _) b4)
      have C4 := Lib.hid (bt (C3'.out _) b4)
      have D4 := Lib.hid b4
      clear b4 c0 c1 c2 c3 c4
      obtain ⟨c0, c1, c2, c3, c4⟩ := five_cells C4.out
      obtain ⟨d0, d1, -, -⟩ := two_cells D4.out
      go_wp2
      go_ret
      exact ⟨rfl, B4.out⟩
  · have ho : (decide (k = 1) || decide (k = 2)) = false := by rw [decide_eq_false (by omega), decide_eq_false (by omega)]; rfl
    have hq : (decide (lt < (t : Int)) && decide (p = 0)) = b := by rw [← HK.out]; unfold kindF; rw [if_neg (by omega), if_neg (by omega), if_pos hk3]
    have s5 : ((k : Int) == 1) = false := by simp; omega
    rw [ho] at OW
    clear ho HK
    by_cases h : lt < (t : Int)
    · have s3 : decide ((t : Int) ≤ lt) = false := decide_eq_false (by omega)
      rw [decide_eq_true h, Bool.true_and] at hq
      have q9 : (p == 0) = b := by rw [← hq]; simp [BEq.beq]
      clear hq
      cases b
      all_goals
        go_enter Tryz.func111, Tryz.ntmps111
        go_wp2_with fail
        refine (M.out _).mono ?_
        rintro e w1 ⟨rfl, b1⟩
        obtain ⟨c0, c1, c2, c3, c4⟩ := five_cells b1
        have B1 := Lib.hid (bt B0.out b1)
        have C1 := Lib.hid b1
        clear b1
        go_wp2_with fail
        refine (M2.out _ B1.out).mono ?_
        rintro e w2 ⟨rfl, b2⟩
        have B2 := Lib.hid (bt B1.out b2)
        have C2 := Lib.hid (bt C1.out b2)
        clear b2 c0 c1 c2 c3 c4
        obtain ⟨c0, c1, c2, c3, c4⟩ := five_cells C2.out
        go_wp2_with fail
        refine (FI.out _ B2.out).mono ?_
        rintro e w3 ⟨rfl, b3⟩
        have B3 := Lib.hid (bt B2.out b3)
        have C3 := Lib.hid (bt C2.out b3)
        clear b3 c0 c1 c2 c3 c4
        obtain ⟨c0, c1, c2, c3, c4⟩ := five_cells C3.out
        have z3 : w.heap.size < w3.heap.size := by have := C3.out.size; simp at this; omega
        have B3' := Lib.hid (fun o : Obj => B3.out.alloc B3.out.size o)
        have C3' := Lib.hid (fun o : Obj => C3.out.alloc C3.out.size o)
        go_wp2_with fail
        refine (OW.out _).mono ?_
        rintro e w4 ⟨rfl, b4⟩
        have B4 := Lib.hid (bt (B3'.out _) b4)
        have C4 := Lib.hid (bt (C3'.out _) b4)
        have D4 := Lib.hid b4
        clear b4 c0 c1 c2 c3 c4
        obtain ⟨c0, c1, c2, c3, c4⟩ := five_cells C4.out
        obtain ⟨d0, d1, -, -⟩ := two_cells D4.out
        go_wp2_with fail
        refine (OW.out _).mono ?_
        rintro e w5 ⟨rfl, b5⟩
        have B5 := Lib.hid (bt B4.out b5)
        have C5 := Lib.hid (bt C4.out b5)
        have D5 := Lib.hid (bt D4.out b5)
        clear b5 c0 c1 c2 c3 c4 d0 d1
        obtain ⟨c0, c1, c2, c3, c4⟩ := five_cells C5.out
        obtain ⟨d0, d1, -, -⟩ := two_cells D5.out
        go_wp2
        go_ret
        exact ⟨rfl, B5.out⟩
    · have s3 : decide ((t : Int) ≤ lt) = true := decide_eq_true (by omega)
      rw [decide_eq_false h, Bool.false_and] at hq
      subst hq
      go_enter Tryz.func111, Tryz.ntmps111
      go_wp2_with fail
      refine (M.out _).mono ?_
      rintro e w1 ⟨rfl, b1⟩
      obtain ⟨c0, c1, c2, c3, c4⟩ := five_cells b1
      have B1 := Lib.hid (bt B0.out b1)
      have C1 := Lib.hid b1
      clear b1
      go_wp2_with fail
      refine (M2.out _ B1.out).mono ?_
      rintro e w2 ⟨rfl, b2⟩
      have B2 := Lib.hid (bt B1.out b2)
      have C2 := Lib.hid (bt C1.out b2)
      clear b2 c0 c1 c2 c3 c4
      obtain ⟨c0, c1, c2, c3, c4⟩ := five_cells C2.out
      go_wp2_with fail
      refine (FI.out _ B2.out).mono ?_
      rintro e w3 ⟨rfl, b3⟩
      have B3 := Lib.hid (bt B2.out b3)
      have C3 := Lib.hid (bt C2.out b3)
      clear b3 c0 c1 c2 c3 c4
      obtain ⟨c0, c1, c2, c3, c4⟩ := five_cells C3.out
      have z3 : w.heap.size < w3.heap.size := by have := C3.out.size; simp at this; omega
      have B3' := Lib.hid (fun o : Obj => B3.out.alloc B3.out.size o)
      have C3' := Lib.hid (fun o : Obj => C3.out.alloc C3.out.size o)
      go_wp2_with fail
      refine (OW.out _).mono ?_
      rintro e w4 ⟨rfl, b4⟩
      have B4 := Lib.hid (bt (B3'.out _) b4)
      have C4 := Lib.hid (bt (C3'.out _) b4)
      have D4 := Lib.hid b4
      clear b4 c0 c1 c2 c3 c4
      obtain ⟨c0, c1, c2, c3, c4⟩ := five_cells C4.out
      obtain ⟨d0, d1, -, -⟩ := two_cells D4.out
      go_wp2_with fail
      refine (OW.out _).mono ?_
      rintro e w5 ⟨rfl, b5⟩
      have B5 := Lib.hid (bt B4.out b5)
      have C5 := Lib.hid (bt C4.out b5)
      have D5 := Lib.hid (bt D4.out b5)
      clear b5 c0 c1 c2 c3 c4 d0 d1
      obtain ⟨c0, c1, c2, c3, c4⟩ := five_cells C5.out
      obtain ⟨d0, d1, -, -⟩ := two_cells D5.out
      go_wp2
      go_ret
      exact ⟨rfl, B5.out⟩
end Go.Proofs.YtdackenaknieaaaGreat.Ops

/- Lists of operations: what a slice value holds, places of the call's own. Conditions: none. -/
namespace Go.Proofs.YtdackenaknieaaaGreat.Codes
open Go.RowKit Go.WideShapes Go.Proofs.YtdackenaknieaaaGreat.Place Ops

def zop : Opn := ⟨0, 0, 0, [], 0, by decide, by decide, by decide, by decide⟩
instance : DecidableEq Opn := fun a b => decidable_of_iff (sameB a b = true) (sameB_iff a b)
theorem op_info : (Tryz.prog.info? 31).map (fun i => (i.zero, i.size, i.bytes)) = some (some (.agg #[.int .u8 0, .int .u32 0, .int .u8 0, .slice none 0 0, .int .i64 0]), 5, 48) := by kernel_rfl
/-- Operations in cells, each place of the call's own. -/
def HoldP (w : World) (base : Nat) : List Value → List Opn → Prop
  | cs, [] => cs = []
  | cs, o :: l => ∃ v d, cs = [.int .u8 (o.k : Int), .int .u32 (o.t : Int), .int .u8 (o.r : Int), v, .int .i64 o.p] ++ d ∧ w.ownsRow base 49 3 v o.pl.length (runs o.pl) ∧ HoldP w base d l
theorem HoldP.rows {w : World} {base : Nat} : ∀ {cs : List Value} {l : List Opn}, HoldP w base cs l → opE.rows w cs l
  | _, [], h => h
  | _, _ :: _, ⟨v, d, h1, h2, h3⟩ => ⟨_, d, h1, ⟨v, rfl, Runs.own h2⟩, HoldP.rows h3⟩
theorem HoldP.keeps {w w' : World} {base : Nat} (hb : Below w.heap.size w w') : ∀ {cs : List Value} {l : List Opn}, HoldP w base cs l → HoldP w' base cs l
  | _, [], h => h
  | _, _ :: _, ⟨v, d, h1, h2, h3⟩ => ⟨v, d, h1, own_stays h2 hb, HoldP.keeps hb h3⟩
theorem HoldP.append {w : World} {base : Nat} : ∀ {cs ds : List Value} {l m : List Opn}, HoldP w base cs l → HoldP w base ds m → HoldP w base (cs ++ ds) (l ++ m)
  | cs, _, [], _, h, h2 => by rw [show cs = [] from h]; exact h2
  | _, ds, _ :: _, _, ⟨v, d, h1, h3, h4⟩, h2 => ⟨v, d ++ ds, by rw [h1, List.append_assoc], h3, HoldP.append h4 h2⟩
theorem HoldP.base {w : World} {b b' : Nat} (hb : b' ≤ b) : ∀ {cs : List Value} {l : List Opn}, HoldP w b cs l → HoldP w b' cs l
  | _, [], h => h
  | _, _ :: _, ⟨v, d, h1, h2, h3⟩ => ⟨v, d, h1, op_base h2 hb, HoldP.base hb h3⟩
theorem HoldP.grown {w w' : World} {base sz n B : Nat} {v : Value} {rs : List Value} (hg : w.grownBy w' v.ownBlock) (hv : w.ownsRow B 31 sz v n rs) : ∀ {cs : List Value} {l : List Opn}, HoldP w base cs l → HoldP w' base cs l
  | _, [], h => h
  | _, _ :: _, ⟨u, d, h1, h2, h3⟩ => by
    refine ⟨u, d, h1, ?_, HoldP.grown hg hv h3⟩
    refine ⟨h2.1, h2.2.imp id fun ⟨g, cap, cur, e1, e2, e3, e4⟩ => ⟨g, cap, cur, e1, e2, ?_, e4⟩⟩
    exact blk_grown hg (own_ne hv e3 (by intro c h; injection h with h1 h2 h3; exact absurd h2 (by decide))) e3
/-- A list of the call's own, its places too. -/
def OwnL (w : World) (base : Nat) (v : Value) (l : List Opn) : Prop := ∃ cs, w.ownsRow base 31 5 v l.length cs ∧ HoldP w base cs l
theorem OwnL.opl {w : World} {base : Nat} {v : Value} {l : List Opn} (h : OwnL w base v l) : OpL w v l := by
  obtain ⟨cs, h1, h2⟩ := h
  exact ⟨cs, Sees.own h1, h2.rows⟩
theorem OwnL.keeps {w w' : World} {base : Nat} {v : Value} {l : List Opn} (h : OwnL w base v l) (hb : Below w.heap.size w w') : OwnL w' base v l := by
  obtain ⟨cs, h1, h2⟩ := h
  exact ⟨cs, own_stays h1 hb, h2.keeps hb⟩
theorem OwnL.nil (w : World) (base : Nat) : OwnL w base (.slice none 0 0) [] := ⟨[], World.ownsRow_nil _ _ _ _, rfl⟩
theorem OwnL.base {w : World} {b b' : Nat} {v : Value} {l : List Opn} (h : OwnL w b v l) (hb : b' ≤ b) : OwnL w b' v l := by
  obtain ⟨cs, h1, h2⟩ := h
  exact ⟨cs, op_base h1 hb, h2.base hb⟩
/-- One more behind a list: what is appended, and to where. -/
theorem OwnL.snoc {W W8 w5 : World} {base m : Nat} {v v5 u : Value} {cs : List Value} {l : List Opn} {o : Opn} (h1 : W.ownsRow base 31 5 v l.length cs) (h2 : HoldP W base cs l) (hb : Below W.heap.size W W8)
    (hu : W8.ownsRow base 49 3 u o.pl.length (runs o.pl)) (g5 : W8.grownBy w5 v.ownBlock) (o5 : w5.ownsRow base 31 5 v5 m (cs ++ [.int .u8 (o.k : Int), .int .u32 (o.t : Int), .int .u8 (o.r : Int), u, .int .i64 o.p])) (hm : m = l.length + 1) : OwnL w5 base v5 (l ++ [o]) := by
  have hx := own_stays h1 hb
  refine ⟨_, by rw [List.length_append, List.length_singleton, ← hm]; exact o5, ?_⟩
  refine HoldP.append (HoldP.grown g5 hx (h2.keeps hb)) ?_
  exact HoldP.grown g5 hx ⟨u, [], rfl, hu, rfl⟩
theorem five_one (o : Opn) (u : Value) (hu : ∃ ao n cap, u = .slice ao n cap) : ∀ x ∈ [Value.int .u8 (o.k : Int), .int .u32 (o.t : Int), .int .u8 (o.r : Int), u, .int .i64 o.p], x.oneCell' = true := by
  obtain ⟨ao, n, cap, rfl⟩ := hu
  intro x hx
  simp only [List.mem_cons, List.not_mem_nil, or_false] at hx
  rcases hx with rfl | rfl | rfl | rfl | rfl <;> rfl
/-- What five cells hold, at a place of a block. -/
def FiveAt (w : World) (g o : Nat) (c0 c1 c2 c3 c4 : Value) : Prop := g < w.heap.size ∧ w.cell? ⟨g, o, none⟩ = some c0 ∧ w.cell? ⟨g, o + 1, none⟩ = some c1 ∧ w.cell? ⟨g, o + 2, none⟩ = some c2 ∧ w.cell? ⟨g, o + 3, none⟩ = some c3 ∧ w.cell? ⟨g, o + 4, none⟩ = some c4
theorem FiveAt.keeps {w w' : World} {g o : Nat} {c0 c1 c2 c3 c4 : Value} (p : FiveAt w g o c0 c1 c2 c3 c4) (hb : Below w.heap.size w w') : FiveAt w' g o c0 c1 c2 c3 c4 :=
  ⟨Nat.lt_of_lt_of_le p.1 hb.size, (hb.cell (p := ⟨g, o, none⟩) p.1).trans p.2.1, (hb.cell (p := ⟨g, o + 1, none⟩) p.1).trans p.2.2.1, (hb.cell (p := ⟨g, o + 2, none⟩) p.1).trans p.2.2.2.1, (hb.cell (p := ⟨g, o + 3, none⟩) p.1).trans p.2.2.2.2.1, (hb.cell (p := ⟨g, o + 4, none⟩) p.1).trans p.2.2.2.2.2⟩
end Go.Proofs.YtdackenaknieaaaGreat.Codes
