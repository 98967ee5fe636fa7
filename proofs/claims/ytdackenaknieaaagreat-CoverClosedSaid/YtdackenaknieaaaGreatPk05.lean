/- octavo/op and octavoref09: Content, Own, Same, Twin: what each answers. Conditions: the places' cells are runs. -/
import Derived.RowKit
import Derived.Test.YtdackenaknieaaaGreatPk04
import Derived.Test.YtdackenaknieaaaGreatPk03
import Derived.Test.YtdackenaknieaaaGreatPk01

namespace Go.Proofs.YtdackenaknieaaaGreat.Ops
open Go.RowKit Stamp Go.Proofs.YtdackenaknieaaaGreat.Place
attribute [local go_sem ↓] Go.wp_at_zero Go.wp_at_succ

theorem op_base {w : World} {b b' : Nat} {e : TypeId} {v : Value} {sz n : Nat} {cs : List Value} (h : w.ownsRow b e sz v n cs) (hb : b' ≤ b) : w.ownsRow b' e sz v n cs :=
  ⟨h.1, h.2.imp id fun ⟨g, cap, cur, h1, h2, h3⟩ => ⟨g, cap, cur, h1, by omega, h3⟩⟩
theorem op_set {w : World} {B H o n sz : Nat} {e : TypeId} {v d : Value} {cs : List Value} (h : w.ownsRow B e sz v n cs) (hH : H < B) : (w.setCell ⟨H, o, none⟩ d).ownsRow B e sz v n cs :=
  ownsRow_setCell_below h (a := ⟨H, o, none⟩) hH d
/-- Five cells of a block stored. -/
def put5 (X : World) (g : Nat) (d0 d1 d2 d3 d4 : Value) : World := ((((X.setCell ⟨g, 0, none⟩ d0).setCell ⟨g, 1, none⟩ d1).setCell ⟨g, 2, none⟩ d2).setCell ⟨g, 3, none⟩ d3).setCell ⟨g, 4, none⟩ d4
theorem put5_same {X : World} {g : Nat} {c0 c1 c2 c3 c4 : Value} (d0 d1 d2 d3 d4 : Value) {e : TypeId} (h : X.heap[g]? = some (.cells #[c0, c1, c2, c3, c4] e)) : (put5 X g d0 d1 d2 d3 d4).heap[g]? = some (.cells #[d0, d1, d2, d3, d4] e) := by
  have h0 := heap_setCell_same X g 0 _ _ d0 h
  have h1 := heap_setCell_same _ g 1 _ _ d1 h0
  have h2 := heap_setCell_same _ g 2 _ _ d2 h1
  have h3 := heap_setCell_same _ g 3 _ _ d3 h2
  have h4 := heap_setCell_same _ g 4 _ _ d4 h3
  exact h4
theorem put5_below {B g : Nat} {W X : World} (d0 d1 d2 d3 d4 : Value) (hg : B ≤ g) (h : Below B W X) : Below B W (put5 X g d0 d1 d2 d3 d4) :=
  ((((h.setCell (p := ⟨g, 0, none⟩) hg _).setCell (p := ⟨g, 1, none⟩) hg _).setCell (p := ⟨g, 2, none⟩) hg _).setCell (p := ⟨g, 3, none⟩) hg _).setCell (p := ⟨g, 4, none⟩) hg _
theorem put5_own {X : World} {B g sz n : Nat} {e : TypeId} {v : Value} {cs : List Value} (d0 d1 d2 d3 d4 : Value) (h : X.ownsRow B e sz v n cs) (hg : g < B) : (put5 X g d0 d1 d2 d3 d4).ownsRow B e sz v n cs :=
  op_set (op_set (op_set (op_set (op_set h hg) hg) hg) hg) hg
theorem cells5 {X : World} {g : Nat} {c0 c1 c2 c3 c4 : Value} {e : TypeId} (h : X.heap[g]? = some (.cells #[c0, c1, c2, c3, c4] e)) :
    X.cell? ⟨g, 0, none⟩ = some c0 ∧ X.cell? ⟨g, 1, none⟩ = some c1 ∧ X.cell? ⟨g, 2, none⟩ = some c2 ∧ X.cell? ⟨g, 3, none⟩ = some c3 ∧ X.cell? ⟨g, 4, none⟩ = some c4 :=
  ⟨cell_of_row _ g 0 _ e _ h, cell_of_row _ g 1 _ e _ h, cell_of_row _ g 2 _ e _ h, cell_of_row _ g 3 _ e _ h, cell_of_row _ g 4 _ e _ h⟩
theorem free5 {X : World} {g : Nat} {cs : Array Value} {e : TypeId} (h : X.heap[g]? = some (.cells cs e)) (o : Nat) : X.frozen? ⟨g, o, none⟩ = false := by simp [World.frozen?, h]

def contB (o : Opn) : Bool := decide (o.k = 1) || decide (o.k = 3)
/-- Are all fields the same? -/
def sameB (a b : Opn) : Bool := decide (a.k = b.k ∧ (a.t = b.t ∧ a.r = b.r) ∧ a.pl = b.pl ∧ a.p = b.p)
theorem sameB_iff (a b : Opn) : sameB a b = true ↔ a = b := by
  unfold sameB
  rw [decide_eq_true_iff]
  exact ⟨fun h => Opn.ext' h.1 h.2.1.1 h.2.1.2 h.2.2.1 h.2.2.2, fun h => by rw [h]; exact ⟨rfl, ⟨rfl, rfl⟩, rfl, rfl⟩⟩

theorem oContent_any {v : Value} {o : Opn} (w : World) :
    Calls Tryz.prog 64 #[opv o v] w fun e w' => e = .returned (.bool (contB o)) ∧ Below w.heap.size w w' := by
  obtain ⟨k, t, r, l, p, hk, ht, hr, hp⟩ := o
  unfold opv contB
  simp only
  have B0 : Hid (Below w.heap.size w (w.alloc (.cells #[.int .u8 (k : Int), .int .u32 (t : Int), .int .u8 (r : Int), v, .int .i64 p] 31))) := (Below.refl _ _).alloc (Nat.le_refl _) _
  by_cases h1 : k = 1
  · subst h1
    rw [show (decide (1 = 1) || decide (1 = 3)) = true from rfl]
    go_enter Tryz.func64, Tryz.ntmps64
    go_wp2
    go_ret
    exact ⟨rfl, B0.out⟩
  · have q1 : ((k : Int) == 1) = false := by simp; omega
    by_cases h3 : k = 3
    · subst h3
      rw [show (decide (3 = 1) || decide (3 = 3)) = true from rfl]
      go_enter Tryz.func64, Tryz.ntmps64
      go_wp2
      go_ret
      exact ⟨rfl, B0.out⟩
    · have q3 : ((k : Int) == 3) = false := by simp; omega
      rw [decide_eq_false h1, decide_eq_false h3, Bool.or_false]
      go_enter Tryz.func64, Tryz.ntmps64
      go_wp2
      go_ret
      exact ⟨rfl, B0.out⟩

/-- Is its place its own? -/
def ownB (o : Opn) : Bool := decide (o.k = 1) || decide (o.k = 2)

set_option maxHeartbeats 4000000 in
theorem refSame_any {u v : Value} {a b : Opn} {w : World} (hu : Runs w u a.pl) (hv : Runs w v b.pl) :
    Calls Tryz.prog 45 #[opv a u, opv b v] w fun e w' => e = .returned (.bool (sameB a b)) ∧ Below w.heap.size w w' := by
  obtain ⟨k, t, r, l, p, hk, ht, hr, hp⟩ := a
  obtain ⟨k', t', r', l', p', hk', ht', hr', hp'⟩ := b
  unfold opv sameB
  simp only at hu hv ⊢
  have B0 : Hid (Below w.heap.size w ((w.alloc (.cells #[.int .u8 (k : Int), .int .u32 (t : Int), .int .u8 (r : Int), u, .int .i64 p] 31)).alloc (.cells #[.int .u8 (k' : Int), .int .u32 (t' : Int), .int .u8 (r' : Int), v, .int .i64 p'] 31))) := ((Below.refl _ _).alloc (Nat.le_refl _) _).alloc (by simp) _
  by_cases h1 : k = k'
  · subst h1
    by_cases h2 : t = t'
    · subst h2
      by_cases h3 : r = r'
      · subst h3
        have C : Hid (∀ W : World, Below w.heap.size w W → Calls Tryz.prog 81 #[u, v] W fun e w' => e = .returned (.bool (decide (l = l'))) ∧ Below W.heap.size W w') := fun W hW => Place.refSame_any (hu.keeps hW) (hv.keeps hW)
        have KK : Hid (∀ W : World, Below ((w.alloc (.cells #[.int .u8 (k : Int), .int .u32 (t : Int), .int .u8 (r : Int), u, .int .i64 p] 31)).alloc (.cells #[.int .u8 (k : Int), .int .u32 (t : Int), .int .u8 (r : Int), v, .int .i64 p'] 31)).heap.size ((w.alloc (.cells #[.int .u8 (k : Int), .int .u32 (t : Int), .int .u8 (r : Int), u, .int .i64 p] 31)).alloc (.cells #[.int .u8 (k : Int), .int .u32 (t : Int), .int .u8 (r : Int), v, .int .i64 p'] 31)) W →
            W.cell? ⟨w.heap.size, 4, none⟩ = some (.int .i64 p) ∧ W.cell? ⟨w.heap.size + 1, 4, none⟩ = some (.int .i64 p')) := fun W hW => by
          have a1 := five_cells (w := w) (((Below.refl _ _).alloc (Nat.le_refl _) _).trans (hW.mono (by simp)))
          have a2 := five_cells (w := w.alloc _) hW
          exact ⟨a1.2.2.2.2, by simpa using a2.2.2.2.2⟩
        by_cases h4 : l = l'
        · subst h4
          rw [decide_eq_true rfl] at C
          obtain ⟨q, hq⟩ : ∃ q, decide (p = p') = q := ⟨_, rfl⟩
          rw [show decide (k = k ∧ (t = t ∧ r = r) ∧ l = l ∧ p = p') = q by rw [← hq]; simp]
          have q5 : (p == p') = q := by rw [← hq]; simp [BEq.beq]
          clear hu hv hq
          go_enter Tryz.func45, Tryz.ntmps45
          go_wp2_with fail
          refine (C.out _ B0.out).mono ?_
          rintro e w1 ⟨rfl, b1⟩
          obtain ⟨c1, c2⟩ := KK.out _ b1
          have B1 := Lib.hid (bt B0.out b1)
          clear b1
          go_wp2
          go_ret
          exact ⟨rfl, B1.out⟩
        · rw [decide_eq_false h4] at C
          rw [decide_eq_false (fun h => h4 h.2.2.1)]
          clear hu hv h4
          go_enter Tryz.func45, Tryz.ntmps45
          go_wp2_with fail
          refine (C.out _ B0.out).mono ?_
          rintro e w1 ⟨rfl, b1⟩
          have B1 := Lib.hid (bt B0.out b1)
          clear b1
          go_wp2
          go_ret
          exact ⟨rfl, B1.out⟩
      · rw [decide_eq_false (fun h => h3 h.2.1.2)]
        have q3 : ((r : Int) == (r' : Int)) = false := by simp; omega
        have q4 : decide (r = r') = false := decide_eq_false h3
        clear hu hv
        go_enter Tryz.func45, Tryz.ntmps45
        go_wp2
        go_ret
        exact ⟨rfl, B0.out⟩
    · rw [decide_eq_false (fun h => h2 h.2.1.1)]
      have q3 : ((t : Int) == (t' : Int)) = false := by simp; omega
      have q4 : decide (t = t') = false := decide_eq_false h2
      clear hu hv
      go_enter Tryz.func45, Tryz.ntmps45
      go_wp2
      go_ret
      exact ⟨rfl, B0.out⟩
  · rw [decide_eq_false (fun h => h1 h.1)]
    have q3 : ((k : Int) == (k' : Int)) = false := by simp; omega
    have q4 : decide (k = k') = false := decide_eq_false h1
    clear hu hv
    go_enter Tryz.func45, Tryz.ntmps45
    go_wp2
    go_ret
    exact ⟨rfl, B0.out⟩

set_option maxHeartbeats 4000000 in
theorem oTwin_any {v : Value} {o : Opn} {w : World} (hv : Runs w v o.pl) (hl : o.pl.length ≤ 8796093022208) :
    Calls Tryz.prog 57 #[opv o v] w fun e w' => ∃ v', e = .returned (opv o v') ∧ w'.ownsRow w.heap.size 49 3 v' o.pl.length (runs o.pl) ∧ Below w.heap.size w w' := by
  obtain ⟨k, t, r, l, p, hk, ht, hr, hp⟩ := o
  unfold opv
  simp only at hv hl ⊢
  have C : Hid (∀ W : World, Below w.heap.size w W → Calls Tryz.prog 65 #[v] W fun e w' => ∃ v', e = .returned v' ∧ w'.ownsRow W.heap.size 49 3 v' l.length (runs l) ∧ Below W.heap.size W w') := fun W hW => ptwin_any (hv.keeps hW) hl
  have KK : Hid (∀ W : World, Below ((w.alloc (.cells #[.int .u8 (k : Int), .int .u32 (t : Int), .int .u8 (r : Int), v, .int .i64 p] 31)).alloc (.cells #[.int .u8 0, .int .u32 0, .int .u8 0, .slice none 0 0, .int .i64 0] 31)).heap.size ((w.alloc (.cells #[.int .u8 (k : Int), .int .u32 (t : Int), .int .u8 (r : Int), v, .int .i64 p] 31)).alloc (.cells #[.int .u8 0, .int .u32 0, .int .u8 0, .slice none 0 0, .int .i64 0] 31)) W →
      W.heap[w.heap.size]? = some (.cells #[.int .u8 (k : Int), .int .u32 (t : Int), .int .u8 (r : Int), v, .int .i64 p] 31) ∧ W.heap[w.heap.size + 1]? = some (.cells #[.int .u8 0, .int .u32 0, .int .u8 0, .slice none 0 0, .int .i64 0] 31)) := fun W hW =>
    ⟨blk_below hW (blk_old (blk_new rfl)), blk_below hW (blk_new (by simp))⟩
  have B0 : Hid (Below w.heap.size w ((w.alloc (.cells #[.int .u8 (k : Int), .int .u32 (t : Int), .int .u8 (r : Int), v, .int .i64 p] 31)).alloc (.cells #[.int .u8 0, .int .u32 0, .int .u8 0, .slice none 0 0, .int .i64 0] 31))) := ((Below.refl _ _).alloc (Nat.le_refl _) _).alloc (by simp) _
  clear hv hl
  go_enter Tryz.func57, Tryz.ntmps57
  go_wp2_with fail
  refine (C.out _ B0.out).mono ?_
  rintro e w1 ⟨v1, rfl, o1, b1⟩
  obtain ⟨ao, cap, rfl⟩ : ∃ ao cap, v1 = .slice ao l.length cap := Sees.shape (Sees.own o1)
  obtain ⟨k1, k2⟩ := KK.out _ b1
  have B1 := Lib.hid (bt B0.out b1)
  have O1 : Hid (w1.ownsRow (w.heap.size + 2) 49 3 (.slice ao l.length cap) l.length (runs l)) := op_base o1 (by simp)
  have k3 := heap_setCell_same w1 w.heap.size 3 _ _ (.slice ao l.length cap) k1
  have k4 : (w1.setCell ⟨w.heap.size, 3, none⟩ (.slice ao l.length cap)).heap[w.heap.size + 1]? = some (.cells #[.int .u8 0, .int .u32 0, .int .u8 0, .slice none 0 0, .int .i64 0] 31) := by
    rw [heap_setCell_other _ _ _ _ (by simp)]
    exact k2
  have f1 := free5 k1 3
  have HK := Lib.hid k3
  have HK4 := Lib.hid k4
  obtain ⟨c0, c1, c2, c3, c4⟩ := cells5 k1
  obtain ⟨d0, d1, d2, d3, d4⟩ := cells5 k2
  have OS : Hid ((w1.setCell ⟨w.heap.size, 3, none⟩ (.slice ao l.length cap)).ownsRow (w.heap.size + 2) 49 3 (.slice ao l.length cap) l.length (runs l)) := op_set O1.out (by omega)
  have BS : Hid (Below w.heap.size w (w1.setCell ⟨w.heap.size, 3, none⟩ (.slice ao l.length cap))) := B1.out.setCell (p := ⟨w.heap.size, 3, none⟩) (Nat.le_refl _) _
  have f2 : ∀ o, w1.frozen? ⟨w.heap.size + 1, o, none⟩ = false := fun o => free5 k2 o
  clear o1 b1 k1 k2 k3 k4
  go_wp2_with fail
  obtain ⟨W, hW⟩ : ∃ W, W = put5 (w1.setCell ⟨w.heap.size, 3, none⟩ (.slice ao l.length cap)) (w.heap.size + 1) (.int .u8 (k : Int)) (.int .u32 (t : Int)) (.int .u8 (r : Int)) (.slice ao l.length cap) (.int .i64 p) := ⟨_, rfl⟩
  have OW := put5_own (.int .u8 (k : Int)) (.int .u32 (t : Int)) (.int .u8 (r : Int)) (.slice ao l.length cap) (.int .i64 p) OS.out (show w.heap.size + 1 < w.heap.size + 2 by omega)
  have BW := put5_below (.int .u8 (k : Int)) (.int .u32 (t : Int)) (.int .u8 (r : Int)) (.slice ao l.length cap) (.int .i64 p) (show w.heap.size ≤ w.heap.size + 1 by omega) BS.out
  obtain ⟨e0, e1, e2, e3, e4⟩ := cells5 (put5_same (.int .u8 (k : Int)) (.int .u32 (t : Int)) (.int .u8 (r : Int)) (.slice ao l.length cap) (.int .i64 p) HK4.out)
  rw [← hW] at OW BW e0 e1 e2 e3 e4
  unfold put5 at hW
  rw [← hW]
  exact bodyPost_ret (v := .agg #[.int .u8 (k : Int), .int .u32 (t : Int), .int .u8 (r : Int), .slice ao l.length cap, .int .i64 p]) (by simp [results, Tryz.results57, go_sem, e0, e1, e2, e3, e4]) rfl ⟨_, rfl, op_base OW (by omega), BW⟩

end Go.Proofs.YtdackenaknieaaaGreat.Ops

/- What Under answers, as lists: its runs are each short. Conditions: none. -/
namespace Go.Proofs.YtdackenaknieaaaGreat.Place
open Go.RowKit Stamp
attribute [local go_sem ↓] Go.wp_at_zero Go.wp_at_succ

end Go.Proofs.YtdackenaknieaaaGreat.Place

/- Places: a stamp put behind, beginnings, rising stamps, a child's place in the order. Conditions: none. -/
namespace Go.Proofs.YtdackenaknieaaaGreat.Place
open Go.RowKit Stamp

/-- A place that is not the beginning, as its last run behind the others. -/
theorem split_last {l : List Run} (h : 0 < l.length) : l = l.take (l.length - 1) ++ [l.getD (l.length - 1) zrun] := by
  have h2 : l.take (l.length - 1 + 1) = l := List.take_of_length_le (by omega)
  rw [List.take_succ_eq_append_getElem (by omega)] at h2
  rw [show l.getD (l.length - 1) zrun = l[l.length - 1] by simp [List.getD, List.getElem?_eq_getElem (show l.length - 1 < l.length by omega)]]
  exact h2.symm
theorem up_last (t r : Nat) : ∀ n, 1 ≤ n → (up t r n).getLast? = some (mk (t + n - 1) r) := by
  intro n hn
  obtain ⟨k, rfl⟩ : ∃ k, n = k + 1 := ⟨n - 1, by omega⟩
  rw [up_snoc, List.getLast?_append]
  simp
/-- The last run's last stamp is the last of all. -/
theorem last_all {l : List Run} (hc : Chain l) (h : 0 < l.length) : (all l).getLast? = some (mk ((l.getD (l.length - 1) zrun).t + (l.getD (l.length - 1) zrun).m.toNat - 1) (l.getD (l.length - 1) zrun).r) := by
  have hs := split_last h
  have ho := chain_one hc (k := l.length - 1) (by omega)
  obtain ⟨x, hx⟩ : ∃ x, x = l.getD (l.length - 1) zrun := ⟨_, rfl⟩
  rw [← hx] at hs ho ⊢
  obtain ⟨n, hn, n1, n2, n3, n4⟩ := ho.nat
  rw [hs, all_append, List.getLast?_append]
  have : all [x] = up x.t x.r n := by simp [all, n3]
  rw [this, up_last _ _ _ n1, n3]
  simp
end Go.Proofs.YtdackenaknieaaaGreat.Place

/- octavo/op.Needs, octavoref09: May, Check, Many, Stands, Needs: what each answers. Conditions: the places' cells are runs. -/
namespace Go.Proofs.YtdackenaknieaaaGreat.Ops
open Go.RowKit Stamp Go.Proofs.YtdackenaknieaaaGreat.Place
attribute [local go_sem ↓] Go.wp_at_zero Go.wp_at_succ

theorem ids_take' : ∀ (l : List Id) (m : Nat), ids (l.take m) = (ids l).take (m * 2)
  | [], m => by simp [ids, List.take_nil]
  | a :: l, 0 => by simp [ids]
  | a :: l, m + 1 => by
    rw [show (m + 1) * 2 = m * 2 + 1 + 1 by omega]
    simp [ids, ids_take' l m]
theorem idsTake {w : World} {ao : Option Addr} {n cap : Nat} {l : List Id} (h : Ids w (.slice ao n cap) l) {m : Nat} (hm : m ≤ l.length) : Ids w (.slice ao m cap) (l.take m) := by
  obtain ⟨h1, ao', cap', he, h2, h3, h4, h5⟩ := h
  obtain ⟨rfl, rfl, rfl⟩ := Value.slice.inj he
  have hl : (l.take m).length = m := by rw [List.length_take]; omega
  refine ⟨by rw [ids_len], ao, cap, by rw [hl], by omega, h3, h4, ?_⟩
  rcases h5 with h5 | ⟨b, off, rfl, hb, hc⟩
  · left; rw [ids_take', h5]; simp
  · right
    refine ⟨b, off, rfl, hb, fun j u hj => hc j u ?_⟩
    rw [ids_take', List.getElem?_take] at hj
    split at hj
    · exact hj
    · cases hj

/-- How many of the stamps of its place it doesn't stand on. -/
def offs (o : Opn) : Nat := if ownB o = true then 1 else 0
/-- What it stands on. -/
def standsL (o : Opn) : List Id := (all o.pl).take ((all o.pl).length - offs o)
def needsL (o : Opn) : List Id := if mayO o = true then standsL o else []
theorem all_pos {l : List Run} (h : mayB l = true) : 1 ≤ (all l).length ∧ (all l).length ≤ 4096 ∧ ((all l).length : Int) = long l := by
  have hM := (mayB_iff l).1 h
  have h1 := long_len hM.2.2.1
  have h2 := hM.2.2.2
  refine ⟨?_, by omega, h1⟩
  rcases Nat.lt_or_ge 0 (all l).length with h3 | h3
  · exact h3
  · exfalso
    have h4 : all l = [] := List.length_eq_zero_iff.1 (by omega)
    have h5 := (all_nil hM.2.2.1).1 h4
    have := hM.1
    rw [h5] at this
    simp at this
theorem mayO_parts {o : Opn} (h : mayO o = true) : may o.t o.r = true ∧ mayB o.pl = true ∧ kindB o = true := by
  unfold mayO at h
  simp only [Bool.and_eq_true] at h
  exact ⟨h.1, h.2.1, h.2.2⟩
/-- A slice of stamps, and a code. -/
def Told (L : List Id) (c : Int) (w : World) (e : Ending) (w' : World) : Prop := ∃ ao cap, e = .returned (.tuple #[.slice ao L.length cap, .int .i64 c]) ∧ Ids w' (.slice ao L.length cap) L ∧ Below w.heap.size w w'

theorem told_of {S L : List Id} {ao : Option Addr} {n m cap : Nat} {c : Int} {w w2 : World} (hS : S = L.take m) (hm : m ≤ L.length) (I : Ids w2 (.slice ao n cap) L) (B : Below w.heap.size w w2) :
    Told S c w (.returned (.tuple #[.slice ao m cap, .int .i64 c])) w2 := by
  have hl : S.length = m := by rw [hS, List.length_take]; omega
  refine ⟨ao, cap, by rw [hl], ?_, B⟩
  rw [hl, hS]
  exact idsTake I hm

set_option maxHeartbeats 4000000 in
theorem oNeeds_any {v : Value} {o : Opn} {w : World} (hv : Runs w v o.pl) :
    Calls Tryz.prog 25 #[opv o v] w (Told (needsL o) (chkO o) w) := by
  have C : Hid (∀ W : World, Below w.heap.size w W → Calls Tryz.prog 47 #[opv o v] W fun e w' => e = .returned (.int .i64 (chkO o)) ∧ Below W.heap.size W w') := fun W hW => oCheck_any (hv.keeps hW)
  cases hm : mayO o
  · have h1 : chkO o = 8 := by unfold chkO; rw [hm]; rfl
    have h2 : needsL o = [] := by unfold needsL; rw [hm]; rfl
    rw [h1] at C ⊢
    rw [h2]
    obtain ⟨k, t, r, l, p, hk, ht, hr, hp⟩ := o
    unfold opv at C ⊢
    simp only at hv C ⊢
    have B0 : Hid (Below w.heap.size w (w.alloc (.cells #[.int .u8 (k : Int), .int .u32 (t : Int), .int .u8 (r : Int), v, .int .i64 p] 31))) := (Below.refl _ _).alloc (Nat.le_refl _) _
    clear hv hm h1 h2
    go_enter Tryz.func25, Tryz.ntmps25
    go_wp2_with fail
    refine (C.out _ B0.out).mono ?_
    rintro e w1 ⟨rfl, b1⟩
    have B1 := Lib.hid (bt B0.out b1)
    clear b1
    go_wp2
    go_ret2
    exact ⟨none, 0, rfl, Ids.nil _, B1.out⟩
  · have h1 : chkO o = 0 := by unfold chkO; rw [if_pos hm]
    have h2 : needsL o = standsL o := by unfold needsL; rw [if_pos hm]
    rw [h1] at C ⊢
    rw [h2]
    have hp := mayO_parts hm
    have hpos := all_pos hp.2.1
    have P : Hid (∀ W : World, Below w.heap.size w W → Calls Tryz.prog 48 #[v] W fun e w' => ∃ ao cap, e = .returned (.tuple #[.slice ao (all o.pl).length cap, .int .i64 0]) ∧ Ids w' (.slice ao (all o.pl).length cap) (all o.pl) ∧ Below W.heap.size W w') := fun W hW => by
      have h := pIds_any (hv.keeps hW)
      rw [show idsOf o.pl = all o.pl by unfold idsOf; rw [if_pos hp.2.1], show idsE o.pl = 0 by unfold idsE; rw [if_pos hp.2.1]] at h
      exact h
    have hown : (ownB o = true ∧ (o.k = 1 ∨ o.k = 2)) ∨ (ownB o = false ∧ ((o.k : Int) == 1) = false ∧ ((o.k : Int) == 2) = false) := by
      unfold ownB
      by_cases a : o.k = 1
      · left; exact ⟨by rw [decide_eq_true a]; rfl, .inl a⟩
      · by_cases b : o.k = 2
        · left; exact ⟨by rw [decide_eq_true b, Bool.or_true], .inr b⟩
        · right; exact ⟨by rw [decide_eq_false a, decide_eq_false b]; rfl, by simp; omega, by simp; omega⟩
    have hst : standsL o = (all o.pl).take ((all o.pl).length - offs o) := rfl
    unfold offs at hst
    obtain ⟨S, hS⟩ : ∃ S, S = standsL o := ⟨_, rfl⟩
    rw [← hS] at hst ⊢
    obtain ⟨L, hL⟩ : ∃ L, L = all o.pl := ⟨_, rfl⟩
    rw [← hL] at P hpos hst
    obtain ⟨k, t, r, l, p, hk, ht, hr, hp'⟩ := o
    unfold opv at C
    simp only at hv C P hown ⊢
    obtain ⟨n, hn⟩ : ∃ n, n = L.length := ⟨_, rfl⟩
    obtain ⟨hp1, hp2, -⟩ := hpos
    rw [← hn] at P hp1 hp2 hst
    have B0 : Hid (Below w.heap.size w (w.alloc (.cells #[.int .u8 (k : Int), .int .u32 (t : Int), .int .u8 (r : Int), v, .int .i64 p] 31))) := (Below.refl _ _).alloc (Nat.le_refl _) _
    have HN := Lib.hid hn
    have HST := Lib.hid hst
    have e1 : IntKind.i64.wrap ((n : Int) - 1) = (n : Int) - 1 := IntWalk.i64_in _ (by omega)
    have e2 : ((n : Int) - 1).toNat = n - 1 := by omega
    clear hv hm h1 h2 hp hst hS hL hn
    unfold opv
    simp only
    rcases hown with ⟨hw, rfl | rfl⟩ | ⟨hw, q1, q2⟩
    all_goals
      have HW := Lib.hid hw
      clear hw
      go_enter Tryz.func25, Tryz.ntmps25
      go_wp2_with fail
      refine (C.out _ B0.out).mono ?_
      rintro e w1 ⟨rfl, b1⟩
      obtain ⟨c0, c1, c2, c3, c4⟩ := five_cells b1
      have B1 := Lib.hid (bt B0.out b1)
      have C1 := Lib.hid b1
      clear b1
      go_wp2_with fail
      refine (P.out _ B1.out).mono ?_
      rintro e w2 ⟨ao, cap, rfl, i2, b2⟩
      have B2 := Lib.hid (bt B1.out b2)
      have C2 := Lib.hid (bt C1.out b2)
      have I2 := Lib.hid i2
      have hcap := i2.cap
      clear b2 c0 c1 c2 c3 c4 i2
      obtain ⟨c0, c1, c2, c3, c4⟩ := five_cells C2.out
      have k1 : n ≤ cap := by have := hcap.2.1; have := HN.out; omega
      clear hcap
      go_wp2
      go_ret2
      first
      | exact told_of (by rw [HST.out, if_pos HW.out]) (by have := HN.out; omega) I2.out B2.out
      | exact told_of (by rw [HST.out, if_neg (by rw [HW.out]; simp)]; rfl) (by have := HN.out; omega) I2.out B2.out

end Go.Proofs.YtdackenaknieaaaGreat.Ops

/- Slices of elements of any kind, whose cells may hold slices themselves: what such a slice value holds. Conditions: none. -/
namespace Go.Proofs.YtdackenaknieaaaGreat
open Go.RowKit Go.WideShapes

/-- How elements of a kind lie in cells: how many cells, and what they hold in a world. -/
structure Enc (α : Type) where
  sz : Nat
  pos : 0 < sz
  inn : World → List Value → α → Prop
  len : ∀ {w : World} {cs : List Value} {a : α}, inn w cs a → cs.length = sz
  one : ∀ {w : World} {cs : List Value} {a : α}, inn w cs a → ∀ u ∈ cs, u.oneCell' = true
  keep : ∀ {w w' : World} {cs : List Value} {a : α}, Below w.heap.size w w' → inn w cs a → inn w' cs a

/-- Elements one behind the other. -/
def Enc.rows {α : Type} (E : Enc α) (w : World) : List Value → List α → Prop
  | cs, [] => cs = []
  | cs, a :: l => ∃ c d, cs = c ++ d ∧ E.inn w c a ∧ E.rows w d l
theorem Enc.rows_len {α : Type} {E : Enc α} {w : World} : ∀ {cs : List Value} {l : List α}, E.rows w cs l → cs.length = l.length * E.sz
  | cs, [], h => by rw [show cs = [] from h]; simp
  | cs, a :: l, ⟨c, d, h1, h2, h3⟩ => by
    rw [h1, List.length_append, E.len h2, Enc.rows_len h3, List.length_cons, Nat.succ_mul]
    omega
theorem Enc.rows_one {α : Type} {E : Enc α} {w : World} : ∀ {cs : List Value} {l : List α}, E.rows w cs l → ∀ u ∈ cs, u.oneCell' = true
  | cs, [], h, u, hu => by rw [show cs = [] from h] at hu; simp at hu
  | cs, a :: l, ⟨c, d, h1, h2, h3⟩, u, hu => by
    rw [h1, List.mem_append] at hu
    rcases hu with hu | hu
    · exact E.one h2 u hu
    · exact Enc.rows_one h3 u hu
theorem Enc.rows_keep {α : Type} {E : Enc α} {w w' : World} (hb : Below w.heap.size w w') : ∀ {cs : List Value} {l : List α}, E.rows w cs l → E.rows w' cs l
  | _, [], h => h
  | _, _ :: _, ⟨c, d, h1, h2, h3⟩ => ⟨c, d, h1, E.keep hb h2, Enc.rows_keep hb h3⟩
theorem Enc.rows_append {α : Type} {E : Enc α} {w : World} : ∀ {cs ds : List Value} {l m : List α}, E.rows w cs l → E.rows w ds m → E.rows w (cs ++ ds) (l ++ m)
  | cs, ds, [], m, h, k => by rw [show cs = [] from h]; exact k
  | cs, ds, a :: l, m, ⟨c, d, h1, h2, h3⟩, k => ⟨c, d ++ ds, by rw [h1, List.append_assoc], h2, Enc.rows_append h3 k⟩
theorem Enc.rows_snoc {α : Type} {E : Enc α} {w : World} {cs c : List Value} {l : List α} {a : α} (h : E.rows w cs l) (k : E.inn w c a) : E.rows w (cs ++ c) (l ++ [a]) :=
  Enc.rows_append h ⟨c, [], by simp, k, rfl⟩
/-- The cells of one of them. -/
theorem Enc.rows_at {α : Type} {E : Enc α} {w : World} : ∀ {cs : List Value} {l : List α} (k : Nat) (hk : k < l.length), E.rows w cs l → ∃ c, E.inn w c (l[k]'hk) ∧ ∀ j, j < E.sz → cs[k * E.sz + j]? = c[j]?
  | cs, a :: l, 0, _, ⟨c, d, h1, h2, h3⟩ => ⟨c, h2, fun j hj => by rw [h1, Nat.zero_mul, Nat.zero_add, List.getElem?_append_left (by rw [E.len h2]; exact hj)]⟩
  | cs, a :: l, k + 1, hk, ⟨c, d, h1, h2, h3⟩ => by
    obtain ⟨e, h4, h5⟩ := Enc.rows_at k (by simpa using hk) h3
    refine ⟨e, by simpa using h4, fun j hj => ?_⟩
    rw [h1, List.getElem?_append_right (by rw [E.len h2, Nat.succ_mul]; omega), E.len h2, show (k + 1) * E.sz + j - E.sz = k * E.sz + j by rw [Nat.succ_mul]; omega]
    exact h5 j hj
theorem Enc.rows_take {α : Type} {E : Enc α} {w : World} : ∀ {cs : List Value} {l : List α} (k : Nat), E.rows w cs l → E.rows w (cs.take (k * E.sz)) (l.take k)
  | cs, [], k, h => by rw [show cs = [] from h]; simp [Enc.rows]
  | cs, a :: l, 0, _ => by simp [Enc.rows]
  | cs, a :: l, k + 1, ⟨c, d, h1, h2, h3⟩ => by
    refine ⟨c, d.take (k * E.sz), ?_, h2, Enc.rows_take k h3⟩
    rw [h1, List.take_append, E.len h2, List.take_of_length_le (by rw [E.len h2, Nat.succ_mul]; omega), show (k + 1) * E.sz - E.sz = k * E.sz by rw [Nat.succ_mul]; omega]
/-- A slice of them. -/
def Seq {α : Type} (E : Enc α) (w : World) (v : Value) (l : List α) : Prop := ∃ cs, Sees w v E.sz l.length cs ∧ E.rows w cs l
theorem Seq.keeps {α : Type} {E : Enc α} {w w' : World} {v : Value} {l : List α} (h : Seq E w v l) (hb : Below w.heap.size w w') : Seq E w' v l := by
  obtain ⟨cs, h1, h2⟩ := h
  exact ⟨cs, h1.keeps hb, Enc.rows_keep hb h2⟩
theorem Seq.nil {α : Type} (E : Enc α) (w : World) : Seq E w (.slice none 0 0) [] := ⟨[], Sees.nil w E.sz, rfl⟩
theorem Seq.shape {α : Type} {E : Enc α} {w : World} {v : Value} {l : List α} (h : Seq E w v l) : ∃ ao cap, v = .slice ao l.length cap := by
  obtain ⟨cs, h1, _⟩ := h; exact h1.shape
theorem Seq.max {α : Type} {E : Enc α} {w : World} {v : Value} {l : List α} (h : Seq E w v l) : l.length ≤ 9223372036854775807 := by
  obtain ⟨cs, h1, _⟩ := h; exact Sees.max h1
theorem Seq.cap {α : Type} {E : Enc α} {w : World} {ao : Option Addr} {m cap : Nat} {l : List α} (h : Seq E w (.slice ao m cap) l) : m = l.length ∧ l.length ≤ cap ∧ cap ≤ 9223372036854775807 ∧ (ao = none → cap = 0) := by
  obtain ⟨cs, h1, _⟩ := h; exact h1.cap
/-- The cells of one of them, in memory. -/
theorem Seq.at {α : Type} {E : Enc α} {w : World} {ao : Option Addr} {m cap : Nat} {l : List α} (h : Seq E w (.slice ao m cap) l) (k : Nat) (hk : k < l.length) :
    ∃ b off c, ao = some ⟨b, off, none⟩ ∧ b < w.heap.size ∧ E.inn w c (l[k]'hk) ∧ ∀ j, j < E.sz → w.cell? ⟨b, off + k * E.sz + j, none⟩ = c[j]? := by
  obtain ⟨cs, h1, h2⟩ := h
  obtain ⟨c, h3, h4⟩ := Enc.rows_at k hk h2
  have hl := Enc.rows_len h2
  have hp := E.pos
  have hkl : k * E.sz + E.sz ≤ l.length * E.sz := by rw [← Nat.succ_mul]; exact Nat.mul_le_mul_right _ hk
  obtain ⟨b, off, e1, e2, e3⟩ := Sees.at h1 (k * E.sz) (by omega)
  refine ⟨b, off, c, e1, e2, h3, fun j hj => ?_⟩
  rw [show off + k * E.sz + j = off + (k * E.sz + j) by omega, e3 _ (by omega)]
  exact h4 j hj
theorem Seq.take {α : Type} {E : Enc α} {w : World} {ao : Option Addr} {n cap : Nat} {l : List α} (h : Seq E w (.slice ao n cap) l) {m : Nat} (hm : m ≤ l.length) : Seq E w (.slice ao m cap) (l.take m) := by
  obtain ⟨cs, ⟨h1, ao', cap', he, h2, h3, h4, h5⟩, h6⟩ := h
  obtain ⟨rfl, rfl, rfl⟩ := Value.slice.inj he
  have hl : (l.take m).length = m := by rw [List.length_take]; omega
  refine ⟨cs.take (m * E.sz), ⟨?_, ao, cap, by rw [hl], by omega, h3, h4, ?_⟩, Enc.rows_take m h6⟩
  · rw [List.length_take, h1, hl]
    exact Nat.min_eq_left (Nat.mul_le_mul_right _ hm)
  · rcases h5 with h5 | ⟨b, off, rfl, hb, hc⟩
    · left; rw [h5]; simp
    · right
      refine ⟨b, off, rfl, hb, fun j u hj => hc j u ?_⟩
      rw [List.getElem?_take] at hj
      split at hj
      · exact hj
      · cases hj
/-- A row of the call's own. -/
theorem Seq.own {α : Type} {E : Enc α} {w : World} {base : Nat} {e : TypeId} {v : Value} {n : Nat} {cs : List Value} {l : List α} (h : w.ownsRow base e E.sz v n cs) (hr : E.rows w cs l) : Seq E w v l := by
  have h1 := h.1
  rw [Enc.rows_len hr] at h1
  obtain rfl : l.length = n := Nat.eq_of_mul_eq_mul_right E.pos h1
  exact ⟨cs, Sees.own h, hr⟩
/-- A slice of elements as an element itself. -/
def Enc.slice {α : Type} (E : Enc α) : Enc (List α) where
  sz := 1
  pos := by decide
  inn w cs l := ∃ v, cs = [v] ∧ Seq E w v l
  len := by rintro w cs l ⟨v, rfl, _⟩; rfl
  one := by
    rintro w cs l ⟨v, rfl, h⟩ u hu
    obtain ⟨ao, cap, rfl⟩ := h.shape
    simp only [List.mem_singleton] at hu
    subst hu
    rfl
  keep := by rintro w w' cs l hb ⟨v, rfl, h⟩; exact ⟨v, rfl, h.keeps hb⟩
end Go.Proofs.YtdackenaknieaaaGreat

/- Operations as elements of slices. Conditions: none. -/
namespace Go.Proofs.YtdackenaknieaaaGreat.Ops
open Go.RowKit Go.WideShapes

def opE : Enc Opn where
  sz := 5
  pos := by decide
  inn w cs o := ∃ v, cs = [.int .u8 (o.k : Int), .int .u32 (o.t : Int), .int .u8 (o.r : Int), v, .int .i64 o.p] ∧ Runs w v o.pl
  len := by rintro w cs o ⟨v, rfl, _⟩; rfl
  one := by
    rintro w cs o ⟨v, rfl, h⟩ u hu
    obtain ⟨ao, cap, rfl⟩ := h.shape
    simp only [List.mem_cons, List.not_mem_nil, or_false] at hu
    rcases hu with rfl | rfl | rfl | rfl | rfl <;> rfl
  keep := by rintro w w' cs o hb ⟨v, rfl, h⟩; exact ⟨v, rfl, h.keeps hb⟩
/-- A slice of operations. -/
abbrev OpL (w : World) (v : Value) (l : List Opn) : Prop := Seq opE w v l
/-- One of them, in memory. -/
theorem opl_at {w : World} {ao : Option Addr} {m cap : Nat} {l : List Opn} (h : OpL w (.slice ao m cap) l) (k : Nat) (hk : k < l.length) :
    ∃ b off v, ao = some ⟨b, off, none⟩ ∧ b < w.heap.size ∧ Runs w v (l[k]'hk).pl ∧ w.cell? ⟨b, off + k * 5, none⟩ = some (.int .u8 ((l[k]'hk).k : Int)) ∧ w.cell? ⟨b, off + k * 5 + 1, none⟩ = some (.int .u32 ((l[k]'hk).t : Int)) ∧ w.cell? ⟨b, off + k * 5 + 2, none⟩ = some (.int .u8 ((l[k]'hk).r : Int)) ∧
      w.cell? ⟨b, off + k * 5 + 3, none⟩ = some v ∧ w.cell? ⟨b, off + k * 5 + 4, none⟩ = some (.int .i64 (l[k]'hk).p) := by
  obtain ⟨b, off, c, h1, h2, ⟨v, rfl, h3⟩, h4⟩ := h.at k hk
  exact ⟨b, off, v, h1, h2, h3, h4 0 (by decide), h4 1 (by decide), h4 2 (by decide), h4 3 (by decide), h4 4 (by decide)⟩
end Go.Proofs.YtdackenaknieaaaGreat.Ops

/- Lists of operations: what a slice value holds, places of the call's own. Conditions: none. -/
namespace Go.Proofs.YtdackenaknieaaaGreat.Codes
open Go.RowKit Go.WideShapes Go.Proofs.YtdackenaknieaaaGreat.Place Ops

def zop : Opn := ⟨0, 0, 0, [], 0, by decide, by decide, by decide, by decide⟩
instance : DecidableEq Opn := fun a b => decidable_of_iff (sameB a b = true) (sameB_iff a b)
theorem op_info : (Tryz.prog.info? 31).map (fun i => (i.zero, i.size, i.bytes)) = some (some (.agg #[.int .u8 0, .int .u32 0, .int .u8 0, .slice none 0 0, .int .i64 0]), 5, 48) := by kernel_rfl
/-- Operations in cells, each place of the call's own. -/
def HoldP (w : World) (base : Nat) : List Value → List Opn → Prop
  | cs, [] => cs = []
  | cs, o :: l => ∃ v d, cs = [.int .u8 (o.k : Int), .int .u32 (o.t : Int), .int .u8 (o.r : Int), v, .int .i64 o.p] ++ d ∧ w.ownsRow base 49 3 v o.pl.length (runs o.pl) ∧ HoldP w base d l
theorem HoldP.rows {w : World} {base : Nat} : ∀ {cs : List Value} {l : List Opn}, HoldP w base cs l → opE.rows w cs l
  | _, [], h => h
  | _, _ :: _, ⟨v, d, h1, h2, h3⟩ => ⟨_, d, h1, ⟨v, rfl, Runs.own h2⟩, HoldP.rows h3⟩
theorem HoldP.keeps {w w' : World} {base : Nat} (hb : Below w.heap.size w w') : ∀ {cs : List Value} {l : List Opn}, HoldP w base cs l → HoldP w' base cs l
  | _, [], h => h
  | _, _ :: _, ⟨v, d, h1, h2, h3⟩ => ⟨v, d, h1, own_stays h2 hb, HoldP.keeps hb h3⟩
theorem HoldP.append {w : World} {base : Nat} : ∀ {cs ds : List Value} {l m : List Opn}, HoldP w base cs l → HoldP w base ds m → HoldP w base (cs ++ ds) (l ++ m)
  | cs, _, [], _, h, h2 => by rw [show cs = [] from h]; exact h2
  | _, ds, _ :: _, _, ⟨v, d, h1, h3, h4⟩, h2 => ⟨v, d ++ ds, by rw [h1, List.append_assoc], h3, HoldP.append h4 h2⟩
theorem HoldP.base {w : World} {b b' : Nat} (hb : b' ≤ b) : ∀ {cs : List Value} {l : List Opn}, HoldP w b cs l → HoldP w b' cs l
  | _, [], h => h
  | _, _ :: _, ⟨v, d, h1, h2, h3⟩ => ⟨v, d, h1, op_base h2 hb, HoldP.base hb h3⟩
theorem HoldP.grown {w w' : World} {base sz n B : Nat} {v : Value} {rs : List Value} (hg : w.grownBy w' v.ownBlock) (hv : w.ownsRow B 31 sz v n rs) : ∀ {cs : List Value} {l : List Opn}, HoldP w base cs l → HoldP w' base cs l
  | _, [], h => h
  | _, _ :: _, ⟨u, d, h1, h2, h3⟩ => by
    refine ⟨u, d, h1, ?_, HoldP.grown hg hv h3⟩
    refine ⟨h2.1, h2.2.imp id fun ⟨g, cap, cur, e1, e2, e3, e4⟩ => ⟨g, cap, cur, e1, e2, ?_, e4⟩⟩
    exact blk_grown hg (own_ne hv e3 (by intro c h; injection h with h1 h2 h3; exact absurd h2 (by decide))) e3
/-- A list of the call's own, its places too. -/
def OwnL (w : World) (base : Nat) (v : Value) (l : List Opn) : Prop := ∃ cs, w.ownsRow base 31 5 v l.length cs ∧ HoldP w base cs l
theorem OwnL.opl {w : World} {base : Nat} {v : Value} {l : List Opn} (h : OwnL w base v l) : OpL w v l := by
  obtain ⟨cs, h1, h2⟩ := h
  exact ⟨cs, Sees.own h1, h2.rows⟩
theorem OwnL.keeps {w w' : World} {base : Nat} {v : Value} {l : List Opn} (h : OwnL w base v l) (hb : Below w.heap.size w w') : OwnL w' base v l := by
  obtain ⟨cs, h1, h2⟩ := h
  exact ⟨cs, own_stays h1 hb, h2.keeps hb⟩
theorem OwnL.nil (w : World) (base : Nat) : OwnL w base (.slice none 0 0) [] := ⟨[], World.ownsRow_nil _ _ _ _, rfl⟩
theorem OwnL.base {w : World} {b b' : Nat} {v : Value} {l : List Opn} (h : OwnL w b v l) (hb : b' ≤ b) : OwnL w b' v l := by
  obtain ⟨cs, h1, h2⟩ := h
  exact ⟨cs, op_base h1 hb, h2.base hb⟩
/-- One more behind a list: what is appended, and to where. -/
theorem OwnL.snoc {W W8 w5 : World} {base m : Nat} {v v5 u : Value} {cs : List Value} {l : List Opn} {o : Opn} (h1 : W.ownsRow base 31 5 v l.length cs) (h2 : HoldP W base cs l) (hb : Below W.heap.size W W8)
    (hu : W8.ownsRow base 49 3 u o.pl.length (runs o.pl)) (g5 : W8.grownBy w5 v.ownBlock) (o5 : w5.ownsRow base 31 5 v5 m (cs ++ [.int .u8 (o.k : Int), .int .u32 (o.t : Int), .int .u8 (o.r : Int), u, .int .i64 o.p])) (hm : m = l.length + 1) : OwnL w5 base v5 (l ++ [o]) := by
  have hx := own_stays h1 hb
  refine ⟨_, by rw [List.length_append, List.length_singleton, ← hm]; exact o5, ?_⟩
  refine HoldP.append (HoldP.grown g5 hx (h2.keeps hb)) ?_
  exact HoldP.grown g5 hx ⟨u, [], rfl, hu, rfl⟩
theorem five_one (o : Opn) (u : Value) (hu : ∃ ao n cap, u = .slice ao n cap) : ∀ x ∈ [Value.int .u8 (o.k : Int), .int .u32 (o.t : Int), .int .u8 (o.r : Int), u, .int .i64 o.p], x.oneCell' = true := by
  obtain ⟨ao, n, cap, rfl⟩ := hu
  intro x hx
  simp only [List.mem_cons, List.not_mem_nil, or_false] at hx
  rcases hx with rfl | rfl | rfl | rfl | rfl <;> rfl
/-- What five cells hold, at a place of a block. -/
def FiveAt (w : World) (g o : Nat) (c0 c1 c2 c3 c4 : Value) : Prop := g < w.heap.size ∧ w.cell? ⟨g, o, none⟩ = some c0 ∧ w.cell? ⟨g, o + 1, none⟩ = some c1 ∧ w.cell? ⟨g, o + 2, none⟩ = some c2 ∧ w.cell? ⟨g, o + 3, none⟩ = some c3 ∧ w.cell? ⟨g, o + 4, none⟩ = some c4
theorem FiveAt.keeps {w w' : World} {g o : Nat} {c0 c1 c2 c3 c4 : Value} (p : FiveAt w g o c0 c1 c2 c3 c4) (hb : Below w.heap.size w w') : FiveAt w' g o c0 c1 c2 c3 c4 :=
  ⟨Nat.lt_of_lt_of_le p.1 hb.size, (hb.cell (p := ⟨g, o, none⟩) p.1).trans p.2.1, (hb.cell (p := ⟨g, o + 1, none⟩) p.1).trans p.2.2.1, (hb.cell (p := ⟨g, o + 2, none⟩) p.1).trans p.2.2.2.1, (hb.cell (p := ⟨g, o + 3, none⟩) p.1).trans p.2.2.2.2.1, (hb.cell (p := ⟨g, o + 4, none⟩) p.1).trans p.2.2.2.2.2⟩
end Go.Proofs.YtdackenaknieaaaGreat.Codes

/- Spans of times, in plain words: which may be, their times, one way of writing, one put to them, one taken away, how many. Conditions: none. -/
namespace Go.Proofs.YtdackenaknieaaaGreat.Spans

/-- A span: from a time to a time. -/
structure Sp where
  f : Nat
  t : Nat
  hf : f < 4294967296
  ht : t < 4294967296
theorem Sp.ext' {a b : Sp} (h1 : a.f = b.f) (h2 : a.t = b.t) : a = b := by
  obtain ⟨f, t, _, _⟩ := a; obtain ⟨g, u, _, _⟩ := b
  simp only at h1 h2
  subst h1 h2
  rfl
theorem Sp.eq_iff {a b : Sp} : a = b ↔ a.f = b.f ∧ a.t = b.t := ⟨fun h => by rw [h]; exact ⟨rfl, rfl⟩, fun h => Sp.ext' h.1 h.2⟩
instance : DecidableEq Sp := fun a b => if h : a.f = b.f ∧ a.t = b.t then isTrue (Sp.eq_iff.2 h) else isFalse (fun e => h (Sp.eq_iff.1 e))
def zsp : Sp := ⟨0, 0, by decide, by decide⟩
/-- A span of two numbers, whatever they are. -/
def mk (f t : Nat) : Sp := ⟨f % 4294967296, t % 4294967296, Nat.mod_lt _ (by decide), Nat.mod_lt _ (by decide)⟩
theorem mk_f {f t : Nat} (h : f < 4294967296) : (mk f t).f = f := Nat.mod_eq_of_lt h
theorem mk_t {f t : Nat} (h : t < 4294967296) : (mk f t).t = t := Nat.mod_eq_of_lt h

/-- May a span be, by itself? -/
def Ok (x : Sp) : Prop := 1 ≤ x.f ∧ x.f ≤ x.t ∧ x.t ≤ 1073741824
instance (x : Sp) : Decidable (Ok x) := inferInstanceAs (Decidable (_ ∧ _))
/-- May spans be, but for how many? -/
def Fine : List Sp → Prop
  | [] => True
  | [x] => Ok x
  | x :: y :: l => Ok x ∧ x.t + 2 ≤ y.f ∧ Fine (y :: l)
theorem Fine.head {x : Sp} {l : List Sp} (h : Fine (x :: l)) : Ok x := by
  cases l with
  | nil => exact h
  | cons y l => exact h.1
theorem Fine.tail {x : Sp} {l : List Sp} (h : Fine (x :: l)) : Fine l := by
  cases l with
  | nil => trivial
  | cons y l => exact h.2.2
theorem Fine.all : ∀ {l : List Sp}, Fine l → ∀ x ∈ l, Ok x
  | [], _, x, hx => by simp at hx
  | y :: l, h, x, hx => by
    rw [List.mem_cons] at hx
    rcases hx with rfl | hx
    · exact h.head
    · exact Fine.all h.tail x hx
theorem Fine.far : ∀ {x : Sp} {l : List Sp}, Fine (x :: l) → ∀ y ∈ l, x.t + 2 ≤ y.f
  | _, [], _, y, hy => by simp at hy
  | x, z :: l, h, y, hy => by
    rw [List.mem_cons] at hy
    rcases hy with rfl | hy
    · exact h.2.1
    · have h1 := Fine.far h.2.2 y hy
      have h2 := h.2.1
      have h3 := h.2.2.head
      unfold Ok at h3
      omega
theorem Fine.cons {x : Sp} {l : List Sp} (hx : Ok x) (hl : Fine l) (h : ∀ y ∈ l, x.t + 2 ≤ y.f) : Fine (x :: l) := by
  cases l with
  | nil => exact hx
  | cons y l => exact ⟨hx, h y (by simp), hl⟩
theorem fine_append : ∀ {l m : List Sp}, Fine l → Fine m → (∀ a ∈ l, ∀ b ∈ m, a.t + 2 ≤ b.f) → Fine (l ++ m)
  | [], m, _, h, _ => h
  | x :: l, m, h1, h2, h => by
    rw [List.cons_append]
    refine Fine.cons h1.head (fine_append h1.tail h2 (fun a ha b hb => h a (by simp [ha]) b hb)) (fun y hy => ?_)
    rw [List.mem_append] at hy
    rcases hy with hy | hy
    · exact h1.far y hy
    · exact h x (by simp) y hy

/-- Has it the time? -/
def In (l : List Sp) (n : Nat) : Prop := ∃ x ∈ l, x.f ≤ n ∧ n ≤ x.t
def inB : List Sp → Nat → Bool
  | [], _ => false
  | x :: l, n => decide (x.f ≤ n ∧ n ≤ x.t) || inB l n
theorem inB_iff : ∀ (l : List Sp) (n : Nat), inB l n = true ↔ In l n
  | [], n => by simp [inB, In]
  | x :: l, n => by
    have ih := inB_iff l n
    unfold In at ih ⊢
    simp [inB, ih]
instance (l : List Sp) (n : Nat) : Decidable (In l n) := decidable_of_iff _ (inB_iff l n)
theorem in_nil (n : Nat) : ¬ In [] n := by simp [In]
theorem in_cons {x : Sp} {l : List Sp} {n : Nat} : In (x :: l) n ↔ (x.f ≤ n ∧ n ≤ x.t) ∨ In l n := by simp [In]
theorem in_append {l m : List Sp} {n : Nat} : In (l ++ m) n ↔ In l n ∨ In m n := by
  induction l with
  | nil => simp [in_nil]
  | cons x l ih => rw [List.cons_append, in_cons, in_cons, ih]; constructor <;> (intro h; rcases h with h | h) <;> first | exact .inl (.inl h) | exact .inl h | (rcases h with h | h; exact .inl (.inr h); exact .inr h) | exact .inr (.inl h) | exact .inr (.inr h) | (rcases h with h | h; exact .inl h; exact .inr (.inl h)) | skip
theorem in_far {x : Sp} {l : List Sp} (h : Fine (x :: l)) {n : Nat} (hn : In l n) : x.t + 2 ≤ n := by
  obtain ⟨y, hy, h1, _⟩ := hn
  have := h.far y hy
  omega
/-- A set is written in one way alone. -/
theorem uniq : ∀ {l m : List Sp}, Fine l → Fine m → (∀ n, In l n ↔ In m n) → l = m
  | [], [], _, _, _ => rfl
  | [], y :: m, _, h2, h => by
    have h3 := h2.head
    unfold Ok at h3
    exact absurd ((h y.f).2 (in_cons.2 (.inl ⟨by omega, by omega⟩))) (in_nil _)
  | x :: l, [], h1, _, h => by
    have h3 := h1.head
    unfold Ok at h3
    exact absurd ((h x.f).1 (in_cons.2 (.inl ⟨by omega, by omega⟩))) (in_nil _)
  | x :: l, y :: m, h1, h2, h => by
    have hx := h1.head
    have hy := h2.head
    unfold Ok at hx hy
    have least : ∀ {x y : Sp} {l m : List Sp}, Fine (x :: l) → Fine (y :: m) → Ok x → (∀ n, In (x :: l) n → In (y :: m) n) → y.f ≤ x.f := by
      intro x y l m h1 h2 hx h
      have := h x.f (in_cons.2 (.inl ⟨Nat.le_refl _, hx.2.1⟩))
      rcases in_cons.1 this with h3 | h3
      · exact h3.1
      · have h4 := in_far h2 h3
        have h5 := h2.head
        unfold Ok at h5
        omega
    have most : ∀ {x y : Sp} {l m : List Sp}, Fine (x :: l) → Fine (y :: m) → x.f = y.f → (∀ n, In (y :: m) n → In (x :: l) n) → y.t ≤ x.t := by
      intro x y l m h1 h2 hf h
      have hx := h1.head
      have hy := h2.head
      unfold Ok at hx hy
      by_cases hlt : x.t < y.t
      · have := h (x.t + 1) (in_cons.2 (.inl ⟨by omega, by omega⟩))
        rcases in_cons.1 this with h3 | h3
        · omega
        · have h4 := in_far h1 h3
          omega
      · omega
    have hf : x.f = y.f := by
      have a := least h1 h2 h1.head (fun n => (h n).1)
      have b := least h2 h1 h2.head (fun n => (h n).2)
      omega
    have ht : x.t = y.t := by
      have a := most h1 h2 hf (fun n => (h n).2)
      have b := most h2 h1 hf.symm (fun n => (h n).1)
      omega
    have e : x = y := Sp.ext' hf ht
    subst e
    congr 1
    refine uniq h1.tail h2.tail (fun n => ?_)
    constructor
    · intro hn
      have h3 := in_far h1 hn
      rcases in_cons.1 ((h n).1 (in_cons.2 (.inr hn))) with h4 | h4
      · omega
      · exact h4
    · intro hn
      have h3 := in_far h2 hn
      rcases in_cons.1 ((h n).2 (in_cons.2 (.inr hn))) with h4 | h4
      · omega
      · exact h4

/-! ### One put to them -/

/-- Two spans that touch, as one. -/
def mrg (y x : Sp) : Sp := ⟨min x.f y.f, max x.t y.t, by have := x.hf; omega, by have := x.ht; have := y.ht; omega⟩
/-- One put to spans, in order. -/
def ins : List Sp → Sp → List Sp
  | [], x => [x]
  | y :: l, x => if y.t + 1 < x.f then y :: ins l x else if x.t + 1 < y.f then x :: y :: l else ins l (mrg y x)
theorem mrg_ok {x y : Sp} (hx : Ok x) (hy : Ok y) : Ok (mrg y x) := by
  unfold Ok mrg at *; simp only; omega
theorem in_mrg {x y : Sp} (h1 : ¬ y.t + 1 < x.f) (h2 : ¬ x.t + 1 < y.f) (n : Nat) : ((mrg y x).f ≤ n ∧ n ≤ (mrg y x).t) ↔ (y.f ≤ n ∧ n ≤ y.t) ∨ (x.f ≤ n ∧ n ≤ x.t) := by
  unfold mrg; simp only; omega
theorem in_ins : ∀ {l : List Sp} {x : Sp}, Fine l → Ok x → ∀ n, In (ins l x) n ↔ In l n ∨ (x.f ≤ n ∧ n ≤ x.t)
  | [], x, _, _, n => by
    simp only [ins, in_cons]
    have := in_nil n
    constructor
    · rintro (h | h)
      · exact .inr h
      · exact absurd h this
    · rintro (h | h)
      · exact absurd h this
      · exact .inl h
  | y :: l, x, h, hx, n => by
    unfold ins
    by_cases h1 : y.t + 1 < x.f
    · rw [if_pos h1, in_cons, in_cons, in_ins h.tail hx n]
      constructor
      · rintro (h2 | h2 | h2)
        · exact .inl (.inl h2)
        · exact .inl (.inr h2)
        · exact .inr h2
      · rintro ((h2 | h2) | h2)
        · exact .inl h2
        · exact .inr (.inl h2)
        · exact .inr (.inr h2)
    · rw [if_neg h1]
      by_cases h2 : x.t + 1 < y.f
      · rw [if_pos h2, in_cons]
        exact ⟨fun h => h.symm, fun h => h.symm⟩
      · rw [if_neg h2, in_ins h.tail (mrg_ok hx h.head) n, in_mrg h1 h2 n, in_cons]
        constructor
        · rintro (h3 | h3 | h3)
          · exact .inl (.inr h3)
          · exact .inl (.inl h3)
          · exact .inr h3
        · rintro ((h3 | h3) | h3)
          · exact .inr (.inl h3)
          · exact .inl h3
          · exact .inr (.inr h3)
theorem ins_low : ∀ {l : List Sp} {x : Sp} {b : Nat}, (∀ y ∈ l, b ≤ y.f) → b ≤ x.f → ∀ y ∈ ins l x, b ≤ y.f
  | [], x, b, _, h2, y, hy => by simp only [ins, List.mem_singleton] at hy; subst hy; exact h2
  | z :: l, x, b, h1, h2, y, hy => by
    unfold ins at hy
    by_cases g1 : z.t + 1 < x.f
    · rw [if_pos g1, List.mem_cons] at hy
      rcases hy with rfl | hy
      · exact h1 y (by simp)
      · exact ins_low (fun u hu => h1 u (by simp [hu])) h2 y hy
    · rw [if_neg g1] at hy
      by_cases g2 : x.t + 1 < z.f
      · rw [if_pos g2, List.mem_cons] at hy
        rcases hy with rfl | hy
        · exact h2
        · exact h1 y hy
      · rw [if_neg g2] at hy
        refine ins_low (fun u hu => h1 u (by simp [hu])) ?_ y hy
        have := h1 z (by simp)
        unfold mrg; simp only; omega
theorem ins_fine : ∀ {l : List Sp} {x : Sp}, Fine l → Ok x → Fine (ins l x)
  | [], _, _, hx => hx
  | y :: l, x, h, hx => by
    unfold ins
    by_cases h1 : y.t + 1 < x.f
    · rw [if_pos h1]
      exact Fine.cons h.head (ins_fine h.tail hx) (ins_low h.far (by omega))
    · rw [if_neg h1]
      by_cases h2 : x.t + 1 < y.f
      · rw [if_pos h2]
        exact ⟨hx, by omega, h⟩
      · rw [if_neg h2]
        exact ins_fine h.tail (mrg_ok hx h.head)
theorem ins_len : ∀ (l : List Sp) (x : Sp), (ins l x).length ≤ l.length + 1
  | [], _ => by simp [ins]
  | y :: l, x => by
    unfold ins
    by_cases h1 : y.t + 1 < x.f
    · rw [if_pos h1]; have := ins_len l x; simp; omega
    · rw [if_neg h1]
      by_cases h2 : x.t + 1 < y.f
      · rw [if_pos h2]; simp
      · rw [if_neg h2]; have := ins_len l (mrg y x); simp; omega
theorem filter_none {l : List Sp} {p : Sp → Bool} (h : ∀ y ∈ l, p y = false) : l.filter p = [] := by
  rw [List.filter_eq_nil_iff]
  intro y hy
  rw [h y hy]
  simp
/-! ### One taken away -/

/-- What is left of one. -/
def rem (y x : Sp) : List Sp :=
  if y.t < x.f ∨ x.t < y.f then [y] else (if y.f < x.f then [mk y.f (x.f - 1)] else []) ++ (if x.t < y.t then [mk (x.t + 1) y.t] else [])
def del : List Sp → Sp → List Sp
  | [], _ => []
  | y :: l, x => rem y x ++ del l x
theorem rem_in {y x : Sp} (hy : Ok y) (hx : Ok x) (n : Nat) : In (rem y x) n ↔ (y.f ≤ n ∧ n ≤ y.t) ∧ ¬ (x.f ≤ n ∧ n ≤ x.t) := by
  unfold Ok at hx hy
  have h0 := in_nil n
  unfold rem
  by_cases h1 : y.t < x.f ∨ x.t < y.f
  · rw [if_pos h1, in_cons]
    constructor
    · rintro (h | h)
      · exact ⟨h, by omega⟩
      · exact absurd h h0
    · intro h; exact .inl h.1
  · rw [if_neg h1, in_append]
    by_cases h2 : y.f < x.f
    · rw [if_pos h2, in_cons, mk_f (by omega), mk_t (by omega)]
      by_cases h3 : x.t < y.t
      · rw [if_pos h3, in_cons, mk_f (by omega), mk_t (by omega)]
        constructor
        · rintro ((h | h) | (h | h))
          · omega
          · exact absurd h h0
          · omega
          · exact absurd h h0
        · intro h
          by_cases h4 : n < x.f
          · exact .inl (.inl (by omega))
          · exact .inr (.inl (by omega))
      · rw [if_neg h3]
        constructor
        · rintro ((h | h) | h)
          · omega
          · exact absurd h h0
          · exact absurd h h0
        · intro h; exact .inl (.inl (by omega))
    · rw [if_neg h2]
      by_cases h3 : x.t < y.t
      · rw [if_pos h3, in_cons, mk_f (by omega), mk_t (by omega)]
        constructor
        · rintro (h | h | h)
          · exact absurd h h0
          · omega
          · exact absurd h h0
        · intro h; exact .inr (.inl (by omega))
      · rw [if_neg h3]
        constructor
        · rintro (h | h) <;> exact absurd h h0
        · intro h; omega
theorem rem_fine {y x : Sp} (hy : Ok y) (hx : Ok x) : Fine (rem y x) ∧ ∀ z ∈ rem y x, y.f ≤ z.f ∧ z.t ≤ y.t := by
  have hyo := hy
  unfold Ok at hx hy
  unfold rem
  by_cases h1 : y.t < x.f ∨ x.t < y.f
  · rw [if_pos h1]
    exact ⟨hyo, fun z hz => by simp only [List.mem_singleton] at hz; subst hz; omega⟩
  · rw [if_neg h1]
    have oa : y.f < x.f → Ok (mk y.f (x.f - 1)) := fun h => by unfold Ok; rw [mk_f (by omega), mk_t (by omega)]; omega
    have ob : x.t < y.t → Ok (mk (x.t + 1) y.t) := fun h => by unfold Ok; rw [mk_f (by omega), mk_t (by omega)]; omega
    by_cases h2 : y.f < x.f
    · rw [if_pos h2]
      by_cases h3 : x.t < y.t
      · rw [if_pos h3]
        refine ⟨⟨oa h2, by rw [mk_t (by omega), mk_f (by omega)]; omega, ob h3⟩, fun z hz => ?_⟩
        simp only [List.cons_append, List.nil_append, List.mem_cons, List.not_mem_nil, or_false] at hz
        rcases hz with rfl | rfl
        · rw [mk_f (by omega), mk_t (by omega)]; omega
        · rw [mk_f (by omega), mk_t (by omega)]; omega
      · rw [if_neg h3]
        refine ⟨oa h2, fun z hz => ?_⟩
        simp only [List.append_nil, List.mem_singleton] at hz
        subst hz
        rw [mk_f (by omega), mk_t (by omega)]; omega
    · rw [if_neg h2]
      by_cases h3 : x.t < y.t
      · rw [if_pos h3]
        refine ⟨ob h3, fun z hz => ?_⟩
        simp only [List.nil_append, List.mem_singleton] at hz
        subst hz
        rw [mk_f (by omega), mk_t (by omega)]; omega
      · rw [if_neg h3]
        exact ⟨trivial, fun z hz => by simp at hz⟩
theorem del_in : ∀ {l : List Sp} {x : Sp}, Fine l → Ok x → ∀ n, In (del l x) n ↔ In l n ∧ ¬ (x.f ≤ n ∧ n ≤ x.t)
  | [], x, _, _, n => by simp [del, in_nil]
  | y :: l, x, h, hx, n => by
    unfold del
    rw [in_append, rem_in h.head hx, del_in h.tail hx, in_cons]
    constructor
    · rintro (h1 | h1)
      · exact ⟨.inl h1.1, h1.2⟩
      · exact ⟨.inr h1.1, h1.2⟩
    · rintro ⟨h1 | h1, h2⟩
      · exact .inl ⟨h1, h2⟩
      · exact .inr ⟨h1, h2⟩
theorem del_low : ∀ {l : List Sp} {x : Sp}, Fine l → Ok x → ∀ z ∈ del l x, ∃ y ∈ l, y.f ≤ z.f
  | [], x, _, _, z, hz => by simp [del] at hz
  | y :: l, x, h, hx, z, hz => by
    unfold del at hz
    rw [List.mem_append] at hz
    rcases hz with hz | hz
    · exact ⟨y, by simp, ((rem_fine h.head hx).2 z hz).1⟩
    · obtain ⟨u, h1, h2⟩ := del_low h.tail hx z hz
      exact ⟨u, by simp [h1], h2⟩
theorem del_fine : ∀ {l : List Sp} {x : Sp}, Fine l → Ok x → Fine (del l x)
  | [], _, _, _ => trivial
  | y :: l, x, h, hx => by
    unfold del
    refine fine_append (rem_fine h.head hx).1 (del_fine h.tail hx) (fun a ha b hb => ?_)
    have h1 := ((rem_fine h.head hx).2 a ha).2
    obtain ⟨u, h2, h3⟩ := del_low h.tail hx b hb
    have h4 := h.far u h2
    omega
/-! ### All of one put to another one, taken away -/

def both : List Sp → List Sp → List Sp
  | a, [] => a
  | a, x :: b => both (ins a x) b
def left : List Sp → List Sp → List Sp
  | a, [] => a
  | a, x :: b => left (del a x) b
theorem both_ok : ∀ {b a : List Sp}, Fine a → (∀ x ∈ b, Ok x) → Fine (both a b) ∧ ∀ n, In (both a b) n ↔ In a n ∨ In b n
  | [], a, h, _ => ⟨h, fun n => by simp [both, in_nil]⟩
  | x :: b, a, h, hb => by
    have hx := hb x (by simp)
    have ih := both_ok (b := b) (ins_fine h hx) (fun y hy => hb y (by simp [hy]))
    refine ⟨ih.1, fun n => ?_⟩
    show In (both (ins a x) b) n ↔ _
    rw [ih.2 n, in_ins h hx n, in_cons]
    constructor
    · rintro ((h1 | h1) | h1)
      · exact .inl h1
      · exact .inr (.inl h1)
      · exact .inr (.inr h1)
    · rintro (h1 | h1 | h1)
      · exact .inl (.inl h1)
      · exact .inl (.inr h1)
      · exact .inr h1
theorem left_ok : ∀ {b a : List Sp}, Fine a → (∀ x ∈ b, Ok x) → Fine (left a b) ∧ ∀ n, In (left a b) n ↔ In a n ∧ ¬ In b n
  | [], a, h, _ => ⟨h, fun n => by simp [left, in_nil]⟩
  | x :: b, a, h, hb => by
    have hx := hb x (by simp)
    have ih := left_ok (b := b) (del_fine h hx) (fun y hy => hb y (by simp [hy]))
    refine ⟨ih.1, fun n => ?_⟩
    show In (left (del a x) b) n ↔ _
    rw [ih.2 n, del_in h hx n, in_cons]
    constructor
    · rintro ⟨⟨h1, h2⟩, h3⟩
      exact ⟨h1, fun h4 => h4.elim h2 h3⟩
    · rintro ⟨h1, h2⟩
      exact ⟨⟨h1, fun h4 => h2 (.inl h4)⟩, fun h4 => h2 (.inr h4)⟩

/-! ### How many times -/

def many : List Sp → Nat
  | [] => 0
  | x :: l => x.t - x.f + 1 + many l
/-- How many numbers below one are so. -/
def cnt (p : Nat → Bool) : Nat → Nat
  | 0 => 0
  | n + 1 => cnt p n + if p n then 1 else 0
theorem cnt_none {p : Nat → Bool} : ∀ {n : Nat}, (∀ k, k < n → p k = false) → cnt p n = 0
  | 0, _ => rfl
  | n + 1, h => by unfold cnt; rw [h n (by omega), cnt_none (fun k hk => h k (by omega))]; rfl
theorem cnt_or {p q r : Nat → Bool} (h1 : ∀ k, r k = (p k || q k)) (h2 : ∀ k, ¬ (p k = true ∧ q k = true)) : ∀ n, cnt r n = cnt p n + cnt q n
  | 0 => rfl
  | n + 1 => by
    have ih := cnt_or h1 h2 n
    have e := h1 n
    have g := h2 n
    unfold cnt
    rw [ih, e]
    cases hp : p n <;> cases hq : q n
    · simp
    · simp; omega
    · simp; omega
    · exact absurd ⟨hp, hq⟩ g
theorem cnt_span (f t : Nat) : ∀ n, t < n → f ≤ t → cnt (fun k => decide (f ≤ k ∧ k ≤ t)) n = t - f + 1 := by
  have low : ∀ n, n ≤ t + 1 → cnt (fun k => decide (f ≤ k ∧ k ≤ t)) n = n - f := by
    intro n
    induction n with
    | zero => intro _; simp [cnt]
    | succ n ih =>
      intro h
      unfold cnt
      rw [ih (by omega)]
      by_cases g : f ≤ n
      · rw [if_pos (by simp; omega)]; omega
      · rw [if_neg (by simp; omega)]; omega
  intro n
  induction n with
  | zero => intro h; omega
  | succ n ih =>
    intro h1 h2
    by_cases g : t < n
    · unfold cnt
      rw [ih g h2, if_neg (by simp; omega)]
    · have : n = t := by omega
      subst this
      rw [low (n + 1) (by omega)]
      omega
theorem many_cnt : ∀ {l : List Sp}, Fine l → many l = cnt (inB l) 1073741825
  | [], _ => (cnt_none (fun _ _ => rfl)).symm
  | x :: l, h => by
    have hx := h.head
    unfold Ok at hx
    have e := cnt_or (r := inB (x :: l)) (p := fun k => decide (x.f ≤ k ∧ k ≤ x.t)) (q := inB l) (fun k => rfl) (fun k => by
      rintro ⟨h1, h2⟩
      have h3 := in_far h ((inB_iff l k).1 h2)
      have h4 := of_decide_eq_true h1
      omega) 1073741825
    rw [e, cnt_span _ _ _ (by omega) hx.2.1, ← many_cnt h.tail]
    rfl
/-- Two sets without a time in both have as many as their join. -/
theorem many_join {l m j : List Sp} (h1 : Fine l) (h2 : Fine m) (h3 : Fine j) (hj : ∀ n, In j n ↔ In l n ∨ In m n) (hn : ∀ n, ¬ (In l n ∧ In m n)) : many j = many l + many m := by
  rw [many_cnt h1, many_cnt h2, many_cnt h3]
  refine cnt_or (fun k => ?_) (fun k => ?_) _
  · rw [Bool.eq_iff_iff, Bool.or_eq_true, inB_iff, inB_iff, inB_iff]
    exact hj k
  · rw [inB_iff, inB_iff]
    exact hn k
end Go.Proofs.YtdackenaknieaaaGreat.Spans
