/- octavo/place.apart: what it answers. Conditions: the slices' cells are runs that may stand one behind the other. octavo/place: Last, Ids: what each answers. Conditions: the slice's cells are runs. Whether a number is a code point: point.Check, and the document's Is. Conditions: none. octavo/op.Check with its closures: what each answers. Conditions: the place's cells are runs. An operation that came in: what it holds. Conditions: none. Slices of elements of any kind, whose cells may hold slices themselves: what such a slice value holds. Conditions: none. Operations as elements of slices. Conditions: none. -/
import Derived.Test.YtmiepnnpccpicaaGreatChecked
import Derived.WalkKit
import Derived.WalkSpells
import Derived.WalkLawsBesides
import Derived.Laws.BytesArg
import Derived.Lib.Hide
import Derived.Deep.LoopGhost
import Derived.Laws.AppendOwnNone
import Derived.Laws.OwnMore
import Derived.WideShapes
import Derived.Maps.AppendAt
import Derived.RegionTactic
import Derived.Deep.RegionHeld3
import Derived.Deep.DrawnRows
import Derived.Deep.QuietTactic
import Derived.BigQuiet
import Derived.IntWalk
import Derived.ScopeJumps
import Derived.Deep.DeepCutAuto
import Derived.Test.YtmiepnnpccpicaaGreatProg
import Derived.LoopTactic
import Derived.Laws.EntriesVeiled
import Derived.Test.YtmiepnnpccpicaaGreatRows
import Derived.ProofKit
import Derived.SizedLaws
import Derived.Lib.SmallJoins
import Derived.Test.YtmiepnnpccpicaaGreatPk02
import Derived.Test.YtmiepnnpccpicaaGreatPk01

namespace Go.Proofs.YtmiepnnpccpicaaGreat.Place
open Go.RowKit Stamp
attribute [local go_sem ↓] Go.wp_at_zero Go.wp_at_succ
/-- A scope that begins with the label to which the run jumps back: what holds at every jump holds at the beginning, too. -/
theorem wp_scope_label {P : Program} {a : Act} {w : World} {Q : Exit → Act → World → Prop} {b : Code} (l : Nat) (J : Act → World → Prop) (μ : Act → World → Nat) (h0 : J a w)
    (pass : ∀ a w, J a w → b.wp P (Exit.jump l (fun a' w' => J a' w' ∧ μ a' w' < μ a w) Q) a w) : (Code.scope ((Code.label l).seq b)).wp P Q a w := by
  refine wp_scope_jumps (rest := .seq .skip b) l J μ (by simp [findLabel]) (wp_seq (wp_label ?_)) (fun a w hJ => wp_seq (wp_skip (pass a w hJ)))
  refine wp_mono (pass a w h0) ?_
  intro e a' w' h
  cases e with
  | goto l' => exact ⟨h.1, h.2.1⟩
  | _ => exact h
/-- The runs that are left: one that is begun, and those behind. -/
def rst (x : Run) (p : List Run) : List Run := if x.m = 0 then p else x :: p
/-- How many stamps are left. -/
def wgt (x : Run) (p : List Run) : Nat := x.m.toNat + nl p
/-- A run that is begun: not below nothing, and at most as far as times go. -/
def Begun (x : Run) : Prop := 0 ≤ x.m ∧ x.m ≤ 4096 ∧ x.t ≤ 1073741825
theorem nx_ok {x : Run} {p : List Run} (hx : Begun x) (hc : Chain (rst x p)) :
    rst (nx x p).1 (nx x p).2 = rst x p ∧ Begun (nx x p).1 ∧ wgt (nx x p).1 (nx x p).2 = wgt x p ∧ (((nx x p).1.m = 0 ∧ rst x p = [] ∧ (nx x p).2 = []) ∨ (One (nx x p).1 ∧ rst x p = (nx x p).1 :: (nx x p).2)) := by
  obtain ⟨h1, h2, h3⟩ := hx
  cases p with
  | nil =>
    by_cases hm : x.m = 0
    · exact ⟨rfl, ⟨h1, h2, h3⟩, rfl, .inl ⟨hm, by simp [rst, hm], rfl⟩⟩
    · have e : rst x [] = [x] := by simp [rst, hm]
      rw [e] at hc
      exact ⟨rfl, ⟨h1, h2, h3⟩, rfl, .inr ⟨hc.head, by simp [rst, hm, nx]⟩⟩
  | cons y q =>
    by_cases hm : 0 < x.m
    · have e : nx x (y :: q) = (x, y :: q) := by simp [nx, hm]
      have hm0 : ¬ x.m = 0 := by omega
      have e2 : rst x (y :: q) = x :: y :: q := by simp [rst, hm0]
      rw [e2] at hc
      rw [e]
      exact ⟨rfl, ⟨h1, h2, h3⟩, rfl, .inr ⟨hc.head, e2⟩⟩
    · have hm0 : x.m = 0 := by omega
      have e : nx x (y :: q) = (y, q) := by simp [nx, hm]
      have e2 : rst x (y :: q) = y :: q := by simp [rst, hm0]
      rw [e2] at hc
      have ho := hc.head
      have ho2 := ho
      obtain ⟨o1, o2, o3, o4, o5, o6⟩ := ho
      have e3 : rst y q = y :: q := by simp [rst, show ¬ y.m = 0 by omega]
      rw [e, e2]
      refine ⟨e3, ⟨by simp only; omega, o5, by simp only; omega⟩, ?_, .inr ⟨ho2, rfl⟩⟩
      simp only [wgt, nl]
      rw [hm0]
      simp
/-- What is left of a run, and the runs behind, where its first n stamps go. -/
def aft (x : Run) (n : Nat) : Run := mkRun (x.t + n) x.r (x.m - n)
theorem aft_ok {x : Run} {p : List Run} {n : Nat} (h : One x) (hn : (n : Int) ≤ x.m) (h1 : 1 ≤ n) :
    rst (aft x n) p = cut x p n ∧ Begun (aft x n) ∧ wgt (aft x n) p + n = wgt x p ∧ ((aft x n).t : Int) = (x.t : Int) + n ∧ (aft x n).r = x.r ∧ (aft x n).m = x.m - n := by
  have hr := x.hr
  obtain ⟨o1, o2, o3, o4, o5, o6⟩ := h
  have et : (aft x n).t = x.t + n := mkRun_t (by omega)
  have er : (aft x n).r = x.r := mkRun_r hr
  have em : (aft x n).m = x.m - n := mkRun_m (by omega)
  refine ⟨?_, ⟨by rw [em]; omega, by rw [em]; omega, by rw [et]; omega⟩, ?_, by rw [et]; omega, er, em⟩
  · unfold rst cut
    rw [em]
    by_cases he : x.m = (n : Int)
    · rw [if_pos (by omega), if_pos he]
    · rw [if_neg (by omega), if_neg he]; rfl
  · unfold wgt
    rw [em]
    omega
/-- What two parted runs tell. -/
def ends (x y : Run) : Int × Bool :=
  if x.m = 0 then (if y.m = 0 then (0, true) else (-1, true)) else if y.m = 0 then (1, false) else (if less y.t y.r x.t x.r = true then -1 else 1, false)
theorem ends_none {x1 y1 : Run} {p q p1 q1 : List Run} (hx : (x1.m = 0 ∧ p = [] ∧ p1 = []) ∨ (One x1 ∧ p = x1 :: p1)) (hy : (y1.m = 0 ∧ q = [] ∧ q1 = []) ∨ (One y1 ∧ q = y1 :: q1)) (h0 : x1.m = 0 ∨ y1.m = 0) :
    hold (all p) (all q) = (ends x1 y1).1 ∧ first (all p) (all q) = (ends x1 y1).2 := by
  unfold ends
  rcases hx with ⟨hx, rfl, _⟩ | ⟨hx, rfl⟩
  · rw [if_pos hx]
    rcases hy with ⟨hy, rfl, _⟩ | ⟨hy, rfl⟩
    · rw [if_pos hy]; exact ⟨rfl, rfl⟩
    · rw [if_neg (by have := hy.2.2.2.1; omega)]
      exact ⟨hold_left hy, rfl⟩
  · rw [if_neg (by have := hx.2.2.2.1; omega)]
    rcases hy with ⟨hy, rfl, _⟩ | ⟨hy, rfl⟩
    · rw [if_pos hy]
      exact ⟨hold_right hx, first_right hx⟩
    · have := hx.2.2.2.1; have := hy.2.2.2.1; omega
theorem ends_some {x1 y1 : Run} {p1 q1 : List Run} (hx : One x1) (hy : One y1) (h : ¬ (x1.t = y1.t ∧ x1.r = y1.r)) :
    hold (all (x1 :: p1)) (all (y1 :: q1)) = (ends x1 y1).1 ∧ first (all (x1 :: p1)) (all (y1 :: q1)) = (ends x1 y1).2 := by
  unfold ends
  rw [if_neg (by have := hx.2.2.2.1; omega), if_neg (by have := hy.2.2.2.1; omega)]
  exact ⟨hold_part hx hy h, first_part hx hy h⟩
/-- The third cell of a block, a number. -/
def cm (w : World) (g : Nat) : Nat := match w.cell? ⟨g, 2, none⟩ with | some (.int _ m) => m.toNat | _ => 0
theorem cells_blk3 {X : World} {g : Nat} {c0 c1 c2 : Value} {e : TypeId} (h : X.heap[g]? = some (.cells #[c0, c1, c2] e)) :
    X.cell? ⟨g, 0, none⟩ = some c0 ∧ X.cell? ⟨g, 1, none⟩ = some c1 ∧ X.cell? ⟨g, 2, none⟩ = some c2 ∧ X.frozen? ⟨g, 0, none⟩ = false ∧ X.frozen? ⟨g, 1, none⟩ = false ∧ X.frozen? ⟨g, 2, none⟩ = false :=
  ⟨cell_of_row _ g 0 #[c0, c1, c2] e _ h, cell_of_row _ g 1 #[c0, c1, c2] e _ h, cell_of_row _ g 2 #[c0, c1, c2] e _ h, by simp [World.frozen?, h], by simp [World.frozen?, h], by simp [World.frozen?, h]⟩
theorem cm_of {X : World} {g : Nat} {c0 c1 : Value} {m : Int} {e : TypeId} (h : X.heap[g]? = some (.cells #[c0, c1, .int .i64 m] e)) : cm X g = m.toNat := by
  unfold cm; rw [(cells_blk3 h).2.2.1]
/-- Three cells of a block stored. -/
def put3 (X : World) (g : Nat) (d0 d1 d2 : Value) : World := ((X.setCell ⟨g, 0, none⟩ d0).setCell ⟨g, 1, none⟩ d1).setCell ⟨g, 2, none⟩ d2
theorem put3_same {X : World} {g : Nat} {c0 c1 c2 : Value} (d0 d1 d2 : Value) {e : TypeId} (h : X.heap[g]? = some (.cells #[c0, c1, c2] e)) : (put3 X g d0 d1 d2).heap[g]? = some (.cells #[d0, d1, d2] e) := by
  have h0 := heap_setCell_same X g 0 _ _ d0 h
  have h1 := heap_setCell_same _ g 1 _ _ d1 h0
  have h2 := heap_setCell_same _ g 2 _ _ d2 h1
  exact h2
theorem put3_other {X : World} {g k : Nat} (d0 d1 d2 : Value) {o : Obj} (hk : k ≠ g) (h : X.heap[k]? = some o) : (put3 X g d0 d1 d2).heap[k]? = some o := by
  unfold put3
  rw [heap_setCell_other _ _ _ _ hk, heap_setCell_other _ _ _ _ hk, heap_setCell_other _ _ _ _ hk]
  exact h
theorem put3_below {B g : Nat} {W X : World} (d0 d1 d2 : Value) (hg : B ≤ g) (h : Below B W X) : Below B W (put3 X g d0 d1 d2) :=
  ((h.setCell (p := ⟨g, 0, none⟩) hg _).setCell (p := ⟨g, 1, none⟩) hg _).setCell (p := ⟨g, 2, none⟩) hg _
/-- What holds at the label. -/
def Part (w : World) (h0 : Int) (f0 : Bool) (va vb : Value) (wr : World) (x y : Run) (p q : List Run) : Prop :=
  Runs w va p ∧ Runs w vb q ∧ wr.heap[w.heap.size]? = some (.cells #[.int .u32 (x.t : Int), .int .u8 (x.r : Int), .int .i64 x.m] 40) ∧ wr.heap[w.heap.size + 1]? = some (.cells #[.int .u32 (y.t : Int), .int .u8 (y.r : Int), .int .i64 y.m] 40) ∧
    Begun x ∧ Begun y ∧ Chain (rst x p) ∧ Chain (rst y q) ∧ hold (all (rst x p)) (all (rst y q)) = h0 ∧ first (all (rst x p)) (all (rst y q)) = f0 ∧ Below w.heap.size w wr
def PartAt (w : World) (h0 : Int) (f0 : Bool) (a' : Act) (wr : World) : Prop :=
  ∃ (va vb : Value) (u2 u3 u6 u7 u8 u9 u10 u11 u12 u13 u14 u15 u16 u17 u18 u19 u20 u21 u22 u23 u24 u25 u26 u27 u28 u29 u30 u31 u32 u33 u34 u35 u36 u37 u38 u39 u40 u41 u42 u43 u44 u45 u46 u47 u48 u49 u50 : Value), a' = { tmps := #[va, vb, u2, u3, .pointer (some ⟨w.heap.size, 0, none⟩), .pointer (some ⟨w.heap.size + 1, 0, none⟩), u6, u7, u8, u9, u10, u11, u12, u13, u14, u15, u16, u17, u18, u19, u20, u21, u22, u23, u24, u25, u26, u27, u28, u29, u30, u31, u32, u33, u34, u35, u36, u37, u38, u39, u40, u41, u42, u43, u44, u45, u46, u47, u48, u49, u50], defers := [] } ∧ ∃ x y p q, Part w h0 f0 va vb wr x y p q
/-- What two places parted tell. -/
def Parted (h0 : Int) (f0 : Bool) (w : World) (e : Ending) (w' : World) : Prop :=
  ∃ x y : Run, e = .returned (.tuple #[.agg #[.int .u32 (x.t : Int), .int .u8 (x.r : Int), .int .i64 x.m], .agg #[.int .u32 (y.t : Int), .int .u8 (y.r : Int), .int .i64 y.m]]) ∧ h0 = (ends x y).1 ∧ f0 = (ends x y).2 ∧ Below w.heap.size w w'
set_option maxRecDepth 100000 in
set_option maxHeartbeats 8000000 in
theorem apart_any {a b : Value} {p q : List Run} {w : World} (ha : Runs w a p) (hb : Runs w b q) (hp : Chain p) (hq : Chain q) :
    Calls Tryz.prog 48 #[a, b] w (Parted (hold (all p) (all q)) (first (all p) (all q)) w) := by
  have P0 : Hid (Part w (hold (all p) (all q)) (first (all p) (all q)) a b ((w.alloc (.cells #[.int .u32 0, .int .u8 0, .int .i64 0] 40)).alloc (.cells #[.int .u32 0, .int .u8 0, .int .i64 0] 40)) zrun zrun p q) := by
    refine ⟨ha, hb, blk_old (blk_new rfl), blk_new (by simp), ⟨by decide, by decide, by decide⟩, ⟨by decide, by decide, by decide⟩, hp, hq, rfl, rfl, ((Below.refl _ _).alloc (Nat.le_refl _) _).alloc (by simp) _⟩
  obtain ⟨h0, hh0⟩ : ∃ h0, h0 = hold (all p) (all q) := ⟨_, rfl⟩
  obtain ⟨f0, hf0⟩ : ∃ f0, f0 = first (all p) (all q) := ⟨_, rfl⟩
  rw [← hh0, ← hf0] at P0 ⊢
  clear hh0 hf0 ha hb hp hq
  go_enter Tryz.func48, Tryz.ntmps48
  go_wp2
  refine wp_scope_label 0 (PartAt w h0 f0) (fun a' w' => cm w' w.heap.size + cm w' (w.heap.size + 1) + totV w (a'.tmps.getD 0 undef) + totV w (a'.tmps.getD 1 undef)) ?_ ?_
  · exact ⟨_, _, _, _, _, _, _, _, _, _, _, _, _, _, _, _, _, _, _, _, _, _, _, _, _, _, _, _, _, _, _, _, _, _, _, _, _, _, _, _, _, _, _, _, _, _, _, _, _, rfl, _, _, _, _, P0.out⟩
  · clear P0 p q a b
    rintro a' wr ⟨va, vb, u2, u3, u6, u7, u8, u9, u10, u11, u12, u13, u14, u15, u16, u17, u18, u19, u20, u21, u22, u23, u24, u25, u26, u27, u28, u29, u30, u31, u32, u33, u34, u35, u36, u37, u38, u39, u40, u41, u42, u43, u44, u45, u46, u47, u48, u49, u50, rfl, x, y, p, q, hPart⟩
    obtain ⟨ra, rb, kx, ky, bx, by', cx, cy, hh, hf, hbel⟩ := hPart
    obtain ⟨x1, p1, hnx⟩ : ∃ x1 p1, nx x p = (x1, p1) := ⟨_, _, rfl⟩
    obtain ⟨y1, q1, hny⟩ : ∃ y1 q1, nx y q = (y1, q1) := ⟨_, _, rfl⟩
    obtain ⟨ex, bx1, gx, dx⟩ := nx_ok bx cx
    obtain ⟨ey, by1, gy, dy⟩ := nx_ok by' cy
    rw [hnx] at ex bx1 gx dx
    rw [hny] at ey by1 gy dy
    simp only at ex bx1 gx dx ey by1 gy dy
    have KX := Lib.hid kx
    have KY := Lib.hid ky
    have HBel := Lib.hid hbel
    have hsz : w.heap.size + 2 ≤ wr.heap.size := by have := (Array.getElem?_eq_some_iff.1 ky).1; omega
    have hmea : cm wr w.heap.size + cm wr (w.heap.size + 1) + totV w va + totV w vb = wgt x1 p1 + wgt y1 q1 := by
      rw [cm_of kx, cm_of ky, totV_runs ra, totV_runs rb, gx, gy]
      unfold wgt; omega
    have HMea := Lib.hid hmea
    have NX : Hid (∀ W : World, Below w.heap.size w W → Calls Tryz.prog 88 #[.agg #[.int .u32 (x.t : Int), .int .u8 (x.r : Int), .int .i64 x.m], va] W fun e w' => ∃ v', e = .returned (.tuple #[.agg #[.int .u32 (x1.t : Int), .int .u8 (x1.r : Int), .int .i64 x1.m], v']) ∧ Runs w v' p1 ∧ Below W.heap.size W w') := fun W hW => by
      refine (orNext_any (x := x) (ra.keeps hW)).mono ?_
      rw [hnx]
      rintro e w' ⟨v', he, hr, hb⟩
      exact ⟨v', he, hr w ra, hb⟩
    have NY : Hid (∀ W : World, Below w.heap.size w W → Calls Tryz.prog 88 #[.agg #[.int .u32 (y.t : Int), .int .u8 (y.r : Int), .int .i64 y.m], vb] W fun e w' => ∃ v', e = .returned (.tuple #[.agg #[.int .u32 (y1.t : Int), .int .u8 (y1.r : Int), .int .i64 y1.m], v']) ∧ Runs w v' q1 ∧ Below W.heap.size W w') := fun W hW => by
      refine (orNext_any (x := y) (rb.keeps hW)).mono ?_
      rw [hny]
      rintro e w' ⟨v', he, hr, hb⟩
      exact ⟨v', he, hr w rb, hb⟩
    have HEnd := Lib.hid (And.intro (And.intro ex ey) (And.intro hh hf))
    have HC := Lib.hid (And.intro cx cy)
    have HD := Lib.hid (And.intro dx dy)
    have HB1 := Lib.hid (And.intro bx1 by1)
    clear hmea ra rb hnx hny ex ey gx gy hh hf cx cy dx dy bx by' bx1 by1 hbel
    obtain ⟨g0, g1, g2, g3, g4, g5⟩ := cells_blk3 kx
    clear kx ky
    obtain ⟨t1, r1, m1, ht1, hr1, hm1⟩ := x1
    obtain ⟨t2, r2, m2, ht2, hr2, hm2⟩ := y1
    simp only at NX NY
    obtain ⟨⟨o1, o2, o3⟩, ⟨o4, o5, o6⟩⟩ := HB1.out
    simp only at o1 o2 o3 o4 o5 o6
    obtain ⟨n, hn⟩ : ∃ n : Nat, n = (if m2 < m1 then m2 else m1).toNat := ⟨_, rfl⟩
    have hmin : (if m2 < m1 then m2 else m1) = (n : Int) := by split at hn <;> split <;> omega
    have hn1 : (n : Int) ≤ m1 ∧ (n : Int) ≤ m2 := by split at hn <;> omega
    have hn2 : n = 0 ↔ m1 = 0 ∨ m2 = 0 := by split at hn <;> omega
    have HN := Lib.hid (And.intro hn1 hn2)
    have CX := Lib.hid (fun W => pcut_any t1 r1 m1 n (by omega) ⟨o1, o2⟩ (by omega) W)
    have CY := Lib.hid (fun W => pcut_any t2 r2 m2 n (by omega) ⟨o4, o5⟩ (by omega) W)
    clear hn hn1 hn2
    go_wp2_with fail
    refine (NX.out _ HBel.out).mono ?_
    rintro e w1 ⟨v1, rfl, hr1w, b1⟩
    have R1 := Lib.hid hr1w
    have kx1 := blk_below b1 KX.out
    obtain ⟨k0, k1, k2, -⟩ := cells_blk3 (blk_below b1 KY.out)
    have KX1 := Lib.hid (put3_same (.int .u32 (t1 : Int)) (.int .u8 (r1 : Int)) (.int .i64 m1) kx1)
    have KY1 := Lib.hid (put3_other (.int .u32 (t1 : Int)) (.int .u8 (r1 : Int)) (.int .i64 m1) (show w.heap.size + 1 ≠ w.heap.size by omega) (blk_below b1 KY.out))
    have B1 := Lib.hid (put3_below (g := w.heap.size) (.int .u32 (t1 : Int)) (.int .u8 (r1 : Int)) (.int .i64 m1) (Nat.le_refl _) (HBel.out.trans (b1.mono HBel.out.size)))
    obtain ⟨W1, hW1⟩ : ∃ W1, W1 = put3 w1 w.heap.size (.int .u32 (t1 : Int)) (.int .u8 (r1 : Int)) (.int .i64 m1) := ⟨_, rfl⟩
    rw [← hW1] at KX1 KY1 B1
    unfold put3 at hW1
    have HW1 := Lib.hid hW1
    clear hr1w b1 hW1 g0 g1 g2 g3 g4 g5 KX KY HBel
    obtain ⟨g0, g1, g2, g3, g4, g5⟩ := cells_blk3 kx1
    clear kx1
    go_wp2_with fail
    rw [← HW1.out]
    clear g0 g1 g2 g3 g4 g5 HW1
    refine (NY.out _ B1.out).mono ?_
    rintro e w2 ⟨v2, rfl, hr2w, b2⟩
    have R2 := Lib.hid hr2w
    have ky2 := blk_below b2 KY1.out
    obtain ⟨k0, k1, k2, -⟩ := cells_blk3 (blk_below b2 KX1.out)
    have KX2 := Lib.hid (put3_other (.int .u32 (t2 : Int)) (.int .u8 (r2 : Int)) (.int .i64 m2) (show w.heap.size ≠ w.heap.size + 1 by omega) (blk_below b2 KX1.out))
    have KY2 := Lib.hid (put3_same (.int .u32 (t2 : Int)) (.int .u8 (r2 : Int)) (.int .i64 m2) ky2)
    have B2 := Lib.hid (put3_below (g := w.heap.size + 1) (.int .u32 (t2 : Int)) (.int .u8 (r2 : Int)) (.int .i64 m2) (Nat.le_succ _) (B1.out.trans (b2.mono B1.out.size)))
    obtain ⟨W2, hW2⟩ : ∃ W2, W2 = put3 w2 (w.heap.size + 1) (.int .u32 (t2 : Int)) (.int .u8 (r2 : Int)) (.int .i64 m2) := ⟨_, rfl⟩
    rw [← hW2] at KX2 KY2 B2
    unfold put3 at hW2
    have HW2 := Lib.hid hW2
    clear hr2w b2 hW2 KX1 KY1 B1
    obtain ⟨g0, g1, g2, g3, g4, g5⟩ := cells_blk3 ky2
    clear ky2
    go_wp2_with fail
    rw [← HW2.out]
    clear g0 g1 g2 g3 g4 g5 HW2 k0 k1 k2
    refine (CX.out _).mono ?_
    rintro e w3 ⟨rfl, b3⟩
    have KX3 := Lib.hid (blk_below b3 KX2.out)
    have KY3 := Lib.hid (blk_below b3 KY2.out)
    have B3 := Lib.hid (B2.out.trans (b3.mono B2.out.size))
    clear b3 KX2 KY2 B2
    have hsz3 : w.heap.size + 2 ≤ w3.heap.size := by have := (Array.getElem?_eq_some_iff.1 KY3.out).1; omega
    have i1 : ¬ w.heap.size + 1 = w3.heap.size := by omega
    have i2 : ¬ w.heap.size = w3.heap.size := by omega
    have i3 : ¬ w.heap.size = w3.heap.size + 1 := by omega
    have j1 : w.heap.size < w3.heap.size := by omega
    have j2 : w.heap.size + 1 < w3.heap.size := by omega
    have j3 : w.heap.size < w3.heap.size + 1 := by omega
    obtain ⟨k0, k1, k2, -⟩ := cells_blk3 KY3.out
    have BA := Lib.hid ((B3.out.alloc B3.out.size (.cells #[.int .u32 (t1 : Int), .int .u8 (r1 : Int), .int .i64 (n : Int)] 40)).alloc (Nat.le_trans B3.out.size (by simp)) (.cells #[.int .u32 ((t1 : Int) + (n : Int)), .int .u8 (r1 : Int), .int .i64 (m1 - (n : Int))] 40))
    go_wp2_with fail
    clear k0 k1 k2
    refine (CY.out _).mono ?_
    rintro e w4 ⟨rfl, b4⟩
    have KX4 := Lib.hid (blk_below b4 (blk_old (blk_old KX3.out)))
    have KY4 := Lib.hid (blk_below b4 (blk_old (blk_old KY3.out)))
    have KH4 := Lib.hid (blk_below b4 (blk_old (blk_new rfl)))
    have KR4 := Lib.hid (blk_below (g := w3.heap.size + 1) b4 (blk_new (by simp)))
    have B4 := Lib.hid (BA.out.trans (b4.mono BA.out.size))
    clear b4 BA B3 KX3 KY3
    have hsz4 : w3.heap.size + 2 ≤ w4.heap.size := by have := (Array.getElem?_eq_some_iff.1 KR4.out).1; omega
    have j4 : w.heap.size < w4.heap.size := by omega
    have j5 : w.heap.size + 1 < w4.heap.size := by omega
    have j6 : w.heap.size < w4.heap.size + 1 := by omega
    have j7 : w3.heap.size < w4.heap.size := by omega
    have j8 : w3.heap.size + 1 < w4.heap.size := by omega
    have j9 : w3.heap.size < w4.heap.size + 1 := by omega
    have i4 : ¬ w3.heap.size = w4.heap.size := by omega
    have i5 : ¬ w3.heap.size + 1 = w4.heap.size := by omega
    have i6 : ¬ w3.heap.size = w4.heap.size + 1 := by omega
    have i7 : ¬ w.heap.size = w4.heap.size := by omega
    have i8 : ¬ w.heap.size + 1 = w4.heap.size := by omega
    have i9 : ¬ w.heap.size = w4.heap.size + 1 := by omega
    obtain ⟨g0, g1, g2, -⟩ := cells_blk3 KH4.out
    obtain ⟨r0, r1', r2', -⟩ := cells_blk3 KR4.out
    obtain ⟨k0, k1, k2, k3, k4, k5⟩ := cells_blk3 KX4.out
    obtain ⟨l0, l1, l2, l3, l4, l5⟩ := cells_blk3 KY4.out
    clear CX CY hmin
    by_cases hn0 : n = 0
    · have HE : Hid (h0 = (ends ⟨t1, r1, m1, ht1, hr1, hm1⟩ ⟨t2, r2, m2, ht2, hr2, hm2⟩).1 ∧ f0 = (ends ⟨t1, r1, m1, ht1, hr1, hm1⟩ ⟨t2, r2, m2, ht2, hr2, hm2⟩).2) := by
        have h := ends_none (x1 := ⟨t1, r1, m1, ht1, hr1, hm1⟩) (y1 := ⟨t2, r2, m2, ht2, hr2, hm2⟩) HD.out.1 HD.out.2 (HN.out.2.1 hn0)
        rw [HEnd.out.2.1, HEnd.out.2.2] at h
        exact h
      clear HEnd HD HC HMea HN
      subst hn0
      obtain ⟨W5, hW5⟩ : ∃ W5, W5 = (((put3 (put3 w4 w.heap.size (.int .u32 (t1 : Int)) (.int .u8 (r1 : Int)) (.int .i64 m1)) (w.heap.size + 1) (.int .u32 (t2 : Int)) (.int .u8 (r2 : Int)) (.int .i64 m2)).alloc (.cells #[.int .u32 (t2 : Int), .int .u8 (r2 : Int), .int .i64 0] 40)).alloc (.cells #[.int .u32 (t2 : Int), .int .u8 (r2 : Int), .int .i64 m2] 40)).drew := ⟨_, rfl⟩
      have KX5 : W5.heap[w.heap.size]? = some (.cells #[.int .u32 (t1 : Int), .int .u8 (r1 : Int), .int .i64 m1] 40) := by
        rw [hW5]
        exact blk_drew (blk_old (blk_old (put3_other _ _ _ (show w.heap.size ≠ w.heap.size + 1 by omega) (put3_same _ _ _ KX4.out))))
      have KY5 : W5.heap[w.heap.size + 1]? = some (.cells #[.int .u32 (t2 : Int), .int .u8 (r2 : Int), .int .i64 m2] 40) := by
        rw [hW5]
        exact blk_drew (blk_old (blk_old (put3_same _ _ _ (put3_other _ _ _ (show w.heap.size + 1 ≠ w.heap.size by omega) KY4.out))))
      have B5 : Hid (Below w.heap.size w W5) := by
        rw [hW5]
        have hb := put3_below (g := w.heap.size + 1) (.int .u32 (t2 : Int)) (.int .u8 (r2 : Int)) (.int .i64 m2) (Nat.le_succ _) (put3_below (g := w.heap.size) (.int .u32 (t1 : Int)) (.int .u8 (r1 : Int)) (.int .i64 m1) (Nat.le_refl _) B4.out)
        exact ((hb.alloc hb.size _).alloc (Nat.le_trans hb.size (by simp)) _).drew
      unfold put3 at hW5
      have HW5 := Lib.hid hW5
      clear hW5
      go_wp2
      go_region
      rw [← HW5.out]
      obtain ⟨s0, s1, s2, -⟩ := cells_blk3 KX5
      obtain ⟨s3, s4, s5, -⟩ := cells_blk3 KY5
      clear HW5 KX5 KY5 k0 k1 k2 k3 k4 k5 l0 l1 l2 l3 l4 l5 g0 g1 g2 r0 r1' r2'
      go_wp2
      simp only [Exit.jump]
      refine bodyPost_ret (v := .tuple #[.agg #[.int .u32 (t1 : Int), .int .u8 (r1 : Int), .int .i64 m1], .agg #[.int .u32 (t2 : Int), .int .u8 (r2 : Int), .int .i64 m2]]) (by simp [results, Tryz.results48, go_sem, s0, s1, s2, s3, s4, s5]) rfl ⟨⟨t1, r1, m1, ht1, hr1, hm1⟩, ⟨t2, r2, m2, ht2, hr2, hm2⟩, rfl, HE.out.1, HE.out.2, B5.out⟩
    · have hox : One ⟨t1, r1, m1, ht1, hr1, hm1⟩ ∧ rst x p = ⟨t1, r1, m1, ht1, hr1, hm1⟩ :: p1 := by
        rcases HD.out.1 with h | h
        · exact absurd (HN.out.2.2 (.inl h.1)) hn0
        · exact h
      have hoy : One ⟨t2, r2, m2, ht2, hr2, hm2⟩ ∧ rst y q = ⟨t2, r2, m2, ht2, hr2, hm2⟩ :: q1 := by
        rcases HD.out.2 with h | h
        · exact absurd (HN.out.2.2 (.inr h.1)) hn0
        · exact h
      have hn1 : 1 ≤ n := by omega
      have n1 : decide (0 < n) = true := decide_eq_true (by omega)
      have n2 : decide ((0 : Int) < (n : Int)) = true := decide_eq_true (by omega)
      by_cases hxy : t1 = t2 ∧ r1 = r2
      · obtain ⟨rfl, rfl⟩ := hxy
        have HOX := Lib.hid hox
        have HOY := Lib.hid hoy
        clear hox hoy HD
        obtain ⟨W5, hW5⟩ : ∃ W5, W5 = (((put3 (put3 w4 w.heap.size (.int .u32 ((t1 : Int) + (n : Int))) (.int .u8 (r1 : Int)) (.int .i64 (m1 - (n : Int)))) (w.heap.size + 1) (.int .u32 ((t1 : Int) + (n : Int))) (.int .u8 (r1 : Int)) (.int .i64 (m2 - (n : Int)))).alloc (.cells #[.int .u32 (t1 : Int), .int .u8 (r1 : Int), .int .i64 (n : Int)] 40)).alloc (.cells #[.int .u32 ((t1 : Int) + (n : Int)), .int .u8 (r1 : Int), .int .i64 (m2 - (n : Int))] 40)).drew := ⟨_, rfl⟩
        have KX5 : W5.heap[w.heap.size]? = some (.cells #[.int .u32 ((t1 : Int) + (n : Int)), .int .u8 (r1 : Int), .int .i64 (m1 - (n : Int))] 40) := by
          rw [hW5]
          exact blk_drew (blk_old (blk_old (put3_other _ _ _ (show w.heap.size ≠ w.heap.size + 1 by omega) (put3_same _ _ _ KX4.out))))
        have KY5 : W5.heap[w.heap.size + 1]? = some (.cells #[.int .u32 ((t1 : Int) + (n : Int)), .int .u8 (r1 : Int), .int .i64 (m2 - (n : Int))] 40) := by
          rw [hW5]
          exact blk_drew (blk_old (blk_old (put3_same _ _ _ (put3_other _ _ _ (show w.heap.size + 1 ≠ w.heap.size by omega) KY4.out))))
        have B5 : Hid (Below w.heap.size w W5) := by
          rw [hW5]
          have hb := put3_below (g := w.heap.size + 1) (.int .u32 ((t1 : Int) + (n : Int))) (.int .u8 (r1 : Int)) (.int .i64 (m2 - (n : Int))) (Nat.le_succ _) (put3_below (g := w.heap.size) (.int .u32 ((t1 : Int) + (n : Int))) (.int .u8 (r1 : Int)) (.int .i64 (m1 - (n : Int))) (Nat.le_refl _) B4.out)
          exact ((hb.alloc hb.size _).alloc (Nat.le_trans hb.size (by simp)) _).drew
        have KX6 := Lib.hid KX5
        have KY6 := Lib.hid KY5
        unfold put3 at hW5
        have HW5 := Lib.hid hW5
        clear hW5 KX5 KY5
        go_wp2
        go_region
        rw [← HW5.out]
        go_wp2
        go_step3
        go_wp2
        have ax := aft_ok (p := p1) HOX.out.1 HN.out.1.1 hn1
        have ay := aft_ok (p := q1) HOY.out.1 HN.out.1.2 hn1
        have hpart : Part w h0 f0 v1 v2 W5 (aft ⟨t1, r1, m1, ht1, hr1, hm1⟩ n) (aft ⟨t1, r1, m2, ht2, hr2, hm2⟩ n) p1 q1 := by
          refine ⟨R1.out, R2.out, ?_, ?_, ax.2.1, ay.2.1, ?_, ?_, ?_, ?_, B5.out⟩
          · rw [ax.2.2.2.1, ax.2.2.2.2.1, ax.2.2.2.2.2]; exact KX6.out
          · rw [ay.2.2.2.1, ay.2.2.2.2.1, ay.2.2.2.2.2]; exact KY6.out
          · rw [ax.1]
            refine Chain.cut ?_ HN.out.1.1
            rw [← HOX.out.2]; exact HC.out.1
          · rw [ay.1]
            refine Chain.cut ?_ HN.out.1.2
            rw [← HOY.out.2]; exact HC.out.2
          · rw [ax.1, ay.1, ← hold_cut HOX.out.1 HOY.out.1 rfl rfl HN.out.1.1 HN.out.1.2, ← HOX.out.2, ← HOY.out.2]
            exact HEnd.out.2.1
          · rw [ax.1, ay.1, ← first_cut HOX.out.1 HOY.out.1 rfl rfl HN.out.1.1 HN.out.1.2, ← HOX.out.2, ← HOY.out.2]
            exact HEnd.out.2.2
        have hmu : cm W5 w.heap.size + cm W5 (w.heap.size + 1) + totV w v1 + totV w v2 < cm wr w.heap.size + cm wr (w.heap.size + 1) + totV w va + totV w vb := by
          rw [HMea.out, cm_of KX6.out, cm_of KY6.out, totV_runs R1.out, totV_runs R2.out]
          have e1 := ax.2.2.1
          have e2 := ay.2.2.1
          unfold wgt at e1 e2 ⊢
          rw [ax.2.2.2.2.2] at e1
          rw [ay.2.2.2.2.2] at e2
          simp only at e1 e2 ⊢
          omega
        exact ⟨rfl, ⟨_, _, _, _, _, _, _, _, _, _, _, _, _, _, _, _, _, _, _, _, _, _, _, _, _, _, _, _, _, _, _, _, _, _, _, _, _, _, _, _, _, _, _, _, _, _, _, _, _, rfl, _, _, _, _, hpart⟩, hmu⟩
      · have HE : Hid (h0 = (ends ⟨t1, r1, m1, ht1, hr1, hm1⟩ ⟨t2, r2, m2, ht2, hr2, hm2⟩).1 ∧ f0 = (ends ⟨t1, r1, m1, ht1, hr1, hm1⟩ ⟨t2, r2, m2, ht2, hr2, hm2⟩).2) := by
          have h := ends_some (p1 := p1) (q1 := q1) hox.1 hoy.1 hxy
          rw [← hox.2, ← hoy.2, HEnd.out.2.1, HEnd.out.2.2] at h
          exact h
        have hne : ¬ t1 = t2 ∨ (t1 = t2 ∧ ¬ r1 = r2) := by
          by_cases h : t1 = t2
          · exact .inr ⟨h, fun h2 => hxy ⟨h, h2⟩⟩
          · exact .inl h
        clear hxy HEnd HD HC HMea HN hox hoy hn0
        rcases hne with hne | ⟨rfl, hne⟩
        · skip
          obtain ⟨W5, hW5⟩ : ∃ W5, W5 = (((put3 (put3 w4 w.heap.size (.int .u32 (t1 : Int)) (.int .u8 (r1 : Int)) (.int .i64 m1)) (w.heap.size + 1) (.int .u32 (t2 : Int)) (.int .u8 (r2 : Int)) (.int .i64 m2)).alloc (.cells #[.int .u32 (t2 : Int), .int .u8 (r2 : Int), .int .i64 (n : Int)] 40)).alloc (.cells #[.int .u32 ((t2 : Int) + (n : Int)), .int .u8 (r2 : Int), .int .i64 (m2 - (n : Int))] 40)).drew := ⟨_, rfl⟩
          have KX5 : W5.heap[w.heap.size]? = some (.cells #[.int .u32 (t1 : Int), .int .u8 (r1 : Int), .int .i64 m1] 40) := by
            rw [hW5]
            exact blk_drew (blk_old (blk_old (put3_other _ _ _ (show w.heap.size ≠ w.heap.size + 1 by omega) (put3_same _ _ _ KX4.out))))
          have KY5 : W5.heap[w.heap.size + 1]? = some (.cells #[.int .u32 (t2 : Int), .int .u8 (r2 : Int), .int .i64 m2] 40) := by
            rw [hW5]
            exact blk_drew (blk_old (blk_old (put3_same _ _ _ (put3_other _ _ _ (show w.heap.size + 1 ≠ w.heap.size by omega) KY4.out))))
          have B5 : Hid (Below w.heap.size w W5) := by
            rw [hW5]
            have hb := put3_below (g := w.heap.size + 1) (.int .u32 (t2 : Int)) (.int .u8 (r2 : Int)) (.int .i64 m2) (Nat.le_succ _) (put3_below (g := w.heap.size) (.int .u32 (t1 : Int)) (.int .u8 (r1 : Int)) (.int .i64 m1) (Nat.le_refl _) B4.out)
            exact ((hb.alloc hb.size _).alloc (Nat.le_trans hb.size (by simp)) _).drew
          unfold put3 at hW5
          have HW5 := Lib.hid hW5
          clear hW5
          go_wp2
          go_region
          rw [← HW5.out]
          obtain ⟨s0, s1, s2, -⟩ := cells_blk3 KX5
          obtain ⟨s3, s4, s5, -⟩ := cells_blk3 KY5
          clear HW5 KX5 KY5 k0 k1 k2 k3 k4 k5 l0 l1 l2 l3 l4 l5 g0 g1 g2 r0 r1' r2'
          go_wp2
          simp only [Exit.jump]
          refine bodyPost_ret (v := .tuple #[.agg #[.int .u32 (t1 : Int), .int .u8 (r1 : Int), .int .i64 m1], .agg #[.int .u32 (t2 : Int), .int .u8 (r2 : Int), .int .i64 m2]]) (by simp [results, Tryz.results48, go_sem, s0, s1, s2, s3, s4, s5]) rfl ⟨⟨t1, r1, m1, ht1, hr1, hm1⟩, ⟨t2, r2, m2, ht2, hr2, hm2⟩, rfl, HE.out.1, HE.out.2, B5.out⟩
        · skip
          obtain ⟨W5, hW5⟩ : ∃ W5, W5 = (((put3 (put3 w4 w.heap.size (.int .u32 (t1 : Int)) (.int .u8 (r1 : Int)) (.int .i64 m1)) (w.heap.size + 1) (.int .u32 (t1 : Int)) (.int .u8 (r2 : Int)) (.int .i64 m2)).alloc (.cells #[.int .u32 (t1 : Int), .int .u8 (r2 : Int), .int .i64 (n : Int)] 40)).alloc (.cells #[.int .u32 ((t1 : Int) + (n : Int)), .int .u8 (r2 : Int), .int .i64 (m2 - (n : Int))] 40)).drew := ⟨_, rfl⟩
          have KX5 : W5.heap[w.heap.size]? = some (.cells #[.int .u32 (t1 : Int), .int .u8 (r1 : Int), .int .i64 m1] 40) := by
            rw [hW5]
            exact blk_drew (blk_old (blk_old (put3_other _ _ _ (show w.heap.size ≠ w.heap.size + 1 by omega) (put3_same _ _ _ KX4.out))))
          have KY5 : W5.heap[w.heap.size + 1]? = some (.cells #[.int .u32 (t1 : Int), .int .u8 (r2 : Int), .int .i64 m2] 40) := by
            rw [hW5]
            exact blk_drew (blk_old (blk_old (put3_same _ _ _ (put3_other _ _ _ (show w.heap.size + 1 ≠ w.heap.size by omega) KY4.out))))
          have B5 : Hid (Below w.heap.size w W5) := by
            rw [hW5]
            have hb := put3_below (g := w.heap.size + 1) (.int .u32 (t1 : Int)) (.int .u8 (r2 : Int)) (.int .i64 m2) (Nat.le_succ _) (put3_below (g := w.heap.size) (.int .u32 (t1 : Int)) (.int .u8 (r1 : Int)) (.int .i64 m1) (Nat.le_refl _) B4.out)
            exact ((hb.alloc hb.size _).alloc (Nat.le_trans hb.size (by simp)) _).drew
          unfold put3 at hW5
          have HW5 := Lib.hid hW5
          clear hW5
          go_wp2
          go_region
          rw [← HW5.out]
          obtain ⟨s0, s1, s2, -⟩ := cells_blk3 KX5
          obtain ⟨s3, s4, s5, -⟩ := cells_blk3 KY5
          clear HW5 KX5 KY5 k0 k1 k2 k3 k4 k5 l0 l1 l2 l3 l4 l5 g0 g1 g2 r0 r1' r2'
          go_wp2
          simp only [Exit.jump]
          refine bodyPost_ret (v := .tuple #[.agg #[.int .u32 (t1 : Int), .int .u8 (r1 : Int), .int .i64 m1], .agg #[.int .u32 (t1 : Int), .int .u8 (r2 : Int), .int .i64 m2]]) (by simp [results, Tryz.results48, go_sem, s0, s1, s2, s3, s4, s5]) rfl ⟨⟨t1, r1, m1, ht1, hr1, hm1⟩, ⟨t1, r2, m2, ht2, hr2, hm2⟩, rfl, HE.out.1, HE.out.2, B5.out⟩
end Go.Proofs.YtmiepnnpccpicaaGreat.Place

namespace Go.Proofs.YtmiepnnpccpicaaGreat.Place
open Go.RowKit Stamp
attribute [local go_sem ↓] Go.wp_at_zero Go.wp_at_succ
set_option maxHeartbeats 2000000 in
theorem pLast_any {v : Value} {l : List Run} {w : World} (hv : Runs w v l) :
    Calls Tryz.prog 73 #[v] w fun e w' => e = .returned (.agg #[.int .u32 (lastV l).1, .int .u8 (lastV l).2]) ∧ Below w.heap.size w w' := by
  have HV := Lib.hid hv
  have B0 : Hid (Below w.heap.size w (w.alloc (.cells #[.int .u32 0, .int .u8 0] 25))) := (Below.refl _ _).alloc (Nat.le_refl _) _
  cases hm : mayB l
  · have M : Hid (∀ W : World, Below w.heap.size w W → Calls Tryz.prog 24 #[v] W fun e w' => e = .returned (.int .i64 8) ∧ Below W.heap.size W w') := fun W hW => check_is (HV.out.keeps hW) (by unfold chk; rw [hm]; rfl)
    have hlv : lastV l = (0, 0) := by unfold lastV; rw [hm]; rfl
    rw [hlv]
    clear hv hm hlv
    go_enter Tryz.func73, Tryz.ntmps73
    go_wp2_with fail
    refine (M.out _ B0.out).mono ?_
    rintro e w1 ⟨rfl, b1⟩
    obtain ⟨c0, c1, c2, c3⟩ := two_cells b1
    have B1 := Lib.hid b1
    clear b1
    go_wp2
    refine bodyPost_ret (v := .agg #[.int .u32 0, .int .u8 0]) (by simp [results, Tryz.results73, go_sem, c0, c1]) rfl ⟨rfl, ?_⟩
    exact set2 B1.out
  · have hM := (mayB_iff l).1 hm
    have M : Hid (∀ W : World, Below w.heap.size w W → Calls Tryz.prog 24 #[v] W fun e w' => e = .returned (.int .i64 0) ∧ Below W.heap.size W w') := fun W hW => check_is (HV.out.keeps hW) (by unfold chk; rw [if_pos hm])
    obtain ⟨ao, cap, rfl⟩ := hv.shape
    obtain ⟨n, hn⟩ : ∃ n, n = l.length := ⟨_, rfl⟩
    have HV2 : Hid (Runs w (.slice ao n cap) l) := by rw [hn]; exact hv
    rw [← hn] at M ⊢
    obtain ⟨k, hk⟩ : ∃ k, l.length = k + 1 := ⟨l.length - 1, by have := hM.1; omega⟩
    have hkn : n = k + 1 := by omega
    have hn64 : n ≤ 64 := by have := hM.2.1; omega
    obtain ⟨x, hx⟩ : ∃ x, l.getD k zrun = x := ⟨_, rfl⟩
    have hone : One x := by rw [← hx]; exact chain_one hM.2.2.1 (by omega)
    have hlv : lastV l = ((x.t : Int) + (x.m - 1), (x.r : Int)) := by unfold lastV; rw [if_pos hm, hk, Nat.add_sub_cancel, hx]
    have AT : Hid (∀ W : World, Below w.heap.size w W → ∃ b off, ao = some ⟨b, off, none⟩ ∧ b < W.heap.size ∧ W.cell? ⟨b, off + k * 3, none⟩ = some (.int .u32 (x.t : Int)) ∧ W.cell? ⟨b, off + k * 3 + 1, none⟩ = some (.int .u8 (x.r : Int)) ∧ W.cell? ⟨b, off + k * 3 + 2, none⟩ = some (.int .i64 x.m)) := fun W hW => by
      have h := (HV2.out.keeps hW).at k (by omega)
      rwa [hx] at h
    obtain ⟨t, r, m, ht, hr, hmm⟩ := x
    simp only at hlv AT
    obtain ⟨z, hz⟩ : ∃ z : Nat, (z : Int) = (t : Int) + (m - 1) := ⟨((t : Int) + (m - 1)).toNat, by have := hone.2.2.2.1; simp only at this; omega⟩
    have LO := Lib.hid (fun W => lastOf_any t r m z hz ⟨hone.2.2.2.1, hone.2.2.2.2.1⟩ hone.2.1 W)
    rw [hlv, ← hz]
    have q2 : (0 : Int) ≤ (k : Int) := by omega
    have q3 : (k : Int) < (n : Int) := by omega
    have e1 : (n : Int) - 1 = (k : Int) := by omega
    have e2 : IntKind.i64.wrap (k : Int) = (k : Int) := IntWalk.i64_in _ (by omega)
    clear hv hn hm hlv hM hk hx hone hz hkn HV HV2
    go_enter Tryz.func73, Tryz.ntmps73
    go_wp2_with fail
    refine (M.out _ B0.out).mono ?_
    rintro e w1 ⟨rfl, b1⟩
    have B1 := Lib.hid b1
    obtain ⟨b, off, rfl, hb, hx0, hx1, hx2⟩ := AT.out _ (below_of3 b1)
    clear b1
    go_wp2_with fail
    refine (LO.out _).mono ?_
    rintro e w2 ⟨rfl, b2⟩
    have b3 := B1.out.trans (b2.mono B1.out.size)
    obtain ⟨c0, c1, c2, c3⟩ := two_cells b3
    have B3 := Lib.hid b3
    clear b2 b3 hx0 hx1 hx2
    go_wp2
    refine bodyPost_ret (v := .agg #[.int .u32 (z : Int), .int .u8 (r : Int)]) (by simp [results, Tryz.results73, go_sem, c0, c1]) rfl ⟨rfl, ?_⟩
    exact set2 B3.out
end Go.Proofs.YtmiepnnpccpicaaGreat.Place

namespace Go.Proofs.YtmiepnnpccpicaaGreat.Pt
open Go.RowKit
/-- A code point. -/
def IsPt (n : Int) : Prop := 0 ≤ n ∧ n ≤ 1114111 ∧ (n < 55296 ∨ 57343 < n)
instance (n : Int) : Decidable (IsPt n) := by unfold IsPt; infer_instance
theorem isPt_iff (n : Int) : IsPt n ↔ 0 ≤ n ∧ n ≤ 1114111 ∧ (n < 55296 ∨ 57343 < n) := Iff.rfl
def ck (n : Int) : Int := if IsPt n then 0 else 40
theorem check_any (n : Int) (w : World) : Calls Tryz.prog 77 #[.int .i64 n] w fun e w' => e = .returned (.int .i64 (ck n)) ∧ w = w' := by
  by_cases h1 : n < 0
  · have hc : ck n = 40 := by unfold ck; rw [if_neg (by rw [isPt_iff]; omega)]
    have q1 : decide (n < 0) = true := by simpa using h1
    rw [hc]
    clear hc
    go_enter Tryz.func77, Tryz.ntmps77
    go_wp2
    go_ret
    exact ⟨rfl, rfl⟩
  · have q1 : decide (n < 0) = false := by simpa using h1
    by_cases h2 : 1114111 < n
    · have hc : ck n = 40 := by unfold ck; rw [if_neg (by rw [isPt_iff]; omega)]
      have q2 : decide (1114111 < n) = true := by simpa using h2
      rw [hc]
      clear hc
      go_enter Tryz.func77, Tryz.ntmps77
      go_wp2
      go_ret
      exact ⟨rfl, rfl⟩
    · have q2 : decide (1114111 < n) = false := by simpa using h2
      by_cases h3 : 55296 ≤ n
      · have q3 : decide (55296 ≤ n) = true := by simpa using h3
        by_cases h4 : n ≤ 57343
        · have hc : ck n = 40 := by unfold ck; rw [if_neg (by rw [isPt_iff]; omega)]
          have q4 : decide (n ≤ 57343) = true := by simpa using h4
          rw [hc]
          clear hc
          go_enter Tryz.func77, Tryz.ntmps77
          go_wp2
          go_ret
          exact ⟨rfl, rfl⟩
        · have hc : ck n = 0 := by unfold ck; rw [if_pos (by rw [isPt_iff]; omega)]
          have q4 : decide (n ≤ 57343) = false := by simpa using h4
          rw [hc]
          clear hc
          go_enter Tryz.func77, Tryz.ntmps77
          go_wp2
          go_ret
          exact ⟨rfl, rfl⟩
      · have hc : ck n = 0 := by unfold ck; rw [if_pos (by rw [isPt_iff]; omega)]
        have q3 : decide (55296 ≤ n) = false := by simpa using h3
        rw [hc]
        clear hc
        go_enter Tryz.func77, Tryz.ntmps77
        go_wp2
        go_ret
        exact ⟨rfl, rfl⟩
def isB (n : Int) : Bool := decide (IsPt n)
end Go.Proofs.YtmiepnnpccpicaaGreat.Pt

namespace Go.Proofs.YtmiepnnpccpicaaGreat.Ops
open Go.RowKit Stamp Go.Proofs.YtmiepnnpccpicaaGreat.Place
attribute [local go_sem ↓] Go.wp_at_zero Go.wp_at_succ
/-- An operation, its place apart. -/
structure Opn where
  k : Nat
  t : Nat
  r : Nat
  pl : List Run
  p : Int
  hk : k < 256
  ht : t < 4294967296
  hr : r < 256
  hp : -9223372036854775808 ≤ p ∧ p ≤ 9223372036854775807
theorem Opn.ext' {a b : Opn} (h1 : a.k = b.k) (h2 : a.t = b.t) (h3 : a.r = b.r) (h4 : a.pl = b.pl) (h5 : a.p = b.p) : a = b := by
  obtain ⟨k, t, r, l, p, _, _, _, _⟩ := a; obtain ⟨k', t', r', l', p', _, _, _, _⟩ := b
  simp only at h1 h2 h3 h4 h5
  subst h1 h2 h3 h4 h5
  rfl
/-- Its value, where its place's is v. -/
def opv (o : Opn) (v : Value) : Value := .agg #[.int .u8 (o.k : Int), .int .u32 (o.t : Int), .int .u8 (o.r : Int), v, .int .i64 o.p]
/-- What its kind asks; lt, lr: the last stamp of its place. -/
def kindF (k t r : Nat) (lt lr p : Int) : Bool :=
  if k = 1 then decide ((lt, lr) = ((t : Int), (r : Int))) && Pt.isB p
  else if k = 2 then decide ((lt, lr) = ((t : Int), (r : Int))) && decide (p = 0)
  else if k = 3 ∨ k = 4 then decide (lt < (t : Int)) && decide (p = 0)
  else false
def kindB (o : Opn) : Bool := kindF o.k o.t o.r (lastV o.pl).1 (lastV o.pl).2 o.p
/-- May it be? -/
def mayO (o : Opn) : Bool := may o.t o.r && (mayB o.pl && kindB o)
def chkO (o : Opn) : Int := if mayO o = true then 0 else 8
theorem takes_any (B L : Nat) (t : Nat) (lt p : Int) {w : World} (h1 : w.cell? ⟨B, 1, none⟩ = some (.int .u32 (t : Int))) (h2 : w.cell? ⟨B, 4, none⟩ = some (.int .i64 p)) (h3 : w.cell? ⟨L, 0, none⟩ = some (.int .u32 lt)) :
    Calls Tryz.prog 74 #[.pointer (some ⟨B, 0, none⟩), .pointer (some ⟨L, 0, none⟩)] w fun e w' => e = .returned (.bool (decide (lt < (t : Int)) && decide (p = 0))) ∧ w = w' := by
  by_cases q : lt < (t : Int)
  · rw [decide_eq_true q, Bool.true_and]
    have q1 : decide (lt < (t : Int)) = true := decide_eq_true q
    obtain ⟨b, hb⟩ : ∃ b, decide (p = 0) = b := ⟨_, rfl⟩
    have q2 : (p == 0) = b := by rw [← hb]; simp [BEq.beq]
    rw [hb]
    clear hb q
    go_enter Tryz.func74, Tryz.ntmps74
    go_wp2
    go_ret
    exact ⟨rfl, rfl⟩
  · rw [decide_eq_false q, Bool.false_and]
    have q1 : decide (lt < (t : Int)) = false := decide_eq_false q
    go_enter Tryz.func74, Tryz.ntmps74
    go_wp2
    go_ret
    exact ⟨rfl, rfl⟩
theorem none_any (w : World) : Calls Tryz.prog 75 #[] w fun e w' => e = .returned (.bool false) ∧ w = w' := by
  go_enter Tryz.func75, Tryz.ntmps75
  go_wp2
  go_ret
  exact ⟨rfl, rfl⟩
theorem ins_any (B L : Nat) (t r : Nat) (lt lr p : Int) {w : World} (h0 : w.cell? ⟨B, 1, none⟩ = some (.int .u32 (t : Int))) (h1 : w.cell? ⟨B, 2, none⟩ = some (.int .u8 (r : Int))) (h2 : w.cell? ⟨B, 4, none⟩ = some (.int .i64 p)) (h3 : w.cell? ⟨L, 0, none⟩ = some (.int .u32 lt)) (h4 : w.cell? ⟨L, 1, none⟩ = some (.int .u8 lr)) :
    Calls Tryz.prog 76 #[.pointer (some ⟨B, 0, none⟩), .pointer (some ⟨L, 0, none⟩)] w fun e w' => e = .returned (.bool (decide ((lt, lr) = ((t : Int), (r : Int))) && Pt.isB p)) ∧ w = w' := by
  by_cases q : (lt, lr) = ((t : Int), (r : Int))
  · rw [decide_eq_true q, Bool.true_and]
    obtain ⟨rfl, rfl⟩ := Prod.mk.inj q
    have C : Hid (∀ W : World, Calls Tryz.prog 77 #[.int .i64 p] W fun e w' => e = .returned (.int .i64 (if Pt.isB p = true then 0 else 40)) ∧ W = w') := fun W => by
      have := Pt.check_any p W
      unfold Pt.ck at this
      by_cases h : Pt.IsPt p
      · rw [if_pos h] at this; rw [if_pos (show Pt.isB p = true from decide_eq_true h)]; exact this
      · rw [if_neg h] at this; rw [if_neg (by rw [show Pt.isB p = false from decide_eq_false h]; simp)]; exact this
    obtain ⟨b, hb⟩ : ∃ b, Pt.isB p = b := ⟨_, rfl⟩
    rw [hb] at C ⊢
    clear hb q
    cases b
    · simp only [Bool.false_eq_true, if_false] at C
      go_enter Tryz.func76, Tryz.ntmps76
      go_wp2_with fail
      refine (C.out _).mono ?_
      rintro e w' ⟨rfl, rfl⟩
      go_wp2
      go_ret
      exact ⟨rfl, rfl⟩
    · simp only [if_true] at C
      go_enter Tryz.func76, Tryz.ntmps76
      go_wp2_with fail
      refine (C.out _).mono ?_
      rintro e w' ⟨rfl, rfl⟩
      go_wp2
      go_ret
      exact ⟨rfl, rfl⟩
  · rw [decide_eq_false q, Bool.false_and]
    by_cases q1 : lt = (t : Int)
    · have q2 : ¬ lr = (r : Int) := fun h => q (by rw [q1, h])
      subst q1
      clear q
      have q3 : ((r : Int) == lr) = false := by simp; omega
      have q3' : ((lr : Int) == r) = false := by simp; omega
      have q4 : ¬ (r : Int) = lr := fun h => q2 h.symm
      go_enter Tryz.func76, Tryz.ntmps76
      go_wp2
      go_ret
      exact ⟨rfl, rfl⟩
    · have q3 : ((t : Int) == lt) = false := by simp; omega
      have q4 : ¬ (t : Int) = lt := fun h => q1 h.symm
      clear q
      go_enter Tryz.func76, Tryz.ntmps76
      go_wp2
      go_ret
      exact ⟨rfl, rfl⟩
theorem mark_any (B L : Nat) (t r : Nat) (lt lr p : Int) {w : World} (h0 : w.cell? ⟨B, 1, none⟩ = some (.int .u32 (t : Int))) (h1 : w.cell? ⟨B, 2, none⟩ = some (.int .u8 (r : Int))) (h2 : w.cell? ⟨B, 4, none⟩ = some (.int .i64 p)) (h3 : w.cell? ⟨L, 0, none⟩ = some (.int .u32 lt)) (h4 : w.cell? ⟨L, 1, none⟩ = some (.int .u8 lr)) :
    Calls Tryz.prog 78 #[.pointer (some ⟨B, 0, none⟩), .pointer (some ⟨L, 0, none⟩)] w fun e w' => e = .returned (.bool (decide ((lt, lr) = ((t : Int), (r : Int))) && decide (p = 0))) ∧ w = w' := by
  by_cases q : (lt, lr) = ((t : Int), (r : Int))
  · rw [decide_eq_true q, Bool.true_and]
    obtain ⟨rfl, rfl⟩ := Prod.mk.inj q
    obtain ⟨b, hb⟩ : ∃ b, decide (p = 0) = b := ⟨_, rfl⟩
    have q2 : (p == 0) = b := by rw [← hb]; simp [BEq.beq]
    rw [hb]
    clear hb q
    go_enter Tryz.func78, Tryz.ntmps78
    go_wp2
    go_ret
    exact ⟨rfl, rfl⟩
  · rw [decide_eq_false q, Bool.false_and]
    by_cases q1 : lt = (t : Int)
    · have q2 : ¬ lr = (r : Int) := fun h => q (by rw [q1, h])
      subst q1
      clear q
      have q3 : ((r : Int) == lr) = false := by simp; omega
      have q4 : ¬ (r : Int) = lr := fun h => q2 h.symm
      go_enter Tryz.func78, Tryz.ntmps78
      go_wp2
      go_ret
      exact ⟨rfl, rfl⟩
    · have q3 : ((t : Int) == lt) = false := by simp; omega
      have q4 : ¬ (t : Int) = lt := fun h => q1 h.symm
      clear q
      go_enter Tryz.func78, Tryz.ntmps78
      go_wp2
      go_ret
      exact ⟨rfl, rfl⟩
/-- A block of five cells, behind calls that write nothing that was there. -/
theorem five_cells {w w2 : World} {c0 c1 c2 c3 c4 : Value} {e : TypeId} (h : Below (w.alloc (.cells #[c0, c1, c2, c3, c4] e)).heap.size (w.alloc (.cells #[c0, c1, c2, c3, c4] e)) w2) :
    w2.cell? ⟨w.heap.size, 0, none⟩ = some c0 ∧ w2.cell? ⟨w.heap.size, 1, none⟩ = some c1 ∧ w2.cell? ⟨w.heap.size, 2, none⟩ = some c2 ∧ w2.cell? ⟨w.heap.size, 3, none⟩ = some c3 ∧ w2.cell? ⟨w.heap.size, 4, none⟩ = some c4 := by
  have hh : w2.heap[w.heap.size]? = some (.cells #[c0, c1, c2, c3, c4] e (0, 0)) := (h.block w.heap.size (by simp)).trans (heap_alloc_new w _)
  exact ⟨cell_of_row _ w.heap.size 0 _ e _ hh, cell_of_row _ w.heap.size 1 _ e _ hh, cell_of_row _ w.heap.size 2 _ e _ hh, cell_of_row _ w.heap.size 3 _ e _ hh, cell_of_row _ w.heap.size 4 _ e _ hh⟩
set_option maxHeartbeats 4000000 in
theorem oCheck_any {v : Value} {o : Opn} {w : World} (hv : Runs w v o.pl) :
    Calls Tryz.prog 38 #[opv o v] w fun e w' => e = .returned (.int .i64 (chkO o)) ∧ Below w.heap.size w w' := by
  obtain ⟨k, t, r, l, p, hk, ht, hr, hp⟩ := o
  unfold opv
  simp only at hv ⊢
  have B0 : Hid (Below w.heap.size w (w.alloc (.cells #[.int .u8 (k : Int), .int .u32 (t : Int), .int .u8 (r : Int), v, .int .i64 p] 47))) := (Below.refl _ _).alloc (Nat.le_refl _) _
  have HV := Lib.hid hv
  cases h1 : may t r
  · have hc : chkO ⟨k, t, r, l, p, hk, ht, hr, hp⟩ = 8 := by unfold chkO mayO; simp only [h1]; rfl
    rw [hc]
    have M := Lib.hid (fun W => check_no t r h1 W)
    clear hv hc h1
    go_enter Tryz.func38, Tryz.ntmps38
    go_wp2_with fail
    refine (M.out _).mono ?_
    rintro e w1 ⟨rfl, b1⟩
    have B1 := Lib.hid (bt B0.out b1)
    clear b1
    go_wp2
    go_ret
    exact ⟨rfl, B1.out⟩
  have M := Lib.hid (fun W => check_yes t r h1 W)
  cases h2 : mayB l
  · have hc : chkO ⟨k, t, r, l, p, hk, ht, hr, hp⟩ = 8 := by unfold chkO mayO; simp only [h1, h2]; rfl
    rw [hc]
    have M2 : Hid (∀ W : World, Below w.heap.size w W → Calls Tryz.prog 24 #[v] W fun e w' => e = .returned (.int .i64 8) ∧ Below W.heap.size W w') := fun W hW => check_is (HV.out.keeps hW) (by unfold Place.chk; rw [h2]; rfl)
    clear hv hc h1 h2
    go_enter Tryz.func38, Tryz.ntmps38
    go_wp2_with fail
    refine (M.out _).mono ?_
    rintro e w1 ⟨rfl, b1⟩
    obtain ⟨c0, c1, c2, c3, c4⟩ := five_cells b1
    have B1 := Lib.hid (bt B0.out b1)
    clear b1
    go_wp2_with fail
    refine (M2.out _ B1.out).mono ?_
    rintro e w2 ⟨rfl, b2⟩
    have B2 := Lib.hid (bt B1.out b2)
    clear b2 c0 c1 c2 c3 c4
    go_wp2
    go_ret
    exact ⟨rfl, B2.out⟩
  have hc : chkO ⟨k, t, r, l, p, hk, ht, hr, hp⟩ = if kindB ⟨k, t, r, l, p, hk, ht, hr, hp⟩ = true then 0 else 8 := by unfold chkO mayO; simp only [h1, h2, Bool.true_and]
  have M2 : Hid (∀ W : World, Below w.heap.size w W → Calls Tryz.prog 24 #[v] W fun e w' => e = .returned (.int .i64 0) ∧ Below W.heap.size W w') := fun W hW => check_is (HV.out.keeps hW) (by unfold Place.chk; rw [if_pos h2])
  have M3 : Hid (∀ W : World, Below w.heap.size w W → Calls Tryz.prog 73 #[v] W fun e w' => e = .returned (.agg #[.int .u32 (lastV l).1, .int .u8 (lastV l).2]) ∧ Below W.heap.size W w') := fun W hW => pLast_any (HV.out.keeps hW)
  rw [hc]
  rw [show kindB ⟨k, t, r, l, p, hk, ht, hr, hp⟩ = kindF k t r (lastV l).1 (lastV l).2 p from rfl]
  obtain ⟨lt, hlt⟩ : ∃ x, x = (lastV l).1 := ⟨_, rfl⟩
  obtain ⟨lr, hlr⟩ : ∃ x, x = (lastV l).2 := ⟨_, rfl⟩
  rw [← hlt, ← hlr] at M3 ⊢
  obtain ⟨b, hb⟩ : ∃ b, kindF k t r lt lr p = b := ⟨_, rfl⟩
  have HB := Lib.hid hb
  rw [hb]
  have q5 : k = 0 ∨ k = 1 ∨ k = 2 ∨ k = 3 ∨ k = 4 ∨ 5 ≤ k := by omega
  clear hv hc h1 h2 hlt hlr hb
  go_enter Tryz.func38, Tryz.ntmps38
  go_wp2_with fail
  refine (M.out _).mono ?_
  rintro e w1 ⟨rfl, b1⟩
  obtain ⟨c0, c1, c2, c3, c4⟩ := five_cells b1
  have B1 := Lib.hid (bt B0.out b1)
  have C1 := Lib.hid b1
  clear b1
  go_wp2_with fail
  refine (M2.out _ B1.out).mono ?_
  rintro e w2 ⟨rfl, b2⟩
  have B2 := Lib.hid (bt B1.out b2)
  have C2 := Lib.hid (bt C1.out b2)
  clear b2 c0 c1 c2 c3 c4
  obtain ⟨c0, c1, c2, c3, c4⟩ := five_cells C2.out
  go_wp2_with fail
  refine (M3.out _ B2.out).mono ?_
  rintro e w3 ⟨rfl, b3⟩
  have B3 := Lib.hid (bt B2.out b3)
  have C3 := Lib.hid (bt C2.out b3)
  clear b3 c0 c1 c2 c3 c4
  obtain ⟨c0, c1, c2, c3, c4⟩ := five_cells C3.out
  have z3 : w.heap.size < w3.heap.size := by have := C3.out.size; simp at this; omega
  have KC : Hid (∀ o : Obj, (((w3.alloc (.cells #[.int .u32 lt, .int .u8 lr] 25)).alloc o).cell? ⟨w.heap.size, 1, none⟩ = some (.int .u32 (t : Int)) ∧ ((w3.alloc (.cells #[.int .u32 lt, .int .u8 lr] 25)).alloc o).cell? ⟨w.heap.size, 2, none⟩ = some (.int .u8 (r : Int)) ∧ ((w3.alloc (.cells #[.int .u32 lt, .int .u8 lr] 25)).alloc o).cell? ⟨w.heap.size, 4, none⟩ = some (.int .i64 p)) ∧
      ((w3.alloc (.cells #[.int .u32 lt, .int .u8 lr] 25)).alloc o).cell? ⟨w3.heap.size, 0, none⟩ = some (.int .u32 lt) ∧ ((w3.alloc (.cells #[.int .u32 lt, .int .u8 lr] 25)).alloc o).cell? ⟨w3.heap.size, 1, none⟩ = some (.int .u8 lr)) := fun o => by
    have b2 : Below w3.heap.size w3 ((w3.alloc (.cells #[.int .u32 lt, .int .u8 lr] 25)).alloc o) := ((Below.refl _ _).alloc (Nat.le_refl _) _).alloc (by simp) _
    have pr := (pair_new w3 (.int .u32 lt) (.int .u8 lr) 25).alloc o
    exact ⟨⟨(b2.cell (p := ⟨w.heap.size, 1, none⟩) z3).trans c1, (b2.cell (p := ⟨w.heap.size, 2, none⟩) z3).trans c2, (b2.cell (p := ⟨w.heap.size, 4, none⟩) z3).trans c4⟩, pr.2.1, pr.2.2⟩
  have B4 : Hid (∀ o1 o2 : Obj, Below w.heap.size w ((w3.alloc o1).alloc o2)) := fun o1 o2 => (B3.out.alloc B3.out.size _).alloc (by have := B3.out.size; simp; omega) _
  have CT := Lib.hid (fun o => takes_any w.heap.size w3.heap.size t lt p (KC.out o).1.1 (KC.out o).1.2.2 (KC.out o).2.1)
  have CI := Lib.hid (fun o => ins_any w.heap.size w3.heap.size t r lt lr p (KC.out o).1.1 (KC.out o).1.2.1 (KC.out o).1.2.2 (KC.out o).2.1 (KC.out o).2.2)
  have CM := Lib.hid (fun o => mark_any w.heap.size w3.heap.size t r lt lr p (KC.out o).1.1 (KC.out o).1.2.1 (KC.out o).1.2.2 (KC.out o).2.1 (KC.out o).2.2)
  clear M M2 M3 HV C1 C2 C3 B0
  rcases q5 with rfl | rfl | rfl | rfl | rfl | q5
  · obtain rfl : false = b := HB.out
    go_wp2_with fail
    refine (none_any _).mono ?_
    rintro e w4 ⟨rfl, rfl⟩
    go_wp2
    go_ret
    exact ⟨rfl, B4.out _ _⟩
  · have hq : (decide ((lt, lr) = ((t : Int), (r : Int))) && Pt.isB p) = b := HB.out
    rw [hq] at CI
    clear CT CM hq HB
    cases b
    all_goals
      go_wp2_with fail
      refine (CI.out _).mono ?_
      rintro e w4 ⟨rfl, rfl⟩
      go_wp2
      go_ret
      exact ⟨rfl, B4.out _ _⟩
  · have hq : (decide ((lt, lr) = ((t : Int), (r : Int))) && decide (p = 0)) = b := HB.out
    rw [hq] at CM
    clear CT CI hq HB
    cases b
    all_goals
      go_wp2_with fail
      refine (CM.out _).mono ?_
      rintro e w4 ⟨rfl, rfl⟩
      go_wp2
      go_ret
      exact ⟨rfl, B4.out _ _⟩
  · have hq : (decide (lt < (t : Int)) && decide (p = 0)) = b := HB.out
    rw [hq] at CT
    clear CM CI hq HB
    cases b
    all_goals
      go_wp2_with fail
      refine (CT.out _).mono ?_
      rintro e w4 ⟨rfl, rfl⟩
      go_wp2
      go_ret
      exact ⟨rfl, B4.out _ _⟩
  · have hq : (decide (lt < (t : Int)) && decide (p = 0)) = b := HB.out
    rw [hq] at CT
    clear CM CI hq HB
    cases b
    all_goals
      go_wp2_with fail
      refine (CT.out _).mono ?_
      rintro e w4 ⟨rfl, rfl⟩
      go_wp2
      go_ret
      exact ⟨rfl, B4.out _ _⟩
  · obtain rfl : false = b := by rw [← HB.out]; unfold kindF; rw [if_neg (by omega), if_neg (by omega), if_neg (by omega)]
    have s1 : decide ((5 : Int) ≤ (k : Int)) = true := decide_eq_true (by omega)
    have s2 : decide (5 ≤ k) = true := decide_eq_true q5
    clear CT CM CI
    go_wp2
    go_ret
    exact ⟨rfl, B4.out _ _⟩
end Go.Proofs.YtmiepnnpccpicaaGreat.Ops

namespace Go.Proofs.YtmiepnnpccpicaaGreat
open Go.Joins Go.ChangeShapes Go.WideShapes Go.ChangeAt Go.RowKit Go.Deep Go.Proofs.YtmiepnnpccpicaaGreat.Ops
set_option maxRecDepth 100000 in
theorem kit_cellsOp : Tryz.prog.cellsOf 47 = 5 := by kernel_rfl
end Go.Proofs.YtmiepnnpccpicaaGreat

namespace Go.Proofs.YtmiepnnpccpicaaGreat
open Go.RowKit Go.WideShapes
/-- How elements of a kind lie in cells: how many cells, and what they hold in a world. -/
structure Enc (α : Type) where
  sz : Nat
  pos : 0 < sz
  inn : World → List Value → α → Prop
  len : ∀ {w : World} {cs : List Value} {a : α}, inn w cs a → cs.length = sz
  one : ∀ {w : World} {cs : List Value} {a : α}, inn w cs a → ∀ u ∈ cs, u.oneCell' = true
  keep : ∀ {w w' : World} {cs : List Value} {a : α}, Below w.heap.size w w' → inn w cs a → inn w' cs a
/-- Elements one behind the other. -/
def Enc.rows {α : Type} (E : Enc α) (w : World) : List Value → List α → Prop
  | cs, [] => cs = []
  | cs, a :: l => ∃ c d, cs = c ++ d ∧ E.inn w c a ∧ E.rows w d l
theorem Enc.rows_len {α : Type} {E : Enc α} {w : World} : ∀ {cs : List Value} {l : List α}, E.rows w cs l → cs.length = l.length * E.sz
  | cs, [], h => by rw [show cs = [] from h]; simp
  | cs, a :: l, ⟨c, d, h1, h2, h3⟩ => by
    rw [h1, List.length_append, E.len h2, Enc.rows_len h3, List.length_cons, Nat.succ_mul]
    omega
theorem Enc.rows_one {α : Type} {E : Enc α} {w : World} : ∀ {cs : List Value} {l : List α}, E.rows w cs l → ∀ u ∈ cs, u.oneCell' = true
  | cs, [], h, u, hu => by rw [show cs = [] from h] at hu; simp at hu
  | cs, a :: l, ⟨c, d, h1, h2, h3⟩, u, hu => by
    rw [h1, List.mem_append] at hu
    rcases hu with hu | hu
    · exact E.one h2 u hu
    · exact Enc.rows_one h3 u hu
theorem Enc.rows_keep {α : Type} {E : Enc α} {w w' : World} (hb : Below w.heap.size w w') : ∀ {cs : List Value} {l : List α}, E.rows w cs l → E.rows w' cs l
  | _, [], h => h
  | _, _ :: _, ⟨c, d, h1, h2, h3⟩ => ⟨c, d, h1, E.keep hb h2, Enc.rows_keep hb h3⟩
/-- The cells of one of them. -/
theorem Enc.rows_at {α : Type} {E : Enc α} {w : World} : ∀ {cs : List Value} {l : List α} (k : Nat) (hk : k < l.length), E.rows w cs l → ∃ c, E.inn w c (l[k]'hk) ∧ ∀ j, j < E.sz → cs[k * E.sz + j]? = c[j]?
  | cs, a :: l, 0, _, ⟨c, d, h1, h2, h3⟩ => ⟨c, h2, fun j hj => by rw [h1, Nat.zero_mul, Nat.zero_add, List.getElem?_append_left (by rw [E.len h2]; exact hj)]⟩
  | cs, a :: l, k + 1, hk, ⟨c, d, h1, h2, h3⟩ => by
    obtain ⟨e, h4, h5⟩ := Enc.rows_at k (by simpa using hk) h3
    refine ⟨e, by simpa using h4, fun j hj => ?_⟩
    rw [h1, List.getElem?_append_right (by rw [E.len h2, Nat.succ_mul]; omega), E.len h2, show (k + 1) * E.sz + j - E.sz = k * E.sz + j by rw [Nat.succ_mul]; omega]
    exact h5 j hj
/-- A slice of them. -/
def Seq {α : Type} (E : Enc α) (w : World) (v : Value) (l : List α) : Prop := ∃ cs, Sees w v E.sz l.length cs ∧ E.rows w cs l
theorem Seq.keeps {α : Type} {E : Enc α} {w w' : World} {v : Value} {l : List α} (h : Seq E w v l) (hb : Below w.heap.size w w') : Seq E w' v l := by
  obtain ⟨cs, h1, h2⟩ := h
  exact ⟨cs, h1.keeps hb, Enc.rows_keep hb h2⟩
theorem Seq.nil {α : Type} (E : Enc α) (w : World) : Seq E w (.slice none 0 0) [] := ⟨[], Sees.nil w E.sz, rfl⟩
theorem Seq.shape {α : Type} {E : Enc α} {w : World} {v : Value} {l : List α} (h : Seq E w v l) : ∃ ao cap, v = .slice ao l.length cap := by
  obtain ⟨cs, h1, _⟩ := h; exact h1.shape
theorem Seq.max {α : Type} {E : Enc α} {w : World} {v : Value} {l : List α} (h : Seq E w v l) : l.length ≤ 9223372036854775807 := by
  obtain ⟨cs, h1, _⟩ := h; exact Sees.max h1
theorem Seq.cap {α : Type} {E : Enc α} {w : World} {ao : Option Addr} {m cap : Nat} {l : List α} (h : Seq E w (.slice ao m cap) l) : m = l.length ∧ l.length ≤ cap ∧ cap ≤ 9223372036854775807 ∧ (ao = none → cap = 0) := by
  obtain ⟨cs, h1, _⟩ := h; exact h1.cap
/-- The cells of one of them, in memory. -/
theorem Seq.at {α : Type} {E : Enc α} {w : World} {ao : Option Addr} {m cap : Nat} {l : List α} (h : Seq E w (.slice ao m cap) l) (k : Nat) (hk : k < l.length) :
    ∃ b off c, ao = some ⟨b, off, none⟩ ∧ b < w.heap.size ∧ E.inn w c (l[k]'hk) ∧ ∀ j, j < E.sz → w.cell? ⟨b, off + k * E.sz + j, none⟩ = c[j]? := by
  obtain ⟨cs, h1, h2⟩ := h
  obtain ⟨c, h3, h4⟩ := Enc.rows_at k hk h2
  have hl := Enc.rows_len h2
  have hp := E.pos
  have hkl : k * E.sz + E.sz ≤ l.length * E.sz := by rw [← Nat.succ_mul]; exact Nat.mul_le_mul_right _ hk
  obtain ⟨b, off, e1, e2, e3⟩ := Sees.at h1 (k * E.sz) (by omega)
  refine ⟨b, off, c, e1, e2, h3, fun j hj => ?_⟩
  rw [show off + k * E.sz + j = off + (k * E.sz + j) by omega, e3 _ (by omega)]
  exact h4 j hj
end Go.Proofs.YtmiepnnpccpicaaGreat

namespace Go.Proofs.YtmiepnnpccpicaaGreat.Ops
open Go.RowKit Go.WideShapes
def opE : Enc Opn where
  sz := 5
  pos := by decide
  inn w cs o := ∃ v, cs = [.int .u8 (o.k : Int), .int .u32 (o.t : Int), .int .u8 (o.r : Int), v, .int .i64 o.p] ∧ Runs w v o.pl
  len := by rintro w cs o ⟨v, rfl, _⟩; rfl
  one := by
    rintro w cs o ⟨v, rfl, h⟩ u hu
    obtain ⟨ao, cap, rfl⟩ := h.shape
    simp only [List.mem_cons, List.not_mem_nil, or_false] at hu
    rcases hu with rfl | rfl | rfl | rfl | rfl <;> rfl
  keep := by rintro w w' cs o hb ⟨v, rfl, h⟩; exact ⟨v, rfl, h.keeps hb⟩
/-- A slice of operations. -/
abbrev OpL (w : World) (v : Value) (l : List Opn) : Prop := Seq opE w v l
/-- One of them, in memory. -/
theorem opl_at {w : World} {ao : Option Addr} {m cap : Nat} {l : List Opn} (h : OpL w (.slice ao m cap) l) (k : Nat) (hk : k < l.length) :
    ∃ b off v, ao = some ⟨b, off, none⟩ ∧ b < w.heap.size ∧ Runs w v (l[k]'hk).pl ∧ w.cell? ⟨b, off + k * 5, none⟩ = some (.int .u8 ((l[k]'hk).k : Int)) ∧ w.cell? ⟨b, off + k * 5 + 1, none⟩ = some (.int .u32 ((l[k]'hk).t : Int)) ∧ w.cell? ⟨b, off + k * 5 + 2, none⟩ = some (.int .u8 ((l[k]'hk).r : Int)) ∧
      w.cell? ⟨b, off + k * 5 + 3, none⟩ = some v ∧ w.cell? ⟨b, off + k * 5 + 4, none⟩ = some (.int .i64 (l[k]'hk).p) := by
  obtain ⟨b, off, c, h1, h2, ⟨v, rfl, h3⟩, h4⟩ := h.at k hk
  exact ⟨b, off, v, h1, h2, h3, h4 0 (by decide), h4 1 (by decide), h4 2 (by decide), h4 3 (by decide), h4 4 (by decide)⟩
end Go.Proofs.YtmiepnnpccpicaaGreat.Ops
