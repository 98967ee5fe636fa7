/- octavoref06.Held: what it answers. Conditions: the slices' cells are runs; they may stand one behind the other, at most 100 of them. -/
import Derived.Deep.DeepCutAuto
import Derived.IntWalk
import Derived.ScopeJumps
import Derived.Test.YtdackenaknieaaaGreatPt04
import Derived.Test.YtdackenaknieaaaGreatPt02

namespace Go.Proofs.YtdackenaknieaaaGreat.Place
open Go.RowKit Stamp
attribute [local go_sem ↓] Go.wp_at_zero Go.wp_at_succ

/-- How many stamps, as a natural number; and read out of the cells. -/
def nl : List Run → Nat
  | [] => 0
  | x :: p => x.m.toNat + nl p
def tot (w : World) (b off : Nat) : Nat → Nat
  | 0 => 0
  | k + 1 => tot w b off k + (match w.cell? ⟨b, off + k * 3 + 2, none⟩ with | some (.int _ m) => m.toNat | _ => 0)
def totV (w : World) : Value → Nat
  | .slice (some a) n _ => tot w a.block a.off n
  | _ => 0
theorem nl_append : ∀ p q : List Run, nl (p ++ q) = nl p + nl q
  | [], q => by simp [nl]
  | x :: p, q => by simp [nl, nl_append p q]; omega
theorem totV_runs {w : World} {v : Value} {l : List Run} (h : Runs w v l) : totV w v = nl l := by
  obtain ⟨ao, cap, rfl⟩ := h.shape
  cases ao with
  | none =>
    have hc := Sees.cap h
    have : l = [] := List.length_eq_zero_iff.1 (by have := hc.2.2.2 rfl; omega)
    subst this
    rfl
  | some a =>
    by_cases hl : l = []
    · subst hl; rfl
    · have hpos : 0 < l.length := by cases l with | nil => exact absurd rfl hl | cons x p => simp
      obtain ⟨b, off, he, _, _⟩ := h.at 0 hpos
      cases he
      have key : ∀ k, k ≤ l.length → tot w b off k = nl (l.take k) := by
        intro k
        induction k with
        | zero => intro _; rfl
        | succ k ih =>
          intro hk
          obtain ⟨b', off', he, _, _, _, h2⟩ := h.at k (by omega)
          cases he
          rw [tot, ih (by omega), h2, List.take_succ_eq_append_getElem (by omega), nl_append]
          simp [nl, List.getD, List.getElem?_eq_getElem (show k < l.length by omega)]
      show tot w b off l.length = nl l
      rw [key _ (Nat.le_refl _), List.take_length]
theorem nl_cut {x : Run} {p : List Run} {n : Nat} (h : One x) (hn : (n : Int) ≤ x.m) : nl (cut x p n) + n = nl (x :: p) := by
  obtain ⟨k, hk, h1, h2, h3, h4⟩ := h.nat
  unfold cut
  by_cases he : x.m = (n : Int)
  · rw [if_pos he, nl]; omega
  · rw [if_neg he, nl, nl, mkRun_m (by omega)]; omega
theorem cut_len {x : Run} {p : List Run} {n : Nat} : (cut x p n).length ≤ p.length + 1 := by
  unfold cut; split <;> simp

/-- What stands at the head of the loop of two places held against each other. -/
def Two (w : World) (h0 : Int) (f0 : Bool) (a b : Value) (wr : World) : Prop :=
  ∃ p q : List Run, Runs wr a p ∧ Runs wr b q ∧ Chain p ∧ Chain q ∧ p.length ≤ 100 ∧ q.length ≤ 100 ∧ hold (all p) (all q) = h0 ∧ first (all p) (all q) = f0 ∧ Below w.heap.size w wr

theorem keepA3 {wl w2 : World} {b off t r : Nat} {m : Int} (q : Pos3 wl b off t r m) (h : Below wl.heap.size wl w2) :
    Below wl.heap.size wl w2 ∧ w2.cell? ⟨b, off, none⟩ = some (.int .u32 (t : Int)) ∧ w2.cell? ⟨b, off + 1, none⟩ = some (.int .u8 (r : Int)) :=
  ⟨h, (h.cell (p := ⟨b, off, none⟩) q.1).trans q.2.1, (h.cell (p := ⟨b, off + 1, none⟩) q.1).trans q.2.2.1⟩
theorem keepM {wl w2 : World} {b1 o1 t1 r1 b2 o2 t2 r2 : Nat} {m1 m2 : Int} (q : Pos3 wl b1 o1 t1 r1 m1) (q2 : Pos3 wl b2 o2 t2 r2 m2) (h : Below wl.heap.size wl w2) :
    Below wl.heap.size wl w2 ∧ w2.cell? ⟨b1, o1 + 2, none⟩ = some (.int .i64 m1) ∧ w2.cell? ⟨b2, o2 + 2, none⟩ = some (.int .i64 m2) :=
  ⟨h, (h.cell (p := ⟨b1, o1 + 2, none⟩) q.1).trans q.2.2.2, (h.cell (p := ⟨b2, o2 + 2, none⟩) q2.1).trans q2.2.2.2⟩

set_option maxRecDepth 100000 in
set_option maxHeartbeats 4000000 in
theorem held_any {a b : Value} {p q : List Run} {w : World} (ha : Runs w a p) (hb : Runs w b q) (hp : Chain p) (hq : Chain q) (lp : p.length ≤ 100) (lq : q.length ≤ 100) :
    Calls Tryz.prog 114 #[a, b] w fun e w' => e = .returned (.int .i64 (hold (all p) (all q))) ∧ Below w.heap.size w w' := by
  obtain ⟨h0, hh0⟩ : ∃ h0, h0 = hold (all p) (all q) := ⟨_, rfl⟩
  have H0 : Hid (Two w h0 (first (all p) (all q)) a b w) := ⟨p, q, ha, hb, hp, hq, lp, lq, hh0.symm, rfl, Below.refl _ _⟩
  rw [← hh0]
  obtain ⟨f0, hf0⟩ : ∃ f0, f0 = first (all p) (all q) := ⟨_, rfl⟩
  rw [← hf0] at H0
  clear hh0 hf0 ha hb hp hq lp lq p q
  go_enter Tryz.func114, Tryz.ntmps114
  go_wp2
  go_loopw [0, 1] (fun a b wr => Hid (Two w h0 f0 a b wr)) (fun a b wr => totV wr a + totV wr b)
  case atStart => exact H0
  case round =>
    obtain ⟨p, q, ha, hb, hp, hq, lp, lq, hh, hf, hbel⟩ := hrel.out
    have HFst := Lib.hid hf
    clear hrel hf
    cases p with
    | nil =>
      obtain ⟨ao, ca, rfl⟩ := ha.shape
      obtain ⟨bo, cb, rfl⟩ := hb.shape
      have HB := Lib.hid hbel
      cases q with
      | nil =>
        have hz : h0 = 0 := by rw [← hh]; rfl
        subst hz
        clear ha hb hp hq hh hbel
        go_wp2
        go_ret
        exact ⟨rfl, HB.out⟩
      | cons y q =>
        have hz : h0 = -1 := by rw [← hh]; exact hold_left hq.head
        have hl : decide ((0 : Int) < ((y :: q).length : Int)) = true := decide_eq_true (by simp)
        obtain ⟨n2, hn2⟩ : ∃ n2, n2 = (y :: q).length := ⟨_, rfl⟩
        have hp2 : 0 < n2 := by rw [hn2]; simp
        have hl2 : decide (0 < n2) = true := decide_eq_true hp2
        rw [← hn2] at hl ⊢
        subst hz
        clear ha hb hp hq hh hbel hn2
        go_wp2
        go_ret
        exact ⟨rfl, HB.out⟩
    | cons x p =>
      obtain ⟨ao, ca, rfl⟩ := ha.shape
      obtain ⟨bo, cb, rfl⟩ := hb.shape
      obtain ⟨n1, hn1⟩ : ∃ n1, n1 = (x :: p).length := ⟨_, rfl⟩
      have hp1 : 0 < n1 := by rw [hn1]; simp
      have hl1 : decide (0 < n1) = true := decide_eq_true hp1
      have hl1' : (0 : Int) < (n1 : Int) := by omega
      cases q with
      | nil =>
        have HB := Lib.hid hbel
        have hz : h0 = 1 := by rw [← hh]; exact hold_right hp.head
        subst hz
        rw [← hn1]
        clear ha hb hp hq hh hbel hn1
        go_wp2
        go_ret
        exact ⟨rfl, HB.out⟩
      | cons y q =>
        obtain ⟨n2, hn2⟩ : ∃ n2, n2 = (y :: q).length := ⟨_, rfl⟩
        have hp2 : 0 < n2 := by rw [hn2]; simp
        have hl2 : decide (0 < n2) = true := decide_eq_true hp2
        have hl2' : (0 : Int) < (n2 : Int) := by omega
        obtain ⟨b1, o1, rfl, hb1, hx0, hx1, hx2⟩ := ha.at 0 (by simp)
        obtain ⟨b2, o2, rfl, hb2, hy0, hy1, hy2⟩ := hb.at 0 (by simp)
        have XA : Hid (Pos3 wr b1 o1 x.t x.r x.m) := ⟨hb1, by simpa using hx0, by simpa using hx1, by simpa using hx2⟩
        have XB : Hid (Pos3 wr b2 o2 y.t y.r y.m) := ⟨hb2, by simpa using hy0, by simpa using hy1, by simpa using hy2⟩
        have hlx : p.length ≤ 99 ∧ q.length ≤ 99 := by simp at lp lq; omega
        have HA := Lib.hid (show Runs wr (.slice (some ⟨b1, o1, none⟩) n1 ca) (x :: p) by rw [hn1]; exact ha)
        have HB := Lib.hid (show Runs wr (.slice (some ⟨b2, o2, none⟩) n2 cb) (y :: q) by rw [hn2]; exact hb)
        have HP := Lib.hid hp
        have HQ := Lib.hid hq
        have HH := Lib.hid hh
        have HBel := Lib.hid hbel
        have HN1 := Lib.hid hn1
        have HN2 := Lib.hid hn2
        rw [← hn1, ← hn2]
        clear ha hb hp hq hh hbel hn1 hn2 hx0 hx1 hx2 hy0 hy1 hy2 hb1 hb2
        have hbel := HBel
        obtain ⟨t1, r1, m1, ht1, hr1, hm1⟩ := x
        obtain ⟨t2, r2, m2, ht2, hr2, hm2⟩ := y
        simp only at XA XB
        have hsz := hbel.out.size
        obtain ⟨lb, hlb⟩ : ∃ lb, less t2 r2 t1 r1 = lb := ⟨_, rfl⟩
        have LS : Hid (∀ W : World, Calls Tryz.prog 112 #[.agg #[.int .u32 (t2 : Int), .int .u8 (r2 : Int)], .agg #[.int .u32 (t1 : Int), .int .u8 (r1 : Int)]] W fun e w' => e = .returned (.bool lb) ∧ Below W.heap.size W w') := fun W => by
          have := refLess_any t2 r2 t1 r1 W
          rwa [hlb] at this
        go_wp2_with fail
        go_region_held3 (fun w' => Below wr.heap.size wr w' ∧ w'.cell? ⟨b1, o1, none⟩ = some (.int .u32 (t1 : Int)) ∧ w'.cell? ⟨b1, o1 + 1, none⟩ = some (.int .u8 (r1 : Int)))
          (first | (go_split_ands; refine keepA3 XA.out ?_; repeat' (first | assumption | exact Below.refl _ _ | (with_reducible refine Below.drew ?_) | (with_reducible refine Below.alloc ?_ ?_ _) | exact Nat.le_refl _ | (show (_ : Nat) ≤ _; omega) | (show (_ : Nat) ≤ _; simp; done) | (show (_ : Nat) ≤ _; simp; omega))))
          (fail)
        go_wp2_with fail
        go_region_held3 (fun w' => Below wr.heap.size wr w' ∧ w'.cell? ⟨b2, o2, none⟩ = some (.int .u32 (t2 : Int)) ∧ w'.cell? ⟨b2, o2 + 1, none⟩ = some (.int .u8 (r2 : Int)))
          (first | (go_split_ands; refine keepA3 XB.out ?_; repeat' (first | assumption | exact Below.refl _ _ | (with_reducible refine Below.drew ?_) | (with_reducible refine Below.alloc ?_ ?_ _) | exact Nat.le_refl _ | (show (_ : Nat) ≤ _; omega) | (show (_ : Nat) ≤ _; simp; done) | (show (_ : Nat) ≤ _; simp; omega))))
          (fail)
        by_cases hxy : t1 = t2 ∧ r1 = r2
        · obtain ⟨rfl, rfl⟩ := hxy
          have hOX := HP.out.head
          have hOY := HQ.out.head
          obtain ⟨k1, j1, j2, j3, _, _⟩ := hOX.nat
          obtain ⟨k2, j4, j5, j6, _, _⟩ := hOY.nat
          simp only at j1 j4
          obtain ⟨n, hn⟩ : ∃ n, n = min k1 k2 := ⟨_, rfl⟩
          have hmin : (if m2 < m1 then m2 else m1) = (n : Int) := by split <;> omega
          have hle1 : (n : Int) ≤ m1 := by omega
          have hle2 : (n : Int) ≤ m2 := by omega
          have hn1 : 1 ≤ n := by omega
          have HOX := Lib.hid hOX
          have HOY := Lib.hid hOY
          have HLe := Lib.hid (And.intro hle1 hle2)
          clear hOX hOY j1 j2 j3 j4 j5 j6 hn hlb LS hle1 hle2
          go_wp2_with fail
          go_region_held3 (fun w' => Below wr.heap.size wr w' ∧ w'.cell? ⟨b1, o1 + 2, none⟩ = some (.int .i64 m1) ∧ w'.cell? ⟨b2, o2 + 2, none⟩ = some (.int .i64 m2))
            (first | (go_split_ands; refine keepM XA.out XB.out ?_; repeat' (first | assumption | exact Below.refl _ _ | (with_reducible refine Below.drew ?_) | (with_reducible refine Below.alloc ?_ ?_ _) | exact Nat.le_refl _ | (show (_ : Nat) ≤ _; omega) | (show (_ : Nat) ≤ _; simp; done) | (show (_ : Nat) ≤ _; simp; omega))))
            (fail)
          go_wp2_with fail
          refine (cut_any (n := n) (HA.out.keeps ?hc) ?hl HOX.out hn1 HLe.out.1).mono ?_
          case hc => repeat' (first | assumption | exact Below.refl _ _ | (with_reducible refine Below.drew ?_) | (with_reducible refine Below.alloc ?_ ?_ _) | exact Nat.le_refl _ | (show (_ : Nat) ≤ _; omega) | (show (_ : Nat) ≤ _; simp; done) | (show (_ : Nat) ≤ _; simp; omega))
          case hl => omega
          rintro e w5 ⟨v1, rfl, c1, b5⟩
          refine Go.Proofs.YtdackenaknieaaaGreat.hold (fun (B5 : Below wr.heap.size wr w5) => ?_) (below_next ?hc ?hd b5)
          case hc => repeat' (first | assumption | exact Below.refl _ _ | (with_reducible refine Below.drew ?_) | (with_reducible refine Below.alloc ?_ ?_ _) | exact Nat.le_refl _ | (show (_ : Nat) ≤ _; omega) | (show (_ : Nat) ≤ _; simp; done) | (show (_ : Nat) ≤ _; simp; omega))
          case hd => (refine Below.size (?_ : Below wr.heap.size wr _); repeat' (first | assumption | exact Below.refl _ _ | (with_reducible refine Below.drew ?_) | (with_reducible refine Below.alloc ?_ ?_ _) | exact Nat.le_refl _ | (show (_ : Nat) ≤ _; omega) | (show (_ : Nat) ≤ _; simp; done) | (show (_ : Nat) ≤ _; simp; omega)))
          have HB5 := Lib.hid (HB.out.keeps B5)
          have C1 := Lib.hid c1
          clear c1 b5
          go_wp2_with fail
          refine (cut_any (n := n) HB5.out ?hl HOY.out hn1 HLe.out.2).mono ?_
          case hl => omega
          rintro e w6 ⟨v2, rfl, c2, b6⟩
          have C2 := Lib.hid c2
          have C1' := Lib.hid (C1.out.keeps b6)
          have B6 := Lib.hid (bt B5 b6)
          clear c2 b6
          go_wp2
          go_roundw
          case rel =>
            refine Lib.hid ⟨_, _, C1'.out, C2.out, HP.out.cut HLe.out.1, HQ.out.cut HLe.out.2, ?_, ?_, ?_, ?_, bt hbel.out B6.out⟩
            · exact Nat.le_trans cut_len (by omega)
            · exact Nat.le_trans cut_len (by omega)
            · rw [← HH.out]; exact (hold_cut HOX.out HOY.out rfl rfl HLe.out.1 HLe.out.2).symm
            · rw [← HFst.out]; exact (first_cut HOX.out HOY.out rfl rfl HLe.out.1 HLe.out.2).symm
          case measure =>
            show totV _ v1 + totV _ v2 < totV wr _ + totV wr _
            rw [totV_runs C1'.out, totV_runs C2.out]
            have e1 := totV_runs HA.out
            have e2 := totV_runs HB.out
            have e3 := nl_cut (p := p) HOX.out HLe.out.1
            have e4 := nl_cut (p := q) HOY.out HLe.out.2
            have e5 : totV wr (.slice (some ⟨b1, o1, none⟩) n1 ca) + totV wr (.slice (some ⟨b2, o2, none⟩) n2 cb) = nl (⟨t1, r1, m1, ht1, hr1, hm1⟩ :: p) + nl (⟨t1, r1, m2, ht2, hr2, hm2⟩ :: q) := by rw [e1, e2]
            refine Nat.lt_of_lt_of_eq ?_ e5.symm
            omega
        · have hz : h0 = if lb = true then -1 else 1 := by
            rw [← HH.out, hold_part HP.out.head HQ.out.head hxy, hlb]
          have hne : ¬ t1 = t2 ∨ (t1 = t2 ∧ ¬ r1 = r2) := by
            by_cases h : t1 = t2
            · exact .inr ⟨h, fun h2 => hxy ⟨h, h2⟩⟩
            · exact .inl h
          clear hxy hlb
          cases lb
          · simp only [Bool.false_eq_true, if_false] at hz
            subst hz
            rcases hne with hne | ⟨rfl, hne⟩
            · go_wp2_with fail
              refine (LS.out _).mono ?_
              rintro e w5 ⟨rfl, b5⟩
              have B5 : Hid (Below w.heap.size w w5) := by
                show Below _ _ _
                refine hbel.out.trans (Below.mono (Below.trans ?hc (Below.mono b5 ?hd)) hbel.out.size)
                case hc => repeat' (first | assumption | exact Below.refl _ _ | (with_reducible refine Below.drew ?_) | (with_reducible refine Below.alloc ?_ ?_ _) | exact Nat.le_refl _ | (show (_ : Nat) ≤ _; omega) | (show (_ : Nat) ≤ _; simp; done) | (show (_ : Nat) ≤ _; simp; omega))
                case hd => simp; omega
              clear b5
              go_wp2
              go_ret
              exact ⟨rfl, B5.out⟩
            · go_wp2_with fail
              refine (LS.out _).mono ?_
              rintro e w5 ⟨rfl, b5⟩
              have B5 : Hid (Below w.heap.size w w5) := by
                show Below _ _ _
                refine hbel.out.trans (Below.mono (Below.trans ?hc (Below.mono b5 ?hd)) hbel.out.size)
                case hc => repeat' (first | assumption | exact Below.refl _ _ | (with_reducible refine Below.drew ?_) | (with_reducible refine Below.alloc ?_ ?_ _) | exact Nat.le_refl _ | (show (_ : Nat) ≤ _; omega) | (show (_ : Nat) ≤ _; simp; done) | (show (_ : Nat) ≤ _; simp; omega))
                case hd => simp; omega
              clear b5
              go_wp2
              go_ret
              exact ⟨rfl, B5.out⟩
          · simp only [if_true] at hz
            subst hz
            rcases hne with hne | ⟨rfl, hne⟩
            · go_wp2_with fail
              refine (LS.out _).mono ?_
              rintro e w5 ⟨rfl, b5⟩
              have B5 : Hid (Below w.heap.size w w5) := by
                show Below _ _ _
                refine hbel.out.trans (Below.mono (Below.trans ?hc (Below.mono b5 ?hd)) hbel.out.size)
                case hc => repeat' (first | assumption | exact Below.refl _ _ | (with_reducible refine Below.drew ?_) | (with_reducible refine Below.alloc ?_ ?_ _) | exact Nat.le_refl _ | (show (_ : Nat) ≤ _; omega) | (show (_ : Nat) ≤ _; simp; done) | (show (_ : Nat) ≤ _; simp; omega))
                case hd => simp; omega
              clear b5
              go_wp2
              go_ret
              exact ⟨rfl, B5.out⟩
            · go_wp2_with fail
              refine (LS.out _).mono ?_
              rintro e w5 ⟨rfl, b5⟩
              have B5 : Hid (Below w.heap.size w w5) := by
                show Below _ _ _
                refine hbel.out.trans (Below.mono (Below.trans ?hc (Below.mono b5 ?hd)) hbel.out.size)
                case hc => repeat' (first | assumption | exact Below.refl _ _ | (with_reducible refine Below.drew ?_) | (with_reducible refine Below.alloc ?_ ?_ _) | exact Nat.le_refl _ | (show (_ : Nat) ≤ _; omega) | (show (_ : Nat) ≤ _; simp; done) | (show (_ : Nat) ≤ _; simp; omega))
                case hd => simp; omega
              clear b5
              go_wp2
              go_ret
              exact ⟨rfl, B5.out⟩
end Go.Proofs.YtdackenaknieaaaGreat.Place

/- octavoref06.First, Compare, Begins: what each answers. Conditions: the slices' cells are runs; First: they may stand one behind the other, at most 100 of them. -/
namespace Go.Proofs.YtdackenaknieaaaGreat.Place
open Go.RowKit Stamp
attribute [local go_sem ↓] Go.wp_at_zero Go.wp_at_succ

theorem Any.len {p : List Run} (h : Any p) : p.length ≤ 64 := by
  rcases h with rfl | h
  · simp
  · exact h.2.1
def cmp (p q : List Run) : Int := if anyB p = true ∧ anyB q = true then hold (all p) (all q) else 0
end Go.Proofs.YtdackenaknieaaaGreat.Place

/- octavoref06.Final, Last, All, Ids: what each answers. Conditions: the slice's cells are runs. -/
namespace Go.Proofs.YtdackenaknieaaaGreat.Place
open Go.RowKit Stamp
attribute [local go_sem ↓] Go.wp_at_zero Go.wp_at_succ

set_option maxHeartbeats 1000000 in
theorem final_any {v : Value} {l : List Run} {w : World} {k : Nat} {x : Run} (hv : Runs w v l) (hk : l.length = k + 1) (hx : l.getD k zrun = x) (h1 : One x) (hl : l.length ≤ 1000) :
    Calls Tryz.prog 118 #[v] w fun e w' => e = .returned (.agg #[.int .u32 ((x.t : Int) + (x.m - 1)), .int .u8 (x.r : Int)]) ∧ Below w.heap.size w w' := by
  obtain ⟨ao, cap, rfl⟩ := hv.shape
  obtain ⟨b, off, rfl, hb, hx0, hx1, hx2⟩ := hv.at k (by omega)
  rw [hx] at hx0 hx1 hx2
  obtain ⟨n, hn⟩ : ∃ n, n = l.length := ⟨_, rfl⟩
  rw [← hn] at hk hl ⊢
  obtain ⟨t, r, m, ht, hr, hm⟩ := x
  unfold One at h1
  simp only at hx0 hx1 hx2 h1
  obtain ⟨o1, o2, o3, o4, o5, o6⟩ := h1
  have q2 : (0 : Int) ≤ (k : Int) := by omega
  have q3 : (k : Int) < (n : Int) := by omega
  have e1 : (n : Int) - 1 = (k : Int) := by omega
  have e2 : IntKind.i64.wrap (k : Int) = (k : Int) := IntWalk.i64_in _ (by omega)
  have e3 : IntKind.u32.wrap (m - 1) = m - 1 := by rw [IntKind.wrap_u32]; omega
  have e4 : IntKind.u32.wrap ((t : Int) + (m - 1)) = (t : Int) + (m - 1) := by rw [IntKind.wrap_u32]; omega
  have e5 : IntKind.i64.wrap (m - 1) = m - 1 := IntWalk.i64_in _ (by omega)
  have HB0 : Hid (b < w.heap.size) := hb
  have hne : ¬ b = w.heap.size := by omega
  clear hv hn hk hx
  go_enter Tryz.func118, Tryz.ntmps118
  go_wp2
  refine bodyPost_ret (v := .agg #[.int .u32 ((t : Int) + (m - 1)), .int .u8 (r : Int)]) (by simp [results, Tryz.results118, go_sem]) rfl ⟨rfl, ?_⟩
  exact ((Below.refl _ _).alloc (Nat.le_refl _) _).alloc (by simp) _

/-- The last stamp, or the zero one. -/
def lastV (l : List Run) : Int × Int := if mayB l = true then (((l.getD (l.length - 1) zrun).t : Int) + ((l.getD (l.length - 1) zrun).m - 1), ((l.getD (l.length - 1) zrun).r : Int)) else (0, 0)
theorem up_snoc (t r j : Nat) : up t r (j + 1) = up t r j ++ [mk (t + j) r] := by rw [up_add]; rfl
end Go.Proofs.YtdackenaknieaaaGreat.Place

/- octavoref06.Ids, SameIds, More: what each answers. Conditions: the slices' cells are runs (stamps). -/
namespace Go.Proofs.YtdackenaknieaaaGreat.Place
open Go.RowKit Stamp
attribute [local go_sem ↓] Go.wp_at_zero Go.wp_at_succ
attribute [local go_sem] yielded_undef

end Go.Proofs.YtdackenaknieaaaGreat.Place

/- octavo/place: cut, orNext: what each answers. Conditions: the numbers fit; the slice's cells are runs. -/
namespace Go.Proofs.YtdackenaknieaaaGreat.Place
open Go.RowKit Stamp
attribute [local go_sem ↓] Go.wp_at_zero Go.wp_at_succ

set_option maxHeartbeats 1000000 in
theorem pcut_any (t r : Nat) (m : Int) (n : Nat) (ht : t + n ≤ 1073750000) (hm : 0 ≤ m ∧ m ≤ 4096) (hn : n ≤ 4096) (w : World) :
    Calls Tryz.prog 125 #[.agg #[.int .u32 (t : Int), .int .u8 (r : Int), .int .i64 m], .int .i64 (n : Int)] w fun e w' => e = .returned (.tuple #[.agg #[.int .u32 (t : Int), .int .u8 (r : Int), .int .i64 (n : Int)], .agg #[.int .u32 ((t : Int) + (n : Int)), .int .u8 (r : Int), .int .i64 (m - n)]]) ∧ Below w.heap.size w w' := by
  have e1 : IntKind.u32.wrap ((t : Int) + (n : Int)) = (t : Int) + (n : Int) := by rw [IntKind.wrap_u32]; omega
  have e2 : IntKind.i64.wrap (m - (n : Int)) = m - (n : Int) := IntWalk.i64_in _ (by omega)
  have e3 : IntKind.u32.wrap (n : Int) = (n : Int) := by rw [IntKind.wrap_u32]; omega
  have e4 : (n : Int) ≤ 4096 := by omega
  obtain ⟨o1, o2⟩ := hm
  have BW := Lib.hid (((Below.refl w.heap.size w).alloc (Nat.le_refl _) (.cells #[.int .u32 (t : Int), .int .u8 (r : Int), .int .i64 m] 49)).alloc (by simp) (.cells #[.int .u32 0, .int .u8 0, .int .i64 0] 49))
  go_enter Tryz.func125, Tryz.ntmps125
  go_wp2
  go_region
  go_wp2
  refine bodyPost_ret (v := .tuple #[.agg #[.int .u32 (t : Int), .int .u8 (r : Int), .int .i64 (n : Int)], .agg #[.int .u32 ((t : Int) + (n : Int)), .int .u8 (r : Int), .int .i64 (m - n)]]) (by simp [results, Tryz.results125, go_sem]) rfl ⟨rfl, ?_⟩
  exact ((((Below.refl _ _).alloc (Nat.le_refl _) _).alloc (by simp) _).alloc (by simp; omega) _).drew

/-- The run to go on with, and the runs behind. -/
def nx (x : Run) : List Run → Run × List Run
  | [] => (x, [])
  | y :: q => if 0 < x.m then (x, y :: q) else (y, q)
set_option maxHeartbeats 1000000 in
theorem orNext_any {v : Value} {x : Run} {p : List Run} {w : World} (hv : Runs w v p) :
    Calls Tryz.prog 124 #[.agg #[.int .u32 (x.t : Int), .int .u8 (x.r : Int), .int .i64 x.m], v] w fun e w' => ∃ v', e = .returned (.tuple #[.agg #[.int .u32 ((nx x p).1.t : Int), .int .u8 ((nx x p).1.r : Int), .int .i64 (nx x p).1.m], v']) ∧ (∀ W : World, Runs W v p → Runs W v' (nx x p).2) ∧ Below w.heap.size w w' := by
  obtain ⟨ao, cap, rfl⟩ := hv.shape
  have HV := Lib.hid hv
  have B2 := Lib.hid (((Below.refl w.heap.size w).alloc (Nat.le_refl _) (.cells #[.int .u32 (x.t : Int), .int .u8 (x.r : Int), .int .i64 x.m] 49)).alloc (by simp) (.cells #[.int .u32 (x.t : Int), .int .u8 (x.r : Int), .int .i64 x.m] 49))
  by_cases hm : 0 < x.m
  · have e : nx x p = (x, p) := by cases p with | nil => rfl | cons y q => simp [nx, hm]
    rw [e]
    have t1 : decide (0 < x.m) = true := decide_eq_true hm
    obtain ⟨t, r, m, ht, hr, hmm⟩ := x
    simp only at t1 B2 ⊢
    clear e hm hv
    go_enter Tryz.func124, Tryz.ntmps124
    go_wp2
    refine bodyPost_ret (v := .tuple #[.agg #[.int .u32 (t : Int), .int .u8 (r : Int), .int .i64 m], .slice ao p.length cap]) (by simp [results, Tryz.results124, go_sem]) rfl ⟨_, rfl, fun W hW => hW, B2.out⟩
  · have t1 : decide (0 < x.m) = false := decide_eq_false hm
    cases p with
    | nil =>
      have e : nx x [] = (x, []) := rfl
      rw [e]
      obtain ⟨t, r, m, ht, hr, hmm⟩ := x
      simp only [List.length_nil] at t1 B2 HV ⊢
      clear e hm hv
      go_enter Tryz.func124, Tryz.ntmps124
      go_wp2
      refine bodyPost_ret (v := .tuple #[.agg #[.int .u32 (t : Int), .int .u8 (r : Int), .int .i64 m], .slice ao 0 cap]) (by simp [results, Tryz.results124, go_sem]) rfl ⟨_, rfl, fun W hW => hW, B2.out⟩
    | cons y q =>
      have e : nx x (y :: q) = (y, q) := by simp [nx, hm]
      rw [e]
      obtain ⟨b, off, rfl, hb, hx0, hx1, hx2⟩ := hv.at 0 (by simp)
      have hcap := Sees.cap hv
      have RT : Hid (∀ W : World, Runs W (.slice (some ⟨b, off, none⟩) (y :: q).length cap) (y :: q) → Runs W (.slice (some (if cap = 1 then ⟨b, off, none⟩ else ⟨b, off + 3, none⟩)) ((y :: q).length - 1) (cap - 1)) q) := fun W hW => Runs.rest hW
      obtain ⟨n, hn⟩ : ∃ n, n = (y :: q).length := ⟨_, rfl⟩
      rw [← hn] at hcap RT HV ⊢
      have hx0 : w.cell? ⟨b, off, none⟩ = some (.int .u32 (y.t : Int)) := by simpa using hx0
      have hx1 : w.cell? ⟨b, off + 1, none⟩ = some (.int .u8 (y.r : Int)) := by simpa using hx1
      have hx2 : w.cell? ⟨b, off + 2, none⟩ = some (.int .i64 y.m) := by simpa using hx2
      obtain ⟨t, r, m, ht, hr, hmm⟩ := x
      obtain ⟨yt, yr, ym, hyt, hyr, hym⟩ := y
      simp only at hx0 hx1 hx2 t1 ⊢
      have hl1 : 1 ≤ n := by rw [hn]; simp
      have q0 : 0 < n := hl1
      have q1 : (0 : Int) < (n : Int) := by omega
      have q2 : (1 : Int) ≤ (n : Int) := by omega
      have q3 : ((n : Int) == 0) = false := by simp; omega
      have q4 : ¬ n = 0 := by omega
      have hlc : n ≤ cap := hcap.2.1
      have hcm : cap ≤ 9223372036854775807 := hcap.2.2.1
      have hb1 : ¬ b = w.heap.size := by omega
      have hb2 : ¬ b = w.heap.size + 1 := by omega
      have BW := Lib.hid ((((Below.refl w.heap.size w).alloc (Nat.le_refl _) (.cells #[.int .u32 (t : Int), .int .u8 (r : Int), .int .i64 m] 49)).alloc (by simp) (.cells #[.int .u32 (yt : Int), .int .u8 (yr : Int), .int .i64 ym] 49)).drew)
      clear e hm hv hn hcap B2
      by_cases hc : cap = 1
      · subst hc
        obtain rfl : n = 1 := by omega
        go_enter Tryz.func124, Tryz.ntmps124
        go_wp2
        go_region
        go_wp2
        refine bodyPost_ret (v := .tuple #[.agg #[.int .u32 (yt : Int), .int .u8 (yr : Int), .int .i64 ym], .slice (some ⟨b, off, none⟩) 0 0]) (by simp [results, Tryz.results124, go_sem]) rfl ⟨_, rfl, fun W hW => ?_, BW.out⟩
        have h := RT.out W hW
        simp only [if_true] at h
        exact h
      · have hc' : (1 : Int) < (cap : Int) := by omega
        have RT2 : Hid (∀ W : World, Runs W (.slice (some ⟨b, off, none⟩) n cap) (⟨yt, yr, ym, hyt, hyr, hym⟩ :: q) → Runs W (.slice (some ⟨b, off + 3, none⟩) (n - 1) (cap - 1)) q) := fun W hW => by
          have := RT.out W hW
          rwa [if_neg hc] at this
        clear RT
        go_enter Tryz.func124, Tryz.ntmps124
        go_wp2
        go_region
        go_wp2
        refine bodyPost_ret (v := .tuple #[.agg #[.int .u32 (yt : Int), .int .u8 (yr : Int), .int .i64 ym], .slice (some ⟨b, off + 3, none⟩) (n - 1) (cap - 1)]) (by simp [results, Tryz.results124, go_sem]) rfl ⟨_, rfl, RT2.out, BW.out⟩
end Go.Proofs.YtdackenaknieaaaGreat.Place

/- octavo/place.apart: what it answers. Conditions: the slices' cells are runs that may stand one behind the other. -/
namespace Go.Proofs.YtdackenaknieaaaGreat.Place
open Go.RowKit Stamp
attribute [local go_sem ↓] Go.wp_at_zero Go.wp_at_succ

/-- A scope that begins with the label to which the run jumps back: what holds at every jump holds at the beginning, too. -/
theorem wp_scope_label {P : Program} {a : Act} {w : World} {Q : Exit → Act → World → Prop} {b : Code} (l : Nat) (J : Act → World → Prop) (μ : Act → World → Nat) (h0 : J a w)
    (pass : ∀ a w, J a w → b.wp P (Exit.jump l (fun a' w' => J a' w' ∧ μ a' w' < μ a w) Q) a w) : (Code.scope ((Code.label l).seq b)).wp P Q a w := by
  refine wp_scope_jumps (rest := .seq .skip b) l J μ (by simp [findLabel]) (wp_seq (wp_label ?_)) (fun a w hJ => wp_seq (wp_skip (pass a w hJ)))
  refine wp_mono (pass a w h0) ?_
  intro e a' w' h
  cases e with
  | goto l' => exact ⟨h.1, h.2.1⟩
  | _ => exact h

/-- The runs that are left: one that is begun, and those behind. -/
def rst (x : Run) (p : List Run) : List Run := if x.m = 0 then p else x :: p
/-- How many stamps are left. -/
def wgt (x : Run) (p : List Run) : Nat := x.m.toNat + nl p
/-- A run that is begun: not below nothing, and at most as far as times go. -/
def Begun (x : Run) : Prop := 0 ≤ x.m ∧ x.m ≤ 4096 ∧ x.t ≤ 1073741825
theorem nx_ok {x : Run} {p : List Run} (hx : Begun x) (hc : Chain (rst x p)) :
    rst (nx x p).1 (nx x p).2 = rst x p ∧ Begun (nx x p).1 ∧ wgt (nx x p).1 (nx x p).2 = wgt x p ∧ (((nx x p).1.m = 0 ∧ rst x p = [] ∧ (nx x p).2 = []) ∨ (One (nx x p).1 ∧ rst x p = (nx x p).1 :: (nx x p).2)) := by
  obtain ⟨h1, h2, h3⟩ := hx
  cases p with
  | nil =>
    by_cases hm : x.m = 0
    · exact ⟨rfl, ⟨h1, h2, h3⟩, rfl, .inl ⟨hm, by simp [rst, hm], rfl⟩⟩
    · have e : rst x [] = [x] := by simp [rst, hm]
      rw [e] at hc
      exact ⟨rfl, ⟨h1, h2, h3⟩, rfl, .inr ⟨hc.head, by simp [rst, hm, nx]⟩⟩
  | cons y q =>
    by_cases hm : 0 < x.m
    · have e : nx x (y :: q) = (x, y :: q) := by simp [nx, hm]
      have hm0 : ¬ x.m = 0 := by omega
      have e2 : rst x (y :: q) = x :: y :: q := by simp [rst, hm0]
      rw [e2] at hc
      rw [e]
      exact ⟨rfl, ⟨h1, h2, h3⟩, rfl, .inr ⟨hc.head, e2⟩⟩
    · have hm0 : x.m = 0 := by omega
      have e : nx x (y :: q) = (y, q) := by simp [nx, hm]
      have e2 : rst x (y :: q) = y :: q := by simp [rst, hm0]
      rw [e2] at hc
      have ho := hc.head
      have ho2 := ho
      obtain ⟨o1, o2, o3, o4, o5, o6⟩ := ho
      have e3 : rst y q = y :: q := by simp [rst, show ¬ y.m = 0 by omega]
      rw [e, e2]
      refine ⟨e3, ⟨by simp only; omega, o5, by simp only; omega⟩, ?_, .inr ⟨ho2, rfl⟩⟩
      simp only [wgt, nl]
      rw [hm0]
      simp
/-- What is left of a run, and the runs behind, where its first n stamps go. -/
def aft (x : Run) (n : Nat) : Run := mkRun (x.t + n) x.r (x.m - n)
theorem aft_ok {x : Run} {p : List Run} {n : Nat} (h : One x) (hn : (n : Int) ≤ x.m) (h1 : 1 ≤ n) :
    rst (aft x n) p = cut x p n ∧ Begun (aft x n) ∧ wgt (aft x n) p + n = wgt x p ∧ ((aft x n).t : Int) = (x.t : Int) + n ∧ (aft x n).r = x.r ∧ (aft x n).m = x.m - n := by
  have hr := x.hr
  obtain ⟨o1, o2, o3, o4, o5, o6⟩ := h
  have et : (aft x n).t = x.t + n := mkRun_t (by omega)
  have er : (aft x n).r = x.r := mkRun_r hr
  have em : (aft x n).m = x.m - n := mkRun_m (by omega)
  refine ⟨?_, ⟨by rw [em]; omega, by rw [em]; omega, by rw [et]; omega⟩, ?_, by rw [et]; omega, er, em⟩
  · unfold rst cut
    rw [em]
    by_cases he : x.m = (n : Int)
    · rw [if_pos (by omega), if_pos he]
    · rw [if_neg (by omega), if_neg he]; rfl
  · unfold wgt
    rw [em]
    omega
/-- What two parted runs tell. -/
def ends (x y : Run) : Int × Bool :=
  if x.m = 0 then (if y.m = 0 then (0, true) else (-1, true)) else if y.m = 0 then (1, false) else (if less y.t y.r x.t x.r = true then -1 else 1, false)
theorem ends_none {x1 y1 : Run} {p q p1 q1 : List Run} (hx : (x1.m = 0 ∧ p = [] ∧ p1 = []) ∨ (One x1 ∧ p = x1 :: p1)) (hy : (y1.m = 0 ∧ q = [] ∧ q1 = []) ∨ (One y1 ∧ q = y1 :: q1)) (h0 : x1.m = 0 ∨ y1.m = 0) :
    hold (all p) (all q) = (ends x1 y1).1 ∧ first (all p) (all q) = (ends x1 y1).2 := by
  unfold ends
  rcases hx with ⟨hx, rfl, _⟩ | ⟨hx, rfl⟩
  · rw [if_pos hx]
    rcases hy with ⟨hy, rfl, _⟩ | ⟨hy, rfl⟩
    · rw [if_pos hy]; exact ⟨rfl, rfl⟩
    · rw [if_neg (by have := hy.2.2.2.1; omega)]
      exact ⟨hold_left hy, rfl⟩
  · rw [if_neg (by have := hx.2.2.2.1; omega)]
    rcases hy with ⟨hy, rfl, _⟩ | ⟨hy, rfl⟩
    · rw [if_pos hy]
      exact ⟨hold_right hx, first_right hx⟩
    · have := hx.2.2.2.1; have := hy.2.2.2.1; omega
theorem ends_some {x1 y1 : Run} {p1 q1 : List Run} (hx : One x1) (hy : One y1) (h : ¬ (x1.t = y1.t ∧ x1.r = y1.r)) :
    hold (all (x1 :: p1)) (all (y1 :: q1)) = (ends x1 y1).1 ∧ first (all (x1 :: p1)) (all (y1 :: q1)) = (ends x1 y1).2 := by
  unfold ends
  rw [if_neg (by have := hx.2.2.2.1; omega), if_neg (by have := hy.2.2.2.1; omega)]
  exact ⟨hold_part hx hy h, first_part hx hy h⟩

/-- The third cell of a block, a number. -/
def cm (w : World) (g : Nat) : Nat := match w.cell? ⟨g, 2, none⟩ with | some (.int _ m) => m.toNat | _ => 0
theorem cells_blk3 {X : World} {g : Nat} {c0 c1 c2 : Value} {e : TypeId} (h : X.heap[g]? = some (.cells #[c0, c1, c2] e)) :
    X.cell? ⟨g, 0, none⟩ = some c0 ∧ X.cell? ⟨g, 1, none⟩ = some c1 ∧ X.cell? ⟨g, 2, none⟩ = some c2 ∧ X.frozen? ⟨g, 0, none⟩ = false ∧ X.frozen? ⟨g, 1, none⟩ = false ∧ X.frozen? ⟨g, 2, none⟩ = false :=
  ⟨cell_of_row _ g 0 #[c0, c1, c2] e _ h, cell_of_row _ g 1 #[c0, c1, c2] e _ h, cell_of_row _ g 2 #[c0, c1, c2] e _ h, by simp [World.frozen?, h], by simp [World.frozen?, h], by simp [World.frozen?, h]⟩
theorem cm_of {X : World} {g : Nat} {c0 c1 : Value} {m : Int} {e : TypeId} (h : X.heap[g]? = some (.cells #[c0, c1, .int .i64 m] e)) : cm X g = m.toNat := by
  unfold cm; rw [(cells_blk3 h).2.2.1]
/-- Three cells of a block stored. -/
def put3 (X : World) (g : Nat) (d0 d1 d2 : Value) : World := ((X.setCell ⟨g, 0, none⟩ d0).setCell ⟨g, 1, none⟩ d1).setCell ⟨g, 2, none⟩ d2
theorem put3_same {X : World} {g : Nat} {c0 c1 c2 : Value} (d0 d1 d2 : Value) {e : TypeId} (h : X.heap[g]? = some (.cells #[c0, c1, c2] e)) : (put3 X g d0 d1 d2).heap[g]? = some (.cells #[d0, d1, d2] e) := by
  have h0 := heap_setCell_same X g 0 _ _ d0 h
  have h1 := heap_setCell_same _ g 1 _ _ d1 h0
  have h2 := heap_setCell_same _ g 2 _ _ d2 h1
  exact h2
theorem put3_other {X : World} {g k : Nat} (d0 d1 d2 : Value) {o : Obj} (hk : k ≠ g) (h : X.heap[k]? = some o) : (put3 X g d0 d1 d2).heap[k]? = some o := by
  unfold put3
  rw [heap_setCell_other _ _ _ _ hk, heap_setCell_other _ _ _ _ hk, heap_setCell_other _ _ _ _ hk]
  exact h
theorem put3_below {B g : Nat} {W X : World} (d0 d1 d2 : Value) (hg : B ≤ g) (h : Below B W X) : Below B W (put3 X g d0 d1 d2) :=
  ((h.setCell (p := ⟨g, 0, none⟩) hg _).setCell (p := ⟨g, 1, none⟩) hg _).setCell (p := ⟨g, 2, none⟩) hg _

/-- What holds at the label. -/
def Part (w : World) (h0 : Int) (f0 : Bool) (va vb : Value) (wr : World) (x y : Run) (p q : List Run) : Prop :=
  Runs w va p ∧ Runs w vb q ∧ wr.heap[w.heap.size]? = some (.cells #[.int .u32 (x.t : Int), .int .u8 (x.r : Int), .int .i64 x.m] 49) ∧ wr.heap[w.heap.size + 1]? = some (.cells #[.int .u32 (y.t : Int), .int .u8 (y.r : Int), .int .i64 y.m] 49) ∧
    Begun x ∧ Begun y ∧ Chain (rst x p) ∧ Chain (rst y q) ∧ hold (all (rst x p)) (all (rst y q)) = h0 ∧ first (all (rst x p)) (all (rst y q)) = f0 ∧ Below w.heap.size w wr
def PartAt (w : World) (h0 : Int) (f0 : Bool) (a' : Act) (wr : World) : Prop :=
  ∃ (va vb : Value) (u2 u3 u6 u7 u8 u9 u10 u11 u12 u13 u14 u15 u16 u17 u18 u19 u20 u21 u22 u23 u24 u25 u26 u27 u28 u29 u30 u31 u32 u33 u34 u35 u36 u37 u38 u39 u40 u41 u42 u43 u44 u45 u46 u47 u48 u49 u50 : Value), a' = { tmps := #[va, vb, u2, u3, .pointer (some ⟨w.heap.size, 0, none⟩), .pointer (some ⟨w.heap.size + 1, 0, none⟩), u6, u7, u8, u9, u10, u11, u12, u13, u14, u15, u16, u17, u18, u19, u20, u21, u22, u23, u24, u25, u26, u27, u28, u29, u30, u31, u32, u33, u34, u35, u36, u37, u38, u39, u40, u41, u42, u43, u44, u45, u46, u47, u48, u49, u50], defers := [] } ∧ ∃ x y p q, Part w h0 f0 va vb wr x y p q
/-- What two places parted tell. -/
def Parted (h0 : Int) (f0 : Bool) (w : World) (e : Ending) (w' : World) : Prop :=
  ∃ x y : Run, e = .returned (.tuple #[.agg #[.int .u32 (x.t : Int), .int .u8 (x.r : Int), .int .i64 x.m], .agg #[.int .u32 (y.t : Int), .int .u8 (y.r : Int), .int .i64 y.m]]) ∧ h0 = (ends x y).1 ∧ f0 = (ends x y).2 ∧ Below w.heap.size w w'

set_option maxRecDepth 100000 in
set_option maxHeartbeats 8000000 in
theorem apart_any {a b : Value} {p q : List Run} {w : World} (ha : Runs w a p) (hb : Runs w b q) (hp : Chain p) (hq : Chain q) :
    Calls Tryz.prog 95 #[a, b] w (Parted (hold (all p) (all q)) (first (all p) (all q)) w) := by
  have P0 : Hid (Part w (hold (all p) (all q)) (first (all p) (all q)) a b ((w.alloc (.cells #[.int .u32 0, .int .u8 0, .int .i64 0] 49)).alloc (.cells #[.int .u32 0, .int .u8 0, .int .i64 0] 49)) zrun zrun p q) := by
    refine ⟨ha, hb, blk_old (blk_new rfl), blk_new (by simp), ⟨by decide, by decide, by decide⟩, ⟨by decide, by decide, by decide⟩, hp, hq, rfl, rfl, ((Below.refl _ _).alloc (Nat.le_refl _) _).alloc (by simp) _⟩
  obtain ⟨h0, hh0⟩ : ∃ h0, h0 = hold (all p) (all q) := ⟨_, rfl⟩
  obtain ⟨f0, hf0⟩ : ∃ f0, f0 = first (all p) (all q) := ⟨_, rfl⟩
  rw [← hh0, ← hf0] at P0 ⊢
  clear hh0 hf0 ha hb hp hq
  go_enter Tryz.func95, Tryz.ntmps95
  go_wp2
  refine wp_scope_label 0 (PartAt w h0 f0) (fun a' w' => cm w' w.heap.size + cm w' (w.heap.size + 1) + totV w (a'.tmps.getD 0 undef) + totV w (a'.tmps.getD 1 undef)) ?_ ?_
  · exact ⟨_, _, _, _, _, _, _, _, _, _, _, _, _, _, _, _, _, _, _, _, _, _, _, _, _, _, _, _, _, _, _, _, _, _, _, _, _, _, _, _, _, _, _, _, _, _, _, _, _, rfl, _, _, _, _, P0.out⟩
  · clear P0 p q a b
    rintro a' wr ⟨va, vb, u2, u3, u6, u7, u8, u9, u10, u11, u12, u13, u14, u15, u16, u17, u18, u19, u20, u21, u22, u23, u24, u25, u26, u27, u28, u29, u30, u31, u32, u33, u34, u35, u36, u37, u38, u39, u40, u41, u42, u43, u44, u45, u46, u47, u48, u49, u50, rfl, x, y, p, q, hPart⟩
    obtain ⟨ra, rb, kx, ky, bx, by', cx, cy, hh, hf, hbel⟩ := hPart
    obtain ⟨x1, p1, hnx⟩ : ∃ x1 p1, nx x p = (x1, p1) := ⟨_, _, rfl⟩
    obtain ⟨y1, q1, hny⟩ : ∃ y1 q1, nx y q = (y1, q1) := ⟨_, _, rfl⟩
    obtain ⟨ex, bx1, gx, dx⟩ := nx_ok bx cx
    obtain ⟨ey, by1, gy, dy⟩ := nx_ok by' cy
    rw [hnx] at ex bx1 gx dx
    rw [hny] at ey by1 gy dy
    simp only at ex bx1 gx dx ey by1 gy dy
    have KX := Lib.hid kx
    have KY := Lib.hid ky
    have HBel := Lib.hid hbel
    have hsz : w.heap.size + 2 ≤ wr.heap.size := by have := (Array.getElem?_eq_some_iff.1 ky).1; omega
    have hmea : cm wr w.heap.size + cm wr (w.heap.size + 1) + totV w va + totV w vb = wgt x1 p1 + wgt y1 q1 := by
      rw [cm_of kx, cm_of ky, totV_runs ra, totV_runs rb, gx, gy]
      unfold wgt; omega
    have HMea := Lib.hid hmea
    have NX : Hid (∀ W : World, Below w.heap.size w W → Calls Tryz.prog 124 #[.agg #[.int .u32 (x.t : Int), .int .u8 (x.r : Int), .int .i64 x.m], va] W fun e w' => ∃ v', e = .returned (.tuple #[.agg #[.int .u32 (x1.t : Int), .int .u8 (x1.r : Int), .int .i64 x1.m], v']) ∧ Runs w v' p1 ∧ Below W.heap.size W w') := fun W hW => by
      refine (orNext_any (x := x) (ra.keeps hW)).mono ?_
      rw [hnx]
      rintro e w' ⟨v', he, hr, hb⟩
      exact ⟨v', he, hr w ra, hb⟩
    have NY : Hid (∀ W : World, Below w.heap.size w W → Calls Tryz.prog 124 #[.agg #[.int .u32 (y.t : Int), .int .u8 (y.r : Int), .int .i64 y.m], vb] W fun e w' => ∃ v', e = .returned (.tuple #[.agg #[.int .u32 (y1.t : Int), .int .u8 (y1.r : Int), .int .i64 y1.m], v']) ∧ Runs w v' q1 ∧ Below W.heap.size W w') := fun W hW => by
      refine (orNext_any (x := y) (rb.keeps hW)).mono ?_
      rw [hny]
      rintro e w' ⟨v', he, hr, hb⟩
      exact ⟨v', he, hr w rb, hb⟩
    have HEnd := Lib.hid (And.intro (And.intro ex ey) (And.intro hh hf))
    have HC := Lib.hid (And.intro cx cy)
    have HD := Lib.hid (And.intro dx dy)
    have HB1 := Lib.hid (And.intro bx1 by1)
    clear hmea ra rb hnx hny ex ey gx gy hh hf cx cy dx dy bx by' bx1 by1 hbel
    obtain ⟨g0, g1, g2, g3, g4, g5⟩ := cells_blk3 kx
    clear kx ky
    obtain ⟨t1, r1, m1, ht1, hr1, hm1⟩ := x1
    obtain ⟨t2, r2, m2, ht2, hr2, hm2⟩ := y1
    simp only at NX NY
    obtain ⟨⟨o1, o2, o3⟩, ⟨o4, o5, o6⟩⟩ := HB1.out
    simp only at o1 o2 o3 o4 o5 o6
    obtain ⟨n, hn⟩ : ∃ n : Nat, n = (if m2 < m1 then m2 else m1).toNat := ⟨_, rfl⟩
    have hmin : (if m2 < m1 then m2 else m1) = (n : Int) := by split at hn <;> split <;> omega
    have hn1 : (n : Int) ≤ m1 ∧ (n : Int) ≤ m2 := by split at hn <;> omega
    have hn2 : n = 0 ↔ m1 = 0 ∨ m2 = 0 := by split at hn <;> omega
    have HN := Lib.hid (And.intro hn1 hn2)
    have CX := Lib.hid (fun W => pcut_any t1 r1 m1 n (by omega) ⟨o1, o2⟩ (by omega) W)
    have CY := Lib.hid (fun W => pcut_any t2 r2 m2 n (by omega) ⟨o4, o5⟩ (by omega) W)
    clear hn hn1 hn2
    go_wp2_with fail
    refine (NX.out _ HBel.out).mono ?_
    rintro e w1 ⟨v1, rfl, hr1w, b1⟩
    have R1 := Lib.hid hr1w
    have kx1 := blk_below b1 KX.out
    obtain ⟨k0, k1, k2, -⟩ := cells_blk3 (blk_below b1 KY.out)
    have KX1 := Lib.hid (put3_same (.int .u32 (t1 : Int)) (.int .u8 (r1 : Int)) (.int .i64 m1) kx1)
    have KY1 := Lib.hid (put3_other (.int .u32 (t1 : Int)) (.int .u8 (r1 : Int)) (.int .i64 m1) (show w.heap.size + 1 ≠ w.heap.size by omega) (blk_below b1 KY.out))
    have B1 := Lib.hid (put3_below (g := w.heap.size) (.int .u32 (t1 : Int)) (.int .u8 (r1 : Int)) (.int .i64 m1) (Nat.le_refl _) (HBel.out.trans (b1.mono HBel.out.size)))
    obtain ⟨W1, hW1⟩ : ∃ W1, W1 = put3 w1 w.heap.size (.int .u32 (t1 : Int)) (.int .u8 (r1 : Int)) (.int .i64 m1) := ⟨_, rfl⟩
    rw [← hW1] at KX1 KY1 B1
    unfold put3 at hW1
    have HW1 := Lib.hid hW1
    clear hr1w b1 hW1 g0 g1 g2 g3 g4 g5 KX KY HBel
    obtain ⟨g0, g1, g2, g3, g4, g5⟩ := cells_blk3 kx1
    clear kx1
    go_wp2_with fail
    rw [← HW1.out]
    clear g0 g1 g2 g3 g4 g5 HW1
    refine (NY.out _ B1.out).mono ?_
    rintro e w2 ⟨v2, rfl, hr2w, b2⟩
    have R2 := Lib.hid hr2w
    have ky2 := blk_below b2 KY1.out
    obtain ⟨k0, k1, k2, -⟩ := cells_blk3 (blk_below b2 KX1.out)
    have KX2 := Lib.hid (put3_other (.int .u32 (t2 : Int)) (.int .u8 (r2 : Int)) (.int .i64 m2) (show w.heap.size ≠ w.heap.size + 1 by omega) (blk_below b2 KX1.out))
    have KY2 := Lib.hid (put3_same (.int .u32 (t2 : Int)) (.int .u8 (r2 : Int)) (.int .i64 m2) ky2)
    have B2 := Lib.hid (put3_below (g := w.heap.size + 1) (.int .u32 (t2 : Int)) (.int .u8 (r2 : Int)) (.int .i64 m2) (Nat.le_succ _) (B1.out.trans (b2.mono B1.out.size)))
    obtain ⟨W2, hW2⟩ : ∃ W2, W2 = put3 w2 (w.heap.size + 1) (.int .u32 (t2 : Int)) (.int .u8 (r2 : Int)) (.int .i64 m2) := ⟨_, rfl⟩
    rw [← hW2] at KX2 KY2 B2
    unfold put3 at hW2
    have HW2 := Lib.hid hW2
    clear hr2w b2 hW2 KX1 KY1 B1
    obtain ⟨g0, g1, g2, g3, g4, g5⟩ := cells_blk3 ky2
    clear ky2
    go_wp2_with fail
    rw [← HW2.out]
    clear g0 g1 g2 g3 g4 g5 HW2 k0 k1 k2
    refine (CX.out _).mono ?_
    rintro e w3 ⟨rfl, b3⟩
    have KX3 := Lib.hid (blk_below b3 KX2.out)
    have KY3 := Lib.hid (blk_below b3 KY2.out)
    have B3 := Lib.hid (B2.out.trans (b3.mono B2.out.size))
    clear b3 KX2 KY2 B2
    have hsz3 : w.heap.size + 2 ≤ w3.heap.size := by have := (Array.getElem?_eq_some_iff.1 KY3.out).1; omega
    have i1 : ¬ w.heap.size + 1 = w3.heap.size := by omega
    have i2 : ¬ w.heap.size = w3.heap.size := by omega
    have i3 : ¬ w.heap.size = w3.heap.size + 1 := by omega
    have j1 : w.heap.size < w3.heap.size := by omega
    have j2 : w.heap.size + 1 < w3.heap.size := by omega
    have j3 : w.heap.size < w3.heap.size + 1 := by omega
    obtain ⟨k0, k1, k2, -⟩ := cells_blk3 KY3.out
    have BA := Lib.hid ((B3.out.alloc B3.out.size (.cells #[.int .u32 (t1 : Int), .int .u8 (r1 : Int), .int .i64 (n : Int)] 49)).alloc (Nat.le_trans B3.out.size (by simp)) (.cells #[.int .u32 ((t1 : Int) + (n : Int)), .int .u8 (r1 : Int), .int .i64 (m1 - (n : Int))] 49))
    go_wp2_with fail
    clear k0 k1 k2
    refine (CY.out _).mono ?_
    rintro e w4 ⟨rfl, b4⟩
    have KX4 := Lib.hid (blk_below b4 (blk_old (blk_old KX3.out)))
    have KY4 := Lib.hid (blk_below b4 (blk_old (blk_old KY3.out)))
    have KH4 := Lib.hid (blk_below b4 (blk_old (blk_new rfl)))
    have KR4 := Lib.hid (blk_below (g := w3.heap.size + 1) b4 (blk_new (by simp)))
    have B4 := Lib.hid (BA.out.trans (b4.mono BA.out.size))
    clear b4 BA B3 KX3 KY3
    have hsz4 : w3.heap.size + 2 ≤ w4.heap.size := by have := (Array.getElem?_eq_some_iff.1 KR4.out).1; omega
    have j4 : w.heap.size < w4.heap.size := by omega
    have j5 : w.heap.size + 1 < w4.heap.size := by omega
    have j6 : w.heap.size < w4.heap.size + 1 := by omega
    have j7 : w3.heap.size < w4.heap.size := by omega
    have j8 : w3.heap.size + 1 < w4.heap.size := by omega
    have j9 : w3.heap.size < w4.heap.size + 1 := by omega
    have i4 : ¬ w3.heap.size = w4.heap.size := by omega
    have i5 : ¬ w3.heap.size + 1 = w4.heap.size := by omega
    have i6 : ¬ w3.heap.size = w4.heap.size + 1 := by omega
    have i7 : ¬ w.heap.size = w4.heap.size := by omega
    have i8 : ¬ w.heap.size + 1 = w4.heap.size := by omega
    have i9 : ¬ w.heap.size = w4.heap.size + 1 := by omega
    obtain ⟨g0, g1, g2, -⟩ := cells_blk3 KH4.out
    obtain ⟨r0, r1', r2', -⟩ := cells_blk3 KR4.out
    obtain ⟨k0, k1, k2, k3, k4, k5⟩ := cells_blk3 KX4.out
    obtain ⟨l0, l1, l2, l3, l4, l5⟩ := cells_blk3 KY4.out
    clear CX CY hmin
    by_cases hn0 : n = 0
    · have HE : Hid (h0 = (ends ⟨t1, r1, m1, ht1, hr1, hm1⟩ ⟨t2, r2, m2, ht2, hr2, hm2⟩).1 ∧ f0 = (ends ⟨t1, r1, m1, ht1, hr1, hm1⟩ ⟨t2, r2, m2, ht2, hr2, hm2⟩).2) := by
        have h := ends_none (x1 := ⟨t1, r1, m1, ht1, hr1, hm1⟩) (y1 := ⟨t2, r2, m2, ht2, hr2, hm2⟩) HD.out.1 HD.out.2 (HN.out.2.1 hn0)
        rw [HEnd.out.2.1, HEnd.out.2.2] at h
        exact h
      clear HEnd HD HC HMea HN
      subst hn0
      obtain ⟨W5, hW5⟩ : ∃ W5, W5 = (((put3 (put3 w4 w.heap.size (.int .u32 (t1 : Int)) (.int .u8 (r1 : Int)) (.int .i64 m1)) (w.heap.size + 1) (.int .u32 (t2 : Int)) (.int .u8 (r2 : Int)) (.int .i64 m2)).alloc (.cells #[.int .u32 (t2 : Int), .int .u8 (r2 : Int), .int .i64 0] 49)).alloc (.cells #[.int .u32 (t2 : Int), .int .u8 (r2 : Int), .int .i64 m2] 49)).drew := ⟨_, rfl⟩
      have KX5 : W5.heap[w.heap.size]? = some (.cells #[.int .u32 (t1 : Int), .int .u8 (r1 : Int), .int .i64 m1] 49) := by
        rw [hW5]
        exact blk_drew (blk_old (blk_old (put3_other _ _ _ (show w.heap.size ≠ w.heap.size + 1 by omega) (put3_same _ _ _ KX4.out))))
      have KY5 : W5.heap[w.heap.size + 1]? = some (.cells #[.int .u32 (t2 : Int), .int .u8 (r2 : Int), .int .i64 m2] 49) := by
        rw [hW5]
        exact blk_drew (blk_old (blk_old (put3_same _ _ _ (put3_other _ _ _ (show w.heap.size + 1 ≠ w.heap.size by omega) KY4.out))))
      have B5 : Hid (Below w.heap.size w W5) := by
        rw [hW5]
        have hb := put3_below (g := w.heap.size + 1) (.int .u32 (t2 : Int)) (.int .u8 (r2 : Int)) (.int .i64 m2) (Nat.le_succ _) (put3_below (g := w.heap.size) (.int .u32 (t1 : Int)) (.int .u8 (r1 : Int)) (.int .i64 m1) (Nat.le_refl _) B4.out)
        exact ((hb.alloc hb.size _).alloc (Nat.le_trans hb.size (by simp)) _).drew
      unfold put3 at hW5
      have HW5 := Lib.hid hW5
      clear hW5
      go_wp2
      go_region
      rw [← HW5.out]
      obtain ⟨s0, s1, s2, -⟩ := cells_blk3 KX5
      obtain ⟨s3, s4, s5, -⟩ := cells_blk3 KY5
      clear HW5 KX5 KY5 k0 k1 k2 k3 k4 k5 l0 l1 l2 l3 l4 l5 g0 g1 g2 r0 r1' r2'
      go_wp2
      simp only [Exit.jump]
      refine bodyPost_ret (v := .tuple #[.agg #[.int .u32 (t1 : Int), .int .u8 (r1 : Int), .int .i64 m1], .agg #[.int .u32 (t2 : Int), .int .u8 (r2 : Int), .int .i64 m2]]) (by simp [results, Tryz.results95, go_sem, s0, s1, s2, s3, s4, s5]) rfl ⟨⟨t1, r1, m1, ht1, hr1, hm1⟩, ⟨t2, r2, m2, ht2, hr2, hm2⟩, rfl, HE.out.1, HE.out.2, B5.out⟩
    · have hox : One ⟨t1, r1, m1, ht1, hr1, hm1⟩ ∧ rst x p = ⟨t1, r1, m1, ht1, hr1, hm1⟩ :: p1 := by
        rcases HD.out.1 with h | h
        · exact absurd (HN.out.2.2 (.inl h.1)) hn0
        · exact h
      have hoy : One ⟨t2, r2, m2, ht2, hr2, hm2⟩ ∧ rst y q = ⟨t2, r2, m2, ht2, hr2, hm2⟩ :: q1 := by
        rcases HD.out.2 with h | h
        · exact absurd (HN.out.2.2 (.inr h.1)) hn0
        · exact h
      have hn1 : 1 ≤ n := by omega
      have n1 : decide (0 < n) = true := decide_eq_true (by omega)
      have n2 : decide ((0 : Int) < (n : Int)) = true := decide_eq_true (by omega)
      by_cases hxy : t1 = t2 ∧ r1 = r2
      · obtain ⟨rfl, rfl⟩ := hxy
        have HOX := Lib.hid hox
        have HOY := Lib.hid hoy
        clear hox hoy HD
        obtain ⟨W5, hW5⟩ : ∃ W5, W5 = (((put3 (put3 w4 w.heap.size (.int .u32 ((t1 : Int) + (n : Int))) (.int .u8 (r1 : Int)) (.int .i64 (m1 - (n : Int)))) (w.heap.size + 1) (.int .u32 ((t1 : Int) + (n : Int))) (.int .u8 (r1 : Int)) (.int .i64 (m2 - (n : Int)))).alloc (.cells #[.int .u32 (t1 : Int), .int .u8 (r1 : Int), .int .i64 (n : Int)] 49)).alloc (.cells #[.int .u32 ((t1 : Int) + (n : Int)), .int .u8 (r1 : Int), .int .i64 (m2 - (n : Int))] 49)).drew := ⟨_, rfl⟩
        have KX5 : W5.heap[w.heap.size]? = some (.cells #[.int .u32 ((t1 : Int) + (n : Int)), .int .u8 (r1 : Int), .int .i64 (m1 - (n : Int))] 49) := by
          rw [hW5]
          exact blk_drew (blk_old (blk_old (put3_other _ _ _ (show w.heap.size ≠ w.heap.size + 1 by omega) (put3_same _ _ _ KX4.out))))
        have KY5 : W5.heap[w.heap.size + 1]? = some (.cells #[.int .u32 ((t1 : Int) + (n : Int)), .int .u8 (r1 : Int), .int .i64 (m2 - (n : Int))] 49) := by
          rw [hW5]
          exact blk_drew (blk_old (blk_old (put3_same _ _ _ (put3_other _ _ _ (show w.heap.size + 1 ≠ w.heap.size by omega) KY4.out))))
        have B5 : Hid (Below w.heap.size w W5) := by
          rw [hW5]
          have hb := put3_below (g := w.heap.size + 1) (.int .u32 ((t1 : Int) + (n : Int))) (.int .u8 (r1 : Int)) (.int .i64 (m2 - (n : Int))) (Nat.le_succ _) (put3_below (g := w.heap.size) (.int .u32 ((t1 : Int) + (n : Int))) (.int .u8 (r1 : Int)) (.int .i64 (m1 - (n : Int))) (Nat.le_refl _) B4.out)
          exact ((hb.alloc hb.size _).alloc (Nat.le_trans hb.size (by simp)) _).drew
        have KX6 := Lib.hid KX5
        have KY6 := Lib.hid KY5
        unfold put3 at hW5
        have HW5 := Lib.hid hW5
        clear hW5 KX5 KY5
        go_wp2
        go_region
        rw [← HW5.out]
        go_wp2
        go_step3
        go_wp2
        have ax := aft_ok (p := p1) HOX.out.1 HN.out.1.1 hn1
        have ay := aft_ok (p := q1) HOY.out.1 HN.out.1.2 hn1
        have hpart : Part w h0 f0 v1 v2 W5 (aft ⟨t1, r1, m1, ht1, hr1, hm1⟩ n) (aft ⟨t1, r1, m2, ht2, hr2, hm2⟩ n) p1 q1 := by
          refine ⟨R1.out, R2.out, ?_, ?_, ax.2.1, ay.2.1, ?_, ?_, ?_, ?_, B5.out⟩
          · rw [ax.2.2.2.1, ax.2.2.2.2.1, ax.2.2.2.2.2]; exact KX6.out
          · rw [ay.2.2.2.1, ay.2.2.2.2.1, ay.2.2.2.2.2]; exact KY6.out
          · rw [ax.1]
            refine Chain.cut ?_ HN.out.1.1
            rw [← HOX.out.2]; exact HC.out.1
          · rw [ay.1]
            refine Chain.cut ?_ HN.out.1.2
            rw [← HOY.out.2]; exact HC.out.2
          · rw [ax.1, ay.1, ← hold_cut HOX.out.1 HOY.out.1 rfl rfl HN.out.1.1 HN.out.1.2, ← HOX.out.2, ← HOY.out.2]
            exact HEnd.out.2.1
          · rw [ax.1, ay.1, ← first_cut HOX.out.1 HOY.out.1 rfl rfl HN.out.1.1 HN.out.1.2, ← HOX.out.2, ← HOY.out.2]
            exact HEnd.out.2.2
        have hmu : cm W5 w.heap.size + cm W5 (w.heap.size + 1) + totV w v1 + totV w v2 < cm wr w.heap.size + cm wr (w.heap.size + 1) + totV w va + totV w vb := by
          rw [HMea.out, cm_of KX6.out, cm_of KY6.out, totV_runs R1.out, totV_runs R2.out]
          have e1 := ax.2.2.1
          have e2 := ay.2.2.1
          unfold wgt at e1 e2 ⊢
          rw [ax.2.2.2.2.2] at e1
          rw [ay.2.2.2.2.2] at e2
          simp only at e1 e2 ⊢
          omega
        exact ⟨rfl, ⟨_, _, _, _, _, _, _, _, _, _, _, _, _, _, _, _, _, _, _, _, _, _, _, _, _, _, _, _, _, _, _, _, _, _, _, _, _, _, _, _, _, _, _, _, _, _, _, _, _, rfl, _, _, _, _, hpart⟩, hmu⟩
      · have HE : Hid (h0 = (ends ⟨t1, r1, m1, ht1, hr1, hm1⟩ ⟨t2, r2, m2, ht2, hr2, hm2⟩).1 ∧ f0 = (ends ⟨t1, r1, m1, ht1, hr1, hm1⟩ ⟨t2, r2, m2, ht2, hr2, hm2⟩).2) := by
          have h := ends_some (p1 := p1) (q1 := q1) hox.1 hoy.1 hxy
          rw [← hox.2, ← hoy.2, HEnd.out.2.1, HEnd.out.2.2] at h
          exact h
        have hne : ¬ t1 = t2 ∨ (t1 = t2 ∧ ¬ r1 = r2) := by
          by_cases h : t1 = t2
          · exact .inr ⟨h, fun h2 => hxy ⟨h, h2⟩⟩
          · exact .inl h
        clear hxy HEnd HD HC HMea HN hox hoy hn0
        rcases hne with hne | ⟨rfl, hne⟩
        · skip
          obtain ⟨W5, hW5⟩ : ∃ W5, W5 = (((put3 (put3 w4 w.heap.size (.int .u32 (t1 : Int)) (.int .u8 (r1 : Int)) (.int .i64 m1)) (w.heap.size + 1) (.int .u32 (t2 : Int)) (.int .u8 (r2 : Int)) (.int .i64 m2)).alloc (.cells #[.int .u32 (t2 : Int), .int .u8 (r2 : Int), .int .i64 (n : Int)] 49)).alloc (.cells #[.int .u32 ((t2 : Int) + (n : Int)), .int .u8 (r2 : Int), .int .i64 (m2 - (n : Int))] 49)).drew := ⟨_, rfl⟩
          have KX5 : W5.heap[w.heap.size]? = some (.cells #[.int .u32 (t1 : Int), .int .u8 (r1 : Int), .int .i64 m1] 49) := by
            rw [hW5]
            exact blk_drew (blk_old (blk_old (put3_other _ _ _ (show w.heap.size ≠ w.heap.size + 1 by omega) (put3_same _ _ _ KX4.out))))
          have KY5 : W5.heap[w.heap.size + 1]? = some (.cells #[.int .u32 (t2 : Int), .int .u8 (r2 : Int), .int .i64 m2] 49) := by
            rw [hW5]
            exact blk_drew (blk_old (blk_old (put3_same _ _ _ (put3_other _ _ _ (show w.heap.size + 1 ≠ w.heap.size by omega) KY4.out))))
          have B5 : Hid (Below w.heap.size w W5) := by
            rw [hW5]
            have hb := put3_below (g := w.heap.size + 1) (.int .u32 (t2 : Int)) (.int .u8 (r2 : Int)) (.int .i64 m2) (Nat.le_succ _) (put3_below (g := w.heap.size) (.int .u32 (t1 : Int)) (.int .u8 (r1 : Int)) (.int .i64 m1) (Nat.le_refl _) B4.out)
            exact ((hb.alloc hb.size _).alloc (Nat.le_trans hb.size (by simp)) _).drew
          unfold put3 at hW5
          have HW5 := Lib.hid hW5
          clear hW5
          go_wp2
          go_region
          rw [← HW5.out]
          obtain ⟨s0, s1, s2, -⟩ := cells_blk3 KX5
          obtain ⟨s3, s4, s5, -⟩ := cells_blk3 KY5
          clear HW5 KX5 KY5 k0 k1 k2 k3 k4 k5 l0 l1 l2 l3 l4 l5 g0 g1 g2 r0 r1' r2'
          go_wp2
          simp only [Exit.jump]
          refine bodyPost_ret (v := .tuple #[.agg #[.int .u32 (t1 : Int), .int .u8 (r1 : Int), .int .i64 m1], .agg #[.int .u32 (t2 : Int), .int .u8 (r2 : Int), .int .i64 m2]]) (by simp [results, Tryz.results95, go_sem, s0, s1, s2, s3, s4, s5]) rfl ⟨⟨t1, r1, m1, ht1, hr1, hm1⟩, ⟨t2, r2, m2, ht2, hr2, hm2⟩, rfl, HE.out.1, HE.out.2, B5.out⟩
        · skip
          obtain ⟨W5, hW5⟩ : ∃ W5, W5 = (((put3 (put3 w4 w.heap.size (.int .u32 (t1 : Int)) (.int .u8 (r1 : Int)) (.int .i64 m1)) (w.heap.size + 1) (.int .u32 (t1 : Int)) (.int .u8 (r2 : Int)) (.int .i64 m2)).alloc (.cells #[.int .u32 (t1 : Int), .int .u8 (r2 : Int), .int .i64 (n : Int)] 49)).alloc (.cells #[.int .u32 ((t1 : Int) + (n : Int)), .int .u8 (r2 : Int), .int .i64 (m2 - (n : Int))] 49)).drew := ⟨_, rfl⟩
          have KX5 : W5.heap[w.heap.size]? = some (.cells #[.int .u32 (t1 : Int), .int .u8 (r1 : Int), .int .i64 m1] 49) := by
            rw [hW5]
            exact blk_drew (blk_old (blk_old (put3_other _ _ _ (show w.heap.size ≠ w.heap.size + 1 by omega) (put3_same _ _ _ KX4.out))))
          have KY5 : W5.heap[w.heap.size + 1]? = some (.cells #[.int .u32 (t1 : Int), .int .u8 (r2 : Int), .int .i64 m2] 49) := by
            rw [hW5]
            exact blk_drew (blk_old (blk_old (put3_same _ _ _ (put3_other _ _ _ (show w.heap.size + 1 ≠ w.heap.size by omega) KY4.out))))
          have B5 : Hid (Below w.heap.size w W5) := by
            rw [hW5]
            have hb := put3_below (g := w.heap.size + 1) (.int .u32 (t1 : Int)) (.int .u8 (r2 : Int)) (.int .i64 m2) (Nat.le_succ _) (put3_below (g := w.heap.size) (.int .u32 (t1 : Int)) (.int .u8 (r1 : Int)) (.int .i64 m1) (Nat.le_refl _) B4.out)
            exact ((hb.alloc hb.size _).alloc (Nat.le_trans hb.size (by simp)) _).drew
          unfold put3 at hW5
          have HW5 := Lib.hid hW5
          clear hW5
          go_wp2
          go_region
          rw [← HW5.out]
          obtain ⟨s0, s1, s2, -⟩ := cells_blk3 KX5
          obtain ⟨s3, s4, s5, -⟩ := cells_blk3 KY5
          clear HW5 KX5 KY5 k0 k1 k2 k3 k4 k5 l0 l1 l2 l3 l4 l5 g0 g1 g2 r0 r1' r2'
          go_wp2
          simp only [Exit.jump]
          refine bodyPost_ret (v := .tuple #[.agg #[.int .u32 (t1 : Int), .int .u8 (r1 : Int), .int .i64 m1], .agg #[.int .u32 (t1 : Int), .int .u8 (r2 : Int), .int .i64 m2]]) (by simp [results, Tryz.results95, go_sem, s0, s1, s2, s3, s4, s5]) rfl ⟨⟨t1, r1, m1, ht1, hr1, hm1⟩, ⟨t1, r2, m2, ht2, hr2, hm2⟩, rfl, HE.out.1, HE.out.2, B5.out⟩
end Go.Proofs.YtdackenaknieaaaGreat.Place
