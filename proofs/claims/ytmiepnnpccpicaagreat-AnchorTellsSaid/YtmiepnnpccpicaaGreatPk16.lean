/- octavoref06.Held: what it answers. Conditions: the slices' cells are runs; they may stand one behind the other, at most 100 of them. octavoref06.Final, Last, All, Ids: what each answers. Conditions: the slice's cells are runs. Whether a number is a code point: point.Check, and the document's Is. Conditions: none. Slices of elements of any kind, whose cells may hold slices themselves: what such a slice value holds. Conditions: none. octavo/op and octavoref09: Content, Own, Same, Twin: what each answers. Conditions: the places' cells are runs. octavo/op.Needs, octavoref09: May, Check, Many, Stands, Needs: what each answers. Conditions: the places' cells are runs. Bags in plain words: which may be, one more in its place, two together, without stamps. Conditions: none. -/
import Derived.Test.YtmiepnnpccpicaaGreatChecked
import Derived.WalkKit
import Derived.WalkSpells
import Derived.WalkLawsBesides
import Derived.Laws.BytesArg
import Derived.Lib.Hide
import Derived.Deep.LoopGhost
import Derived.Laws.AppendOwnNone
import Derived.Laws.OwnMore
import Derived.WideShapes
import Derived.Maps.AppendAt
import Derived.RegionTactic
import Derived.Deep.RegionHeld3
import Derived.Deep.DrawnRows
import Derived.Deep.QuietTactic
import Derived.BigQuiet
import Derived.IntWalk
import Derived.Test.YtmiepnnpccpicaaGreatProg
import Derived.LoopTactic
import Derived.Deep.DeepCutAuto
import Derived.ScopeJumps
import Derived.Laws.EntriesVeiled
import Derived.RowKit
import Derived.Test.YtmiepnnpccpicaaGreatPk02
import Derived.Test.YtmiepnnpccpicaaGreatPk15
import Derived.Test.YtmiepnnpccpicaaGreatPk01
import Derived.Test.YtmiepnnpccpicaaGreatPk03
import Derived.Test.YtmiepnnpccpicaaGreatPk04

namespace Go.Proofs.YtmiepnnpccpicaaGreat.Place
open Go.RowKit Stamp
attribute [local go_sem ↓] Go.wp_at_zero Go.wp_at_succ
theorem nl_cut {x : Run} {p : List Run} {n : Nat} (h : One x) (hn : (n : Int) ≤ x.m) : nl (cut x p n) + n = nl (x :: p) := by
  obtain ⟨k, hk, h1, h2, h3, h4⟩ := h.nat
  unfold cut
  by_cases he : x.m = (n : Int)
  · rw [if_pos he, nl]; omega
  · rw [if_neg he, nl, nl, mkRun_m (by omega)]; omega
theorem cut_len {x : Run} {p : List Run} {n : Nat} : (cut x p n).length ≤ p.length + 1 := by
  unfold cut; split <;> simp
/-- What stands at the head of the loop of two places held against each other. -/
def Two (w : World) (h0 : Int) (f0 : Bool) (a b : Value) (wr : World) : Prop :=
  ∃ p q : List Run, Runs wr a p ∧ Runs wr b q ∧ Chain p ∧ Chain q ∧ p.length ≤ 100 ∧ q.length ≤ 100 ∧ hold (all p) (all q) = h0 ∧ first (all p) (all q) = f0 ∧ Below w.heap.size w wr
theorem keepA3 {wl w2 : World} {b off t r : Nat} {m : Int} (q : Pos3 wl b off t r m) (h : Below wl.heap.size wl w2) :
    Below wl.heap.size wl w2 ∧ w2.cell? ⟨b, off, none⟩ = some (.int .u32 (t : Int)) ∧ w2.cell? ⟨b, off + 1, none⟩ = some (.int .u8 (r : Int)) :=
  ⟨h, (h.cell (p := ⟨b, off, none⟩) q.1).trans q.2.1, (h.cell (p := ⟨b, off + 1, none⟩) q.1).trans q.2.2.1⟩
theorem keepM {wl w2 : World} {b1 o1 t1 r1 b2 o2 t2 r2 : Nat} {m1 m2 : Int} (q : Pos3 wl b1 o1 t1 r1 m1) (q2 : Pos3 wl b2 o2 t2 r2 m2) (h : Below wl.heap.size wl w2) :
    Below wl.heap.size wl w2 ∧ w2.cell? ⟨b1, o1 + 2, none⟩ = some (.int .i64 m1) ∧ w2.cell? ⟨b2, o2 + 2, none⟩ = some (.int .i64 m2) :=
  ⟨h, (h.cell (p := ⟨b1, o1 + 2, none⟩) q.1).trans q.2.2.2, (h.cell (p := ⟨b2, o2 + 2, none⟩) q2.1).trans q2.2.2.2⟩
set_option maxRecDepth 100000 in
set_option maxHeartbeats 4000000 in
theorem held_any {a b : Value} {p q : List Run} {w : World} (ha : Runs w a p) (hb : Runs w b q) (hp : Chain p) (hq : Chain q) (lp : p.length ≤ 100) (lq : q.length ≤ 100) :
    Calls Tryz.prog 67 #[a, b] w fun e w' => e = .returned (.int .i64 (hold (all p) (all q))) ∧ Below w.heap.size w w' := by
  obtain ⟨h0, hh0⟩ : ∃ h0, h0 = hold (all p) (all q) := ⟨_, rfl⟩
  have H0 : Hid (Two w h0 (first (all p) (all q)) a b w) := ⟨p, q, ha, hb, hp, hq, lp, lq, hh0.symm, rfl, Below.refl _ _⟩
  rw [← hh0]
  obtain ⟨f0, hf0⟩ : ∃ f0, f0 = first (all p) (all q) := ⟨_, rfl⟩
  rw [← hf0] at H0
  clear hh0 hf0 ha hb hp hq lp lq p q
  go_enter Tryz.func67, Tryz.ntmps67
  go_wp2
  go_loopw [0, 1] (fun a b wr => Hid (Two w h0 f0 a b wr)) (fun a b wr => totV wr a + totV wr b)
  case atStart => exact H0
  case round =>
    obtain ⟨p, q, ha, hb, hp, hq, lp, lq, hh, hf, hbel⟩ := hrel.out
    have HFst := Lib.hid hf
    clear hrel hf
    cases p with
    | nil =>
      obtain ⟨ao, ca, rfl⟩ := ha.shape
      obtain ⟨bo, cb, rfl⟩ := hb.shape
      have HB := Lib.hid hbel
      cases q with
      | nil =>
        have hz : h0 = 0 := by rw [← hh]; rfl
        subst hz
        clear ha hb hp hq hh hbel
        go_wp2
        go_ret
        exact ⟨rfl, HB.out⟩
      | cons y q =>
        have hz : h0 = -1 := by rw [← hh]; exact hold_left hq.head
        have hl : decide ((0 : Int) < ((y :: q).length : Int)) = true := decide_eq_true (by simp)
        obtain ⟨n2, hn2⟩ : ∃ n2, n2 = (y :: q).length := ⟨_, rfl⟩
        have hp2 : 0 < n2 := by rw [hn2]; simp
        have hl2 : decide (0 < n2) = true := decide_eq_true hp2
        rw [← hn2] at hl ⊢
        subst hz
        clear ha hb hp hq hh hbel hn2
        go_wp2
        go_ret
        exact ⟨rfl, HB.out⟩
    | cons x p =>
      obtain ⟨ao, ca, rfl⟩ := ha.shape
      obtain ⟨bo, cb, rfl⟩ := hb.shape
      obtain ⟨n1, hn1⟩ : ∃ n1, n1 = (x :: p).length := ⟨_, rfl⟩
      have hp1 : 0 < n1 := by rw [hn1]; simp
      have hl1 : decide (0 < n1) = true := decide_eq_true hp1
      have hl1' : (0 : Int) < (n1 : Int) := by omega
      cases q with
      | nil =>
        have HB := Lib.hid hbel
        have hz : h0 = 1 := by rw [← hh]; exact hold_right hp.head
        subst hz
        rw [← hn1]
        clear ha hb hp hq hh hbel hn1
        go_wp2
        go_ret
        exact ⟨rfl, HB.out⟩
      | cons y q =>
        obtain ⟨n2, hn2⟩ : ∃ n2, n2 = (y :: q).length := ⟨_, rfl⟩
        have hp2 : 0 < n2 := by rw [hn2]; simp
        have hl2 : decide (0 < n2) = true := decide_eq_true hp2
        have hl2' : (0 : Int) < (n2 : Int) := by omega
        obtain ⟨b1, o1, rfl, hb1, hx0, hx1, hx2⟩ := ha.at 0 (by simp)
        obtain ⟨b2, o2, rfl, hb2, hy0, hy1, hy2⟩ := hb.at 0 (by simp)
        have XA : Hid (Pos3 wr b1 o1 x.t x.r x.m) := ⟨hb1, by simpa using hx0, by simpa using hx1, by simpa using hx2⟩
        have XB : Hid (Pos3 wr b2 o2 y.t y.r y.m) := ⟨hb2, by simpa using hy0, by simpa using hy1, by simpa using hy2⟩
        have hlx : p.length ≤ 99 ∧ q.length ≤ 99 := by simp at lp lq; omega
        have HA := Lib.hid (show Runs wr (.slice (some ⟨b1, o1, none⟩) n1 ca) (x :: p) by rw [hn1]; exact ha)
        have HB := Lib.hid (show Runs wr (.slice (some ⟨b2, o2, none⟩) n2 cb) (y :: q) by rw [hn2]; exact hb)
        have HP := Lib.hid hp
        have HQ := Lib.hid hq
        have HH := Lib.hid hh
        have HBel := Lib.hid hbel
        have HN1 := Lib.hid hn1
        have HN2 := Lib.hid hn2
        rw [← hn1, ← hn2]
        clear ha hb hp hq hh hbel hn1 hn2 hx0 hx1 hx2 hy0 hy1 hy2 hb1 hb2
        have hbel := HBel
        obtain ⟨t1, r1, m1, ht1, hr1, hm1⟩ := x
        obtain ⟨t2, r2, m2, ht2, hr2, hm2⟩ := y
        simp only at XA XB
        have hsz := hbel.out.size
        obtain ⟨lb, hlb⟩ : ∃ lb, less t2 r2 t1 r1 = lb := ⟨_, rfl⟩
        have LS : Hid (∀ W : World, Calls Tryz.prog 62 #[.agg #[.int .u32 (t2 : Int), .int .u8 (r2 : Int)], .agg #[.int .u32 (t1 : Int), .int .u8 (r1 : Int)]] W fun e w' => e = .returned (.bool lb) ∧ Below W.heap.size W w') := fun W => by
          have := refLess_any t2 r2 t1 r1 W
          rwa [hlb] at this
        go_wp2_with fail
        go_region_held3 (fun w' => Below wr.heap.size wr w' ∧ w'.cell? ⟨b1, o1, none⟩ = some (.int .u32 (t1 : Int)) ∧ w'.cell? ⟨b1, o1 + 1, none⟩ = some (.int .u8 (r1 : Int)))
          (first | (go_split_ands; refine keepA3 XA.out ?_; repeat' (first | assumption | exact Below.refl _ _ | (with_reducible refine Below.drew ?_) | (with_reducible refine Below.alloc ?_ ?_ _) | exact Nat.le_refl _ | (show (_ : Nat) ≤ _; omega) | (show (_ : Nat) ≤ _; simp; done) | (show (_ : Nat) ≤ _; simp; omega))))
          (fail)
        go_wp2_with fail
        go_region_held3 (fun w' => Below wr.heap.size wr w' ∧ w'.cell? ⟨b2, o2, none⟩ = some (.int .u32 (t2 : Int)) ∧ w'.cell? ⟨b2, o2 + 1, none⟩ = some (.int .u8 (r2 : Int)))
          (first | (go_split_ands; refine keepA3 XB.out ?_; repeat' (first | assumption | exact Below.refl _ _ | (with_reducible refine Below.drew ?_) | (with_reducible refine Below.alloc ?_ ?_ _) | exact Nat.le_refl _ | (show (_ : Nat) ≤ _; omega) | (show (_ : Nat) ≤ _; simp; done) | (show (_ : Nat) ≤ _; simp; omega))))
          (fail)
        by_cases hxy : t1 = t2 ∧ r1 = r2
        · obtain ⟨rfl, rfl⟩ := hxy
          have hOX := HP.out.head
          have hOY := HQ.out.head
          obtain ⟨k1, j1, j2, j3, _, _⟩ := hOX.nat
          obtain ⟨k2, j4, j5, j6, _, _⟩ := hOY.nat
          simp only at j1 j4
          obtain ⟨n, hn⟩ : ∃ n, n = min k1 k2 := ⟨_, rfl⟩
          have hmin : (if m2 < m1 then m2 else m1) = (n : Int) := by split <;> omega
          have hmin2 : min m1 m2 = (n : Int) := by omega
          have hmin3 : min m2 m1 = (n : Int) := by omega
          have hle1 : (n : Int) ≤ m1 := by omega
          have hle2 : (n : Int) ≤ m2 := by omega
          have hn1 : 1 ≤ n := by omega
          have HOX := Lib.hid hOX
          have HOY := Lib.hid hOY
          have HLe := Lib.hid (And.intro hle1 hle2)
          clear hOX hOY j1 j2 j3 j4 j5 j6 hn hlb LS hle1 hle2
          go_wp2_with fail
          go_region_held3 (fun w' => Below wr.heap.size wr w' ∧ w'.cell? ⟨b1, o1 + 2, none⟩ = some (.int .i64 m1) ∧ w'.cell? ⟨b2, o2 + 2, none⟩ = some (.int .i64 m2))
            (first | (go_split_ands; refine keepM XA.out XB.out ?_; repeat' (first | assumption | exact Below.refl _ _ | (with_reducible refine Below.drew ?_) | (with_reducible refine Below.alloc ?_ ?_ _) | exact Nat.le_refl _ | (show (_ : Nat) ≤ _; omega) | (show (_ : Nat) ≤ _; simp; done) | (show (_ : Nat) ≤ _; simp; omega))))
            (fail)
          go_wp2_with fail
          refine (cut_any (n := n) (HA.out.keeps ?hc) ?hl HOX.out hn1 HLe.out.1).mono ?_
          case hc => repeat' (first | assumption | exact Below.refl _ _ | (with_reducible refine Below.drew ?_) | (with_reducible refine Below.alloc ?_ ?_ _) | exact Nat.le_refl _ | (show (_ : Nat) ≤ _; omega) | (show (_ : Nat) ≤ _; simp; done) | (show (_ : Nat) ≤ _; simp; omega))
          case hl => omega
          rintro e w5 ⟨v1, rfl, c1, b5⟩
          refine Go.Proofs.YtmiepnnpccpicaaGreat.hold (fun (B5 : Below wr.heap.size wr w5) => ?_) (below_next ?hc ?hd b5)
          case hc => repeat' (first | assumption | exact Below.refl _ _ | (with_reducible refine Below.drew ?_) | (with_reducible refine Below.alloc ?_ ?_ _) | exact Nat.le_refl _ | (show (_ : Nat) ≤ _; omega) | (show (_ : Nat) ≤ _; simp; done) | (show (_ : Nat) ≤ _; simp; omega))
          case hd => (refine Below.size (?_ : Below wr.heap.size wr _); repeat' (first | assumption | exact Below.refl _ _ | (with_reducible refine Below.drew ?_) | (with_reducible refine Below.alloc ?_ ?_ _) | exact Nat.le_refl _ | (show (_ : Nat) ≤ _; omega) | (show (_ : Nat) ≤ _; simp; done) | (show (_ : Nat) ≤ _; simp; omega)))
          have HB5 := Lib.hid (HB.out.keeps B5)
          have C1 := Lib.hid c1
          clear c1 b5
          go_wp2_with fail
          refine (cut_any (n := n) HB5.out ?hl HOY.out hn1 HLe.out.2).mono ?_
          case hl => omega
          rintro e w6 ⟨v2, rfl, c2, b6⟩
          have C2 := Lib.hid c2
          have C1' := Lib.hid (C1.out.keeps b6)
          have B6 := Lib.hid (bt B5 b6)
          clear c2 b6
          go_wp2
          go_roundw
          case rel =>
            refine Lib.hid ⟨_, _, C1'.out, C2.out, HP.out.cut HLe.out.1, HQ.out.cut HLe.out.2, ?_, ?_, ?_, ?_, bt hbel.out B6.out⟩
            · exact Nat.le_trans cut_len (by omega)
            · exact Nat.le_trans cut_len (by omega)
            · rw [← HH.out]; exact (hold_cut HOX.out HOY.out rfl rfl HLe.out.1 HLe.out.2).symm
            · rw [← HFst.out]; exact (first_cut HOX.out HOY.out rfl rfl HLe.out.1 HLe.out.2).symm
          case measure =>
            show totV _ v1 + totV _ v2 < totV wr _ + totV wr _
            rw [totV_runs C1'.out, totV_runs C2.out]
            have e1 := totV_runs HA.out
            have e2 := totV_runs HB.out
            have e3 := nl_cut (p := p) HOX.out HLe.out.1
            have e4 := nl_cut (p := q) HOY.out HLe.out.2
            have e5 : totV wr (.slice (some ⟨b1, o1, none⟩) n1 ca) + totV wr (.slice (some ⟨b2, o2, none⟩) n2 cb) = nl (⟨t1, r1, m1, ht1, hr1, hm1⟩ :: p) + nl (⟨t1, r1, m2, ht2, hr2, hm2⟩ :: q) := by rw [e1, e2]
            refine Nat.lt_of_lt_of_eq ?_ e5.symm
            omega
        · have hz : h0 = if lb = true then -1 else 1 := by
            rw [← HH.out, hold_part HP.out.head HQ.out.head hxy, hlb]
          have hne : ¬ t1 = t2 ∨ (t1 = t2 ∧ ¬ r1 = r2) := by
            by_cases h : t1 = t2
            · exact .inr ⟨h, fun h2 => hxy ⟨h, h2⟩⟩
            · exact .inl h
          clear hxy hlb
          cases lb
          · simp only [Bool.false_eq_true, if_false] at hz
            subst hz
            rcases hne with hne | ⟨rfl, hne⟩
            · go_wp2_with fail
              refine (LS.out _).mono ?_
              rintro e w5 ⟨rfl, b5⟩
              have B5 : Hid (Below w.heap.size w w5) := by
                show Below _ _ _
                refine hbel.out.trans (Below.mono (Below.trans ?hc (Below.mono b5 ?hd)) hbel.out.size)
                case hc => repeat' (first | assumption | exact Below.refl _ _ | (with_reducible refine Below.drew ?_) | (with_reducible refine Below.alloc ?_ ?_ _) | exact Nat.le_refl _ | (show (_ : Nat) ≤ _; omega) | (show (_ : Nat) ≤ _; simp; done) | (show (_ : Nat) ≤ _; simp; omega))
                case hd => simp; omega
              clear b5
              go_wp2
              go_ret
              exact ⟨rfl, B5.out⟩
            · go_wp2_with fail
              refine (LS.out _).mono ?_
              rintro e w5 ⟨rfl, b5⟩
              have B5 : Hid (Below w.heap.size w w5) := by
                show Below _ _ _
                refine hbel.out.trans (Below.mono (Below.trans ?hc (Below.mono b5 ?hd)) hbel.out.size)
                case hc => repeat' (first | assumption | exact Below.refl _ _ | (with_reducible refine Below.drew ?_) | (with_reducible refine Below.alloc ?_ ?_ _) | exact Nat.le_refl _ | (show (_ : Nat) ≤ _; omega) | (show (_ : Nat) ≤ _; simp; done) | (show (_ : Nat) ≤ _; simp; omega))
                case hd => simp; omega
              clear b5
              go_wp2
              go_ret
              exact ⟨rfl, B5.out⟩
          · simp only [if_true] at hz
            subst hz
            rcases hne with hne | ⟨rfl, hne⟩
            · go_wp2_with fail
              refine (LS.out _).mono ?_
              rintro e w5 ⟨rfl, b5⟩
              have B5 : Hid (Below w.heap.size w w5) := by
                show Below _ _ _
                refine hbel.out.trans (Below.mono (Below.trans ?hc (Below.mono b5 ?hd)) hbel.out.size)
                case hc => repeat' (first | assumption | exact Below.refl _ _ | (with_reducible refine Below.drew ?_) | (with_reducible refine Below.alloc ?_ ?_ _) | exact Nat.le_refl _ | (show (_ : Nat) ≤ _; omega) | (show (_ : Nat) ≤ _; simp; done) | (show (_ : Nat) ≤ _; simp; omega))
                case hd => simp; omega
              clear b5
              go_wp2
              go_ret
              exact ⟨rfl, B5.out⟩
            · go_wp2_with fail
              refine (LS.out _).mono ?_
              rintro e w5 ⟨rfl, b5⟩
              have B5 : Hid (Below w.heap.size w w5) := by
                show Below _ _ _
                refine hbel.out.trans (Below.mono (Below.trans ?hc (Below.mono b5 ?hd)) hbel.out.size)
                case hc => repeat' (first | assumption | exact Below.refl _ _ | (with_reducible refine Below.drew ?_) | (with_reducible refine Below.alloc ?_ ?_ _) | exact Nat.le_refl _ | (show (_ : Nat) ≤ _; omega) | (show (_ : Nat) ≤ _; simp; done) | (show (_ : Nat) ≤ _; simp; omega))
                case hd => simp; omega
              clear b5
              go_wp2
              go_ret
              exact ⟨rfl, B5.out⟩
end Go.Proofs.YtmiepnnpccpicaaGreat.Place

namespace Go.Proofs.YtmiepnnpccpicaaGreat.Place
open Go.RowKit Stamp
attribute [local go_sem ↓] Go.wp_at_zero Go.wp_at_succ
set_option maxHeartbeats 1000000 in
theorem final_any {v : Value} {l : List Run} {w : World} {k : Nat} {x : Run} (hv : Runs w v l) (hk : l.length = k + 1) (hx : l.getD k zrun = x) (h1 : One x) (hl : l.length ≤ 1000) :
    Calls Tryz.prog 99 #[v] w fun e w' => e = .returned (.agg #[.int .u32 ((x.t : Int) + (x.m - 1)), .int .u8 (x.r : Int)]) ∧ Below w.heap.size w w' := by
  obtain ⟨ao, cap, rfl⟩ := hv.shape
  obtain ⟨b, off, rfl, hb, hx0, hx1, hx2⟩ := hv.at k (by omega)
  rw [hx] at hx0 hx1 hx2
  obtain ⟨n, hn⟩ : ∃ n, n = l.length := ⟨_, rfl⟩
  rw [← hn] at hk hl ⊢
  obtain ⟨t, r, m, ht, hr, hm⟩ := x
  unfold One at h1
  simp only at hx0 hx1 hx2 h1
  obtain ⟨o1, o2, o3, o4, o5, o6⟩ := h1
  have q2 : (0 : Int) ≤ (k : Int) := by omega
  have q3 : (k : Int) < (n : Int) := by omega
  have e1 : (n : Int) - 1 = (k : Int) := by omega
  have e2 : IntKind.i64.wrap (k : Int) = (k : Int) := IntWalk.i64_in _ (by omega)
  have e3 : IntKind.u32.wrap (m - 1) = m - 1 := by rw [IntKind.wrap_u32]; omega
  have e4 : IntKind.u32.wrap ((t : Int) + (m - 1)) = (t : Int) + (m - 1) := by rw [IntKind.wrap_u32]; omega
  have e5 : IntKind.i64.wrap (m - 1) = m - 1 := IntWalk.i64_in _ (by omega)
  have HB0 : Hid (b < w.heap.size) := hb
  have hne : ¬ b = w.heap.size := by omega
  clear hv hn hk hx
  go_enter Tryz.func99, Tryz.ntmps99
  go_wp2
  refine bodyPost_ret (v := .agg #[.int .u32 ((t : Int) + (m - 1)), .int .u8 (r : Int)]) (by simp [results, Tryz.results99, go_sem]) rfl ⟨rfl, ?_⟩
  exact ((Below.refl _ _).alloc (Nat.le_refl _) _).alloc (by simp) _
end Go.Proofs.YtmiepnnpccpicaaGreat.Place

namespace Go.Proofs.YtmiepnnpccpicaaGreat.Pt
open Go.RowKit
theorem refIs_yes (n : Int) (h : IsPt n) (w : World) : Calls Tryz.prog 101 #[.int .i64 n] w fun e w' => e = .returned (.bool true) ∧ w = w' := by
  obtain ⟨h1, h2, h3⟩ := h
  have q1 : decide (0 ≤ n) = true := by simpa using h1
  have q2 : decide (n ≤ 1114111) = true := by simpa using h2
  by_cases h4 : n < 55296
  · have q3 : decide (n < 55296) = true := by simpa using h4
    go_enter Tryz.func101, Tryz.ntmps101
    go_wp2
    go_ret
    exact ⟨rfl, rfl⟩
  · have q3 : decide (n < 55296) = false := by simpa using h4
    have q4 : decide (57343 < n) = true := by simp; omega
    go_enter Tryz.func101, Tryz.ntmps101
    go_wp2
    go_ret
    exact ⟨rfl, rfl⟩
theorem refIs_no (n : Int) (h : ¬ IsPt n) (w : World) : Calls Tryz.prog 101 #[.int .i64 n] w fun e w' => e = .returned (.bool false) ∧ w = w' := by
  rw [isPt_iff] at h
  by_cases h1 : 0 ≤ n
  · have q1 : decide (0 ≤ n) = true := by simpa using h1
    by_cases h2 : n ≤ 1114111
    · have q2 : decide (n ≤ 1114111) = true := by simpa using h2
      have q3 : decide (n < 55296) = false := by simp; omega
      have q4 : decide (57343 < n) = false := by simp; omega
      clear h
      go_enter Tryz.func101, Tryz.ntmps101
      go_wp2
      go_ret
      exact ⟨rfl, rfl⟩
    · have q2 : decide (n ≤ 1114111) = false := by simpa using h2
      clear h
      go_enter Tryz.func101, Tryz.ntmps101
      go_wp2
      go_ret
      exact ⟨rfl, rfl⟩
  · have q1 : decide (0 ≤ n) = false := by simpa using h1
    clear h
    go_enter Tryz.func101, Tryz.ntmps101
    go_wp2
    go_ret
    exact ⟨rfl, rfl⟩
theorem refIs_any (n : Int) (w : World) : Calls Tryz.prog 101 #[.int .i64 n] w fun e w' => e = .returned (.bool (isB n)) ∧ w = w' := by
  by_cases h : IsPt n
  · rw [show isB n = true from decide_eq_true h]; exact refIs_yes n h w
  · rw [show isB n = false from decide_eq_false h]; exact refIs_no n h w
end Go.Proofs.YtmiepnnpccpicaaGreat.Pt

namespace Go.Proofs.YtmiepnnpccpicaaGreat
open Go.RowKit Go.WideShapes
theorem Enc.rows_append {α : Type} {E : Enc α} {w : World} : ∀ {cs ds : List Value} {l m : List α}, E.rows w cs l → E.rows w ds m → E.rows w (cs ++ ds) (l ++ m)
  | cs, ds, [], m, h, k => by rw [show cs = [] from h]; exact k
  | cs, ds, a :: l, m, ⟨c, d, h1, h2, h3⟩, k => ⟨c, d ++ ds, by rw [h1, List.append_assoc], h2, Enc.rows_append h3 k⟩
theorem Enc.rows_snoc {α : Type} {E : Enc α} {w : World} {cs c : List Value} {l : List α} {a : α} (h : E.rows w cs l) (k : E.inn w c a) : E.rows w (cs ++ c) (l ++ [a]) :=
  Enc.rows_append h ⟨c, [], by simp, k, rfl⟩
theorem Enc.rows_take {α : Type} {E : Enc α} {w : World} : ∀ {cs : List Value} {l : List α} (k : Nat), E.rows w cs l → E.rows w (cs.take (k * E.sz)) (l.take k)
  | cs, [], k, h => by rw [show cs = [] from h]; simp [Enc.rows]
  | cs, a :: l, 0, _ => by simp [Enc.rows]
  | cs, a :: l, k + 1, ⟨c, d, h1, h2, h3⟩ => by
    refine ⟨c, d.take (k * E.sz), ?_, h2, Enc.rows_take k h3⟩
    rw [h1, List.take_append, E.len h2, List.take_of_length_le (by rw [E.len h2, Nat.succ_mul]; omega), show (k + 1) * E.sz - E.sz = k * E.sz by rw [Nat.succ_mul]; omega]
theorem Enc.rows_drop {α : Type} {E : Enc α} {w : World} : ∀ {cs : List Value} {l : List α} (k : Nat), E.rows w cs l → E.rows w (cs.drop (k * E.sz)) (l.drop k)
  | cs, [], k, h => by rw [show cs = [] from h]; simp [Enc.rows]
  | cs, a :: l, 0, h => by simpa using h
  | cs, a :: l, k + 1, ⟨c, d, h1, h2, h3⟩ => by
    have := Enc.rows_drop k h3
    rw [h1, List.drop_append, E.len h2, List.drop_eq_nil_of_le (by rw [E.len h2, Nat.succ_mul]; omega), List.nil_append, show (k + 1) * E.sz - E.sz = k * E.sz by rw [Nat.succ_mul]; omega]
    exact this
theorem Seq.take {α : Type} {E : Enc α} {w : World} {ao : Option Addr} {n cap : Nat} {l : List α} (h : Seq E w (.slice ao n cap) l) {m : Nat} (hm : m ≤ l.length) : Seq E w (.slice ao m cap) (l.take m) := by
  obtain ⟨cs, ⟨h1, ao', cap', he, h2, h3, h4, h5⟩, h6⟩ := h
  obtain ⟨rfl, rfl, rfl⟩ := Value.slice.inj he
  have hl : (l.take m).length = m := by rw [List.length_take]; omega
  refine ⟨cs.take (m * E.sz), ⟨?_, ao, cap, by rw [hl], by omega, h3, h4, ?_⟩, Enc.rows_take m h6⟩
  · rw [List.length_take, h1, hl]
    exact Nat.min_eq_left (Nat.mul_le_mul_right _ hm)
  · rcases h5 with h5 | ⟨b, off, rfl, hb, hc⟩
    · left; rw [h5]; simp
    · right
      refine ⟨b, off, rfl, hb, fun j u hj => hc j u ?_⟩
      rw [List.getElem?_take] at hj
      split at hj
      · exact hj
      · cases hj
end Go.Proofs.YtmiepnnpccpicaaGreat

namespace Go.Proofs.YtmiepnnpccpicaaGreat.Ops
open Go.RowKit Stamp Go.Proofs.YtmiepnnpccpicaaGreat.Place
attribute [local go_sem ↓] Go.wp_at_zero Go.wp_at_succ
theorem refContent_any {v : Value} {o : Opn} (w : World) :
    Calls Tryz.prog 126 #[opv o v] w fun e w' => e = .returned (.bool (contB o)) ∧ Below w.heap.size w w' := by
  obtain ⟨k, t, r, l, p, hk, ht, hr, hp⟩ := o
  unfold opv contB
  simp only
  have B0 : Hid (Below w.heap.size w (w.alloc (.cells #[.int .u8 (k : Int), .int .u32 (t : Int), .int .u8 (r : Int), v, .int .i64 p] 47))) := (Below.refl _ _).alloc (Nat.le_refl _) _
  by_cases h1 : k = 1
  · subst h1
    rw [show (decide (1 = 1) || decide (1 = 3)) = true from rfl]
    go_enter Tryz.func126, Tryz.ntmps126
    go_wp2
    go_ret
    exact ⟨rfl, B0.out⟩
  · have q1 : ((k : Int) == 1) = false := by simp; omega
    by_cases h3 : k = 3
    · subst h3
      rw [show (decide (3 = 1) || decide (3 = 3)) = true from rfl]
      go_enter Tryz.func126, Tryz.ntmps126
      go_wp2
      go_ret
      exact ⟨rfl, B0.out⟩
    · have q3 : ((k : Int) == 3) = false := by simp; omega
      rw [decide_eq_false h1, decide_eq_false h3, Bool.or_false]
      go_enter Tryz.func126, Tryz.ntmps126
      go_wp2
      go_ret
      exact ⟨rfl, B0.out⟩
theorem refOwn_any {v : Value} {o : Opn} (w : World) :
    Calls Tryz.prog 100 #[opv o v] w fun e w' => e = .returned (.bool (ownB o)) ∧ Below w.heap.size w w' := by
  obtain ⟨k, t, r, l, p, hk, ht, hr, hp⟩ := o
  unfold opv ownB
  simp only
  have B0 : Hid (Below w.heap.size w (w.alloc (.cells #[.int .u8 (k : Int), .int .u32 (t : Int), .int .u8 (r : Int), v, .int .i64 p] 47))) := (Below.refl _ _).alloc (Nat.le_refl _) _
  by_cases h1 : k = 1
  · subst h1
    rw [show (decide (1 = 1) || decide (1 = 2)) = true from rfl]
    go_enter Tryz.func100, Tryz.ntmps100
    go_wp2
    go_ret
    exact ⟨rfl, B0.out⟩
  · have q1 : ((k : Int) == 1) = false := by simp; omega
    by_cases h3 : k = 2
    · subst h3
      rw [show (decide (2 = 1) || decide (2 = 2)) = true from rfl]
      go_enter Tryz.func100, Tryz.ntmps100
      go_wp2
      go_ret
      exact ⟨rfl, B0.out⟩
    · have q3 : ((k : Int) == 2) = false := by simp; omega
      rw [decide_eq_false h1, decide_eq_false h3, Bool.or_false]
      go_enter Tryz.func100, Tryz.ntmps100
      go_wp2
      go_ret
      exact ⟨rfl, B0.out⟩
set_option maxHeartbeats 4000000 in
theorem refSame_any {u v : Value} {a b : Opn} {w : World} (hu : Runs w u a.pl) (hv : Runs w v b.pl) :
    Calls Tryz.prog 70 #[opv a u, opv b v] w fun e w' => e = .returned (.bool (sameB a b)) ∧ Below w.heap.size w w' := by
  obtain ⟨k, t, r, l, p, hk, ht, hr, hp⟩ := a
  obtain ⟨k', t', r', l', p', hk', ht', hr', hp'⟩ := b
  unfold opv sameB
  simp only at hu hv ⊢
  have B0 : Hid (Below w.heap.size w ((w.alloc (.cells #[.int .u8 (k : Int), .int .u32 (t : Int), .int .u8 (r : Int), u, .int .i64 p] 47)).alloc (.cells #[.int .u8 (k' : Int), .int .u32 (t' : Int), .int .u8 (r' : Int), v, .int .i64 p'] 47))) := ((Below.refl _ _).alloc (Nat.le_refl _) _).alloc (by simp) _
  by_cases h1 : k = k'
  · subst h1
    by_cases h2 : t = t'
    · subst h2
      by_cases h3 : r = r'
      · subst h3
        have C : Hid (∀ W : World, Below w.heap.size w W → Calls Tryz.prog 11 #[u, v] W fun e w' => e = .returned (.bool (decide (l = l'))) ∧ Below W.heap.size W w') := fun W hW => Place.refSame_any (hu.keeps hW) (hv.keeps hW)
        have KK : Hid (∀ W : World, Below ((w.alloc (.cells #[.int .u8 (k : Int), .int .u32 (t : Int), .int .u8 (r : Int), u, .int .i64 p] 47)).alloc (.cells #[.int .u8 (k : Int), .int .u32 (t : Int), .int .u8 (r : Int), v, .int .i64 p'] 47)).heap.size ((w.alloc (.cells #[.int .u8 (k : Int), .int .u32 (t : Int), .int .u8 (r : Int), u, .int .i64 p] 47)).alloc (.cells #[.int .u8 (k : Int), .int .u32 (t : Int), .int .u8 (r : Int), v, .int .i64 p'] 47)) W →
            W.cell? ⟨w.heap.size, 4, none⟩ = some (.int .i64 p) ∧ W.cell? ⟨w.heap.size + 1, 4, none⟩ = some (.int .i64 p')) := fun W hW => by
          have a1 := five_cells (w := w) (((Below.refl _ _).alloc (Nat.le_refl _) _).trans (hW.mono (by simp)))
          have a2 := five_cells (w := w.alloc _) hW
          exact ⟨a1.2.2.2.2, by simpa using a2.2.2.2.2⟩
        by_cases h4 : l = l'
        · subst h4
          rw [decide_eq_true rfl] at C
          obtain ⟨q, hq⟩ : ∃ q, decide (p = p') = q := ⟨_, rfl⟩
          rw [show decide (k = k ∧ (t = t ∧ r = r) ∧ l = l ∧ p = p') = q by rw [← hq]; simp]
          have q5 : (p == p') = q := by rw [← hq]; simp [BEq.beq]
          clear hu hv hq
          go_enter Tryz.func70, Tryz.ntmps70
          go_wp2_with fail
          refine (C.out _ B0.out).mono ?_
          rintro e w1 ⟨rfl, b1⟩
          obtain ⟨c1, c2⟩ := KK.out _ b1
          have B1 := Lib.hid (bt B0.out b1)
          clear b1
          go_wp2
          go_ret
          exact ⟨rfl, B1.out⟩
        · rw [decide_eq_false h4] at C
          rw [decide_eq_false (fun h => h4 h.2.2.1)]
          clear hu hv h4
          go_enter Tryz.func70, Tryz.ntmps70
          go_wp2_with fail
          refine (C.out _ B0.out).mono ?_
          rintro e w1 ⟨rfl, b1⟩
          have B1 := Lib.hid (bt B0.out b1)
          clear b1
          go_wp2
          go_ret
          exact ⟨rfl, B1.out⟩
      · rw [decide_eq_false (fun h => h3 h.2.1.2)]
        have q3 : ((r : Int) == (r' : Int)) = false := by simp; omega
        have q4 : decide (r = r') = false := decide_eq_false h3
        clear hu hv
        go_enter Tryz.func70, Tryz.ntmps70
        go_wp2
        go_ret
        exact ⟨rfl, B0.out⟩
    · rw [decide_eq_false (fun h => h2 h.2.1.1)]
      have q3 : ((t : Int) == (t' : Int)) = false := by simp; omega
      have q4 : decide (t = t') = false := decide_eq_false h2
      clear hu hv
      go_enter Tryz.func70, Tryz.ntmps70
      go_wp2
      go_ret
      exact ⟨rfl, B0.out⟩
  · rw [decide_eq_false (fun h => h1 h.1)]
    have q3 : ((k : Int) == (k' : Int)) = false := by simp; omega
    have q4 : decide (k = k') = false := decide_eq_false h1
    clear hu hv
    go_enter Tryz.func70, Tryz.ntmps70
    go_wp2
    go_ret
    exact ⟨rfl, B0.out⟩
set_option maxHeartbeats 4000000 in
theorem refTwin_any {v : Value} {o : Opn} {w : World} (hv : Runs w v o.pl) (hl : o.pl.length ≤ 8796093022208) :
    Calls Tryz.prog 51 #[opv o v] w fun e w' => ∃ v', e = .returned (opv o v') ∧ w'.ownsRow w.heap.size 40 3 v' o.pl.length (runs o.pl) ∧ Below w.heap.size w w' := by
  obtain ⟨k, t, r, l, p, hk, ht, hr, hp⟩ := o
  unfold opv
  simp only at hv hl ⊢
  have C : Hid (∀ W : World, Below w.heap.size w W → Calls Tryz.prog 21 #[v] W fun e w' => ∃ v', e = .returned v' ∧ w'.ownsRow W.heap.size 40 3 v' l.length (runs l) ∧ Below W.heap.size W w') := fun W hW => twin_any (hv.keeps hW) hl
  have KK : Hid (∀ W : World, Below ((w.alloc (.cells #[.int .u8 (k : Int), .int .u32 (t : Int), .int .u8 (r : Int), v, .int .i64 p] 47)).alloc (.cells #[.int .u8 0, .int .u32 0, .int .u8 0, .slice none 0 0, .int .i64 0] 47)).heap.size ((w.alloc (.cells #[.int .u8 (k : Int), .int .u32 (t : Int), .int .u8 (r : Int), v, .int .i64 p] 47)).alloc (.cells #[.int .u8 0, .int .u32 0, .int .u8 0, .slice none 0 0, .int .i64 0] 47)) W →
      W.heap[w.heap.size]? = some (.cells #[.int .u8 (k : Int), .int .u32 (t : Int), .int .u8 (r : Int), v, .int .i64 p] 47) ∧ W.heap[w.heap.size + 1]? = some (.cells #[.int .u8 0, .int .u32 0, .int .u8 0, .slice none 0 0, .int .i64 0] 47)) := fun W hW =>
    ⟨blk_below hW (blk_old (blk_new rfl)), blk_below hW (blk_new (by simp))⟩
  have B0 : Hid (Below w.heap.size w ((w.alloc (.cells #[.int .u8 (k : Int), .int .u32 (t : Int), .int .u8 (r : Int), v, .int .i64 p] 47)).alloc (.cells #[.int .u8 0, .int .u32 0, .int .u8 0, .slice none 0 0, .int .i64 0] 47))) := ((Below.refl _ _).alloc (Nat.le_refl _) _).alloc (by simp) _
  clear hv hl
  go_enter Tryz.func51, Tryz.ntmps51
  go_wp2_with fail
  refine (C.out _ B0.out).mono ?_
  rintro e w1 ⟨v1, rfl, o1, b1⟩
  obtain ⟨ao, cap, rfl⟩ : ∃ ao cap, v1 = .slice ao l.length cap := Sees.shape (Sees.own o1)
  obtain ⟨k1, k2⟩ := KK.out _ b1
  have B1 := Lib.hid (bt B0.out b1)
  have O1 : Hid (w1.ownsRow (w.heap.size + 2) 40 3 (.slice ao l.length cap) l.length (runs l)) := op_base o1 (by simp)
  have k3 := heap_setCell_same w1 w.heap.size 3 _ _ (.slice ao l.length cap) k1
  have k4 : (w1.setCell ⟨w.heap.size, 3, none⟩ (.slice ao l.length cap)).heap[w.heap.size + 1]? = some (.cells #[.int .u8 0, .int .u32 0, .int .u8 0, .slice none 0 0, .int .i64 0] 47) := by
    rw [heap_setCell_other _ _ _ _ (by simp)]
    exact k2
  have f1 := free5 k1 3
  have HK := Lib.hid k3
  have HK4 := Lib.hid k4
  obtain ⟨c0, c1, c2, c3, c4⟩ := cells5 k1
  obtain ⟨d0, d1, d2, d3, d4⟩ := cells5 k2
  have OS : Hid ((w1.setCell ⟨w.heap.size, 3, none⟩ (.slice ao l.length cap)).ownsRow (w.heap.size + 2) 40 3 (.slice ao l.length cap) l.length (runs l)) := op_set O1.out (by omega)
  have BS : Hid (Below w.heap.size w (w1.setCell ⟨w.heap.size, 3, none⟩ (.slice ao l.length cap))) := B1.out.setCell (p := ⟨w.heap.size, 3, none⟩) (Nat.le_refl _) _
  have f2 : ∀ o, w1.frozen? ⟨w.heap.size + 1, o, none⟩ = false := fun o => free5 k2 o
  clear o1 b1 k1 k2 k3 k4
  go_wp2_with fail
  obtain ⟨W, hW⟩ : ∃ W, W = put5 (w1.setCell ⟨w.heap.size, 3, none⟩ (.slice ao l.length cap)) (w.heap.size + 1) (.int .u8 (k : Int)) (.int .u32 (t : Int)) (.int .u8 (r : Int)) (.slice ao l.length cap) (.int .i64 p) := ⟨_, rfl⟩
  have OW := put5_own (.int .u8 (k : Int)) (.int .u32 (t : Int)) (.int .u8 (r : Int)) (.slice ao l.length cap) (.int .i64 p) OS.out (show w.heap.size + 1 < w.heap.size + 2 by omega)
  have BW := put5_below (.int .u8 (k : Int)) (.int .u32 (t : Int)) (.int .u8 (r : Int)) (.slice ao l.length cap) (.int .i64 p) (show w.heap.size ≤ w.heap.size + 1 by omega) BS.out
  obtain ⟨e0, e1, e2, e3, e4⟩ := cells5 (put5_same (.int .u8 (k : Int)) (.int .u32 (t : Int)) (.int .u8 (r : Int)) (.slice ao l.length cap) (.int .i64 p) HK4.out)
  rw [← hW] at OW BW e0 e1 e2 e3 e4
  unfold put5 at hW
  rw [← hW]
  exact bodyPost_ret (v := .agg #[.int .u8 (k : Int), .int .u32 (t : Int), .int .u8 (r : Int), .slice ao l.length cap, .int .i64 p]) (by simp [results, Tryz.results51, go_sem, e0, e1, e2, e3, e4]) rfl ⟨_, rfl, op_base OW (by omega), BW⟩
end Go.Proofs.YtmiepnnpccpicaaGreat.Ops

namespace Go.Proofs.YtmiepnnpccpicaaGreat.Ops
open Go.RowKit Stamp Go.Proofs.YtmiepnnpccpicaaGreat.Place
attribute [local go_sem ↓] Go.wp_at_zero Go.wp_at_succ
set_option maxHeartbeats 8000000 in
theorem refMayO_any {v : Value} {o : Opn} {w : World} (hv : Runs w v o.pl) :
    Calls Tryz.prog 61 #[opv o v] w fun e w' => e = .returned (.bool (mayO o)) ∧ Below w.heap.size w w' := by
  obtain ⟨k, t, r, l, p, hk, ht, hr, hp⟩ := o
  unfold opv
  simp only at hv ⊢
  obtain ⟨b, hb⟩ : ∃ b, mayO ⟨k, t, r, l, p, hk, ht, hr, hp⟩ = b := ⟨_, rfl⟩
  rw [hb]
  have hb2 : (may t r && (mayB l && kindF k t r (lastV l).1 (lastV l).2 p)) = b := hb
  clear hb
  have HB := Lib.hid hb2
  have HV := Lib.hid hv
  have B0 : Hid (Below w.heap.size w (w.alloc (.cells #[.int .u8 (k : Int), .int .u32 (t : Int), .int .u8 (r : Int), v, .int .i64 p] 47))) := (Below.refl _ _).alloc (Nat.le_refl _) _
  clear hb2 hv
  have q1 : decide ((k : Int) < 1) = decide (k < 1) := by simp; omega
  by_cases k0 : k = 0
  · subst k0
    obtain rfl : false = b := by rw [← HB.out]; simp [kindF]
    go_enter Tryz.func61, Tryz.ntmps61
    go_wp2
    go_ret
    exact ⟨rfl, B0.out⟩
  by_cases k5 : 4 < k
  · obtain rfl : false = b := by rw [← HB.out]; unfold kindF; rw [if_neg (by omega), if_neg (by omega), if_neg (by omega)]; simp
    have s1 : decide ((k : Int) < 1) = false := decide_eq_false (by omega)
    have s2 : decide ((4 : Int) < (k : Int)) = true := decide_eq_true (by omega)
    clear q1
    go_enter Tryz.func61, Tryz.ntmps61
    go_wp2
    go_ret
    exact ⟨rfl, B0.out⟩
  have s1 : decide ((k : Int) < 1) = false := decide_eq_false (by omega)
  have s2 : decide ((4 : Int) < (k : Int)) = false := decide_eq_false (by omega)
  have M : Hid (∀ W : World, Calls Tryz.prog 98 #[.agg #[.int .u32 (t : Int), .int .u8 (r : Int)]] W fun e w' => e = .returned (.bool (may t r)) ∧ Below W.heap.size W w') := fun W => refMay_any t r W
  clear q1
  cases h1 : may t r
  · obtain rfl : false = b := by rw [← HB.out, h1]; rfl
    rw [h1] at M
    clear h1
    go_enter Tryz.func61, Tryz.ntmps61
    go_wp2_with fail
    refine (M.out _).mono ?_
    rintro e w1 ⟨rfl, b1⟩
    have B1 := Lib.hid (bt B0.out b1)
    clear b1
    go_wp2
    go_ret
    exact ⟨rfl, B1.out⟩
  rw [h1] at M
  cases h2 : mayB l
  · obtain rfl : false = b := by rw [← HB.out, h1, h2]; rfl
    have M2 : Hid (∀ W : World, Below w.heap.size w W → Calls Tryz.prog 27 #[v] W fun e w' => e = .returned (.bool false) ∧ Below W.heap.size W w') := fun W hW => refMay_is (HV.out.keeps hW) h2
    clear h1 h2
    go_enter Tryz.func61, Tryz.ntmps61
    go_wp2_with fail
    refine (M.out _).mono ?_
    rintro e w1 ⟨rfl, b1⟩
    obtain ⟨c0, c1, c2, c3, c4⟩ := five_cells b1
    have B1 := Lib.hid (bt B0.out b1)
    clear b1
    go_wp2_with fail
    refine (M2.out _ B1.out).mono ?_
    rintro e w2 ⟨rfl, b2⟩
    have B2 := Lib.hid (bt B1.out b2)
    clear b2 c0 c1 c2 c3 c4
    go_wp2
    go_ret
    exact ⟨rfl, B2.out⟩
  have M2 : Hid (∀ W : World, Below w.heap.size w W → Calls Tryz.prog 27 #[v] W fun e w' => e = .returned (.bool true) ∧ Below W.heap.size W w') := fun W hW => refMay_is (HV.out.keeps hW) h2
  have hM := (mayB_iff l).1 h2
  have hkk : kindF k t r (lastV l).1 (lastV l).2 p = b := by rw [← HB.out, h1, h2]; rfl
  obtain ⟨j, hj⟩ : ∃ j, l.length = j + 1 := ⟨l.length - 1, by have := hM.1; omega⟩
  have hlv : lastV l = (((l.getD j zrun).t : Int) + ((l.getD j zrun).m - 1), ((l.getD j zrun).r : Int)) := by unfold lastV; rw [if_pos h2, hj, Nat.add_sub_cancel]
  have FI : Hid (∀ W : World, Below w.heap.size w W → Calls Tryz.prog 99 #[v] W fun e w' => e = .returned (.agg #[.int .u32 (lastV l).1, .int .u8 (lastV l).2]) ∧ Below W.heap.size W w') := fun W hW => by
    rw [hlv]
    exact final_any (HV.out.keeps hW) hj rfl (chain_one hM.2.2.1 (by omega)) (by have := hM.2.1; omega)
  obtain ⟨lt, hlt⟩ : ∃ x, x = (lastV l).1 := ⟨_, rfl⟩
  obtain ⟨lr, hlr⟩ : ∃ x, x = (lastV l).2 := ⟨_, rfl⟩
  rw [← hlt, ← hlr] at FI hkk
  have HK := Lib.hid hkk
  have OW : Hid (∀ W : World, Calls Tryz.prog 100 #[.agg #[.int .u8 (k : Int), .int .u32 (t : Int), .int .u8 (r : Int), v, .int .i64 p]] W fun e w' => e = .returned (.bool (decide (k = 1) || decide (k = 2))) ∧ Below W.heap.size W w') := fun W => refOwn_any (v := v) (o := ⟨k, t, r, l, p, hk, ht, hr, hp⟩) W
  have IS : Hid (∀ W : World, Calls Tryz.prog 101 #[.int .i64 p] W fun e w' => e = .returned (.bool (Pt.isB p)) ∧ W = w') := fun W => Pt.refIs_any p W
  clear h1 h2 hM hkk hj hlv hlt hlr HB
  have kk : k = 1 ∨ k = 2 ∨ (k = 3 ∨ k = 4) := by omega
  clear k0 k5
  rcases kk with rfl | rfl | hk3
  · have ho : (decide (1 = 1) || decide (1 = 2)) = true := rfl
    have hq : (decide ((lt, lr) = ((t : Int), (r : Int))) && Pt.isB p) = b := HK.out
    rw [ho] at OW
    clear ho HK
    have pair : (lt = (t : Int) ∧ lr = (r : Int)) ∨ (¬ lt = (t : Int)) ∨ (lt = (t : Int) ∧ ¬ lr = (r : Int)) := by omega
    rcases pair with ⟨rfl, rfl⟩ | h | ⟨rfl, h⟩
    · rw [decide_eq_true rfl, Bool.true_and] at hq
      rw [hq] at IS
      clear hq
      cases b
      all_goals
        go_enter Tryz.func61, Tryz.ntmps61
        go_wp2_with fail
        refine (M.out _).mono ?_
        rintro e w1 ⟨rfl, b1⟩
        obtain ⟨c0, c1, c2, c3, c4⟩ := five_cells b1
        have B1 := Lib.hid (bt B0.out b1)
        have C1 := Lib.hid b1
        clear b1
        go_wp2_with fail
        refine (M2.out _ B1.out).mono ?_
        rintro e w2 ⟨rfl, b2⟩
        have B2 := Lib.hid (bt B1.out b2)
        have C2 := Lib.hid (bt C1.out b2)
        clear b2 c0 c1 c2 c3 c4
        obtain ⟨c0, c1, c2, c3, c4⟩ := five_cells C2.out
        go_wp2_with fail
        refine (FI.out _ B2.out).mono ?_
        rintro e w3 ⟨rfl, b3⟩
        have B3 := Lib.hid (bt B2.out b3)
        have C3 := Lib.hid (bt C2.out b3)
        clear b3 c0 c1 c2 c3 c4
        obtain ⟨c0, c1, c2, c3, c4⟩ := five_cells C3.out
        have z3 : w.heap.size < w3.heap.size := by have := C3.out.size; simp at this; omega
        have B3' := Lib.hid (fun o : Obj => B3.out.alloc B3.out.size o)
        have C3' := Lib.hid (fun o : Obj => C3.out.alloc C3.out.size o)
        go_wp2_with fail
        refine (OW.out _).mono ?_
        rintro e w4 ⟨rfl, b4⟩
        have B4 := Lib.hid (bt (B3'.out _) b4)
        have C4 := Lib.hid (bt (C3'.out _) b4)
        have D4 := Lib.hid b4
        clear b4 c0 c1 c2 c3 c4
        obtain ⟨c0, c1, c2, c3, c4⟩ := five_cells C4.out
        obtain ⟨d0, d1, -, -⟩ := two_cells D4.out
        go_wp2_with fail
        refine (OW.out _).mono ?_
        rintro e w5 ⟨rfl, b5⟩
        have B5 := Lib.hid (bt B4.out b5)
        have C5 := Lib.hid (bt C4.out b5)
        have D5 := Lib.hid (bt D4.out b5)
        clear b5 c0 c1 c2 c3 c4 d0 d1
        obtain ⟨c0, c1, c2, c3, c4⟩ := five_cells C5.out
        obtain ⟨d0, d1, -, -⟩ := two_cells D5.out
        go_wp2_with fail
        refine (IS.out _).mono ?_
        rintro e w6 ⟨rfl, rfl⟩
        go_wp2
        go_ret
        exact ⟨rfl, B5.out⟩
    · rw [decide_eq_false (fun e => h (Prod.mk.inj e).1), Bool.false_and] at hq
      subst hq
      have q8 : (lt == (t : Int)) = false := by simp; omega
      have q7 : ¬ (t : Int) = lt := fun e => h e.symm
      go_enter Tryz.func61, Tryz.ntmps61
      go_wp2_with fail
      refine (M.out _).mono ?_
      rintro e w1 ⟨rfl, b1⟩
      obtain ⟨c0, c1, c2, c3, c4⟩ := five_cells b1
      have B1 := Lib.hid (bt B0.out b1)
      have C1 := Lib.hid b1
      clear b1
      go_wp2_with fail
      refine (M2.out _ B1.out).mono ?_
      rintro e w2 ⟨rfl, b2⟩
      have B2 := Lib.hid (bt B1.out b2)
      have C2 := Lib.hid (bt C1.out b2)
      clear b2 c0 c1 c2 c3 c4
      obtain ⟨c0, c1, c2, c3, c4⟩ := five_cells C2.out
      go_wp2_with fail
      refine (FI.out _ B2.out).mono ?_
      rintro e w3 ⟨rfl, b3⟩
      have B3 := Lib.hid (bt B2.out b3)
      have C3 := Lib.hid (bt C2.out b3)
      clear b3 c0 c1 c2 c3 c4
      obtain ⟨c0, c1, c2, c3, c4⟩ := five_cells C3.out
      have z3 : w.heap.size < w3.heap.size := by have := C3.out.size; simp at this; omega
      have B3' := Lib.hid (fun o : Obj => B3.out.alloc B3.out.size o)
      have C3' := Lib.hid (fun o : Obj => C3.out.alloc C3.out.size o)
      go_wp2_with fail
      refine (OW.out _).mono ?_
      rintro e w4 ⟨rfl, b4⟩
      have B4 := Lib.hid (bt (B3'.out _) b4)
      have C4 := Lib.hid (bt (C3'.out _) b4)
      have D4 := Lib.hid b4
      clear b4 c0 c1 c2 c3 c4
      obtain ⟨c0, c1, c2, c3, c4⟩ := five_cells C4.out
      obtain ⟨d0, d1, -, -⟩ := two_cells D4.out
      go_wp2
      go_ret
      exact ⟨rfl, B4.out⟩
    · rw [decide_eq_false (fun e => h (Prod.mk.inj e).2), Bool.false_and] at hq
      subst hq
      have q8 : (lr == (r : Int)) = false := by simp; omega
      have q7 : ¬ (r : Int) = lr := fun e => h e.symm
      go_enter Tryz.func61, Tryz.ntmps61
      go_wp2_with fail
      refine (M.out _).mono ?_
      rintro e w1 ⟨rfl, b1⟩
      obtain ⟨c0, c1, c2, c3, c4⟩ := five_cells b1
      have B1 := Lib.hid (bt B0.out b1)
      have C1 := Lib.hid b1
      clear b1
      go_wp2_with fail
      refine (M2.out _ B1.out).mono ?_
      rintro e w2 ⟨rfl, b2⟩
      have B2 := Lib.hid (bt B1.out b2)
      have C2 := Lib.hid (bt C1.out b2)
      clear b2 c0 c1 c2 c3 c4
      obtain ⟨c0, c1, c2, c3, c4⟩ := five_cells C2.out
      go_wp2_with fail
      refine (FI.out _ B2.out).mono ?_
      rintro e w3 ⟨rfl, b3⟩
      have B3 := Lib.hid (bt B2.out b3)
      have C3 := Lib.hid (bt C2.out b3)
      clear b3 c0 c1 c2 c3 c4
      obtain ⟨c0, c1, c2, c3, c4⟩ := five_cells C3.out
      have z3 : w.heap.size < w3.heap.size := by have := C3.out.size; simp at this; omega
      have B3' := Lib.hid (fun o : Obj => B3.out.alloc B3.out.size o)
      have C3' := Lib.hid (fun o : Obj => C3.out.alloc C3.out.size o)
      go_wp2_with fail
      refine (OW.out _).mono ?_
      rintro e w4 ⟨rfl, b4⟩
      have B4 := Lib.hid (bt (B3'.out _) b4)
      have C4 := Lib.hid (bt (C3'.out _) b4)
      have D4 := Lib.hid b4
      clear b4 c0 c1 c2 c3 c4
      obtain ⟨c0, c1, c2, c3, c4⟩ := five_cells C4.out
      obtain ⟨d0, d1, -, -⟩ := two_cells D4.out
      go_wp2
      go_ret
      exact ⟨rfl, B4.out⟩
  · have ho : (decide (2 = 1) || decide (2 = 2)) = true := rfl
    have hq : (decide ((lt, lr) = ((t : Int), (r : Int))) && decide (p = 0)) = b := HK.out
    rw [ho] at OW
    clear ho HK
    have pair : (lt = (t : Int) ∧ lr = (r : Int)) ∨ (¬ lt = (t : Int)) ∨ (lt = (t : Int) ∧ ¬ lr = (r : Int)) := by omega
    rcases pair with ⟨rfl, rfl⟩ | h | ⟨rfl, h⟩
    · rw [decide_eq_true rfl, Bool.true_and] at hq
      have q9 : (p == 0) = b := by rw [← hq]; simp [BEq.beq]
      clear hq
      cases b
      all_goals
        go_enter Tryz.func61, Tryz.ntmps61
        go_wp2_with fail
        refine (M.out _).mono ?_
        rintro e w1 ⟨rfl, b1⟩
        obtain ⟨c0, c1, c2, c3, c4⟩ := five_cells b1
        have B1 := Lib.hid (bt B0.out b1)
        have C1 := Lib.hid b1
        clear b1
        go_wp2_with fail
        refine (M2.out _ B1.out).mono ?_
        rintro e w2 ⟨rfl, b2⟩
        have B2 := Lib.hid (bt B1.out b2)
        have C2 := Lib.hid (bt C1.out b2)
        clear b2 c0 c1 c2 c3 c4
        obtain ⟨c0, c1, c2, c3, c4⟩ := five_cells C2.out
        go_wp2_with fail
        refine (FI.out _ B2.out).mono ?_
        rintro e w3 ⟨rfl, b3⟩
        have B3 := Lib.hid (bt B2.out b3)
        have C3 := Lib.hid (bt C2.out b3)
        clear b3 c0 c1 c2 c3 c4
        obtain ⟨c0, c1, c2, c3, c4⟩ := five_cells C3.out
        have z3 : w.heap.size < w3.heap.size := by have := C3.out.size; simp at this; omega
        have B3' := Lib.hid (fun o : Obj => B3.out.alloc B3.out.size o)
        have C3' := Lib.hid (fun o : Obj => C3.out.alloc C3.out.size o)
        go_wp2_with fail
        refine (OW.out _).mono ?_
        rintro e w4 ⟨rfl, b4⟩
        have B4 := Lib.hid (bt (B3'.out _) b4)
        have C4 := Lib.hid (bt (C3'.out _) b4)
        have D4 := Lib.hid b4
        clear b4 c0 c1 c2 c3 c4
        obtain ⟨c0, c1, c2, c3, c4⟩ := five_cells C4.out
        obtain ⟨d0, d1, -, -⟩ := two_cells D4.out
        go_wp2_with fail
        refine (OW.out _).mono ?_
        rintro e w5 ⟨rfl, b5⟩
        have B5 := Lib.hid (bt B4.out b5)
        have C5 := Lib.hid (bt C4.out b5)
        have D5 := Lib.hid (bt D4.out b5)
        clear b5 c0 c1 c2 c3 c4 d0 d1
        obtain ⟨c0, c1, c2, c3, c4⟩ := five_cells C5.out
        obtain ⟨d0, d1, -, -⟩ := two_cells D5.out
        go_wp2
        go_ret
        exact ⟨rfl, B5.out⟩
    · rw [decide_eq_false (fun e => h (Prod.mk.inj e).1), Bool.false_and] at hq
      subst hq
      have q8 : (lt == (t : Int)) = false := by simp; omega
      have q7 : ¬ (t : Int) = lt := fun e => h e.symm
      go_enter Tryz.func61, Tryz.ntmps61
      go_wp2_with fail
      refine (M.out _).mono ?_
      rintro e w1 ⟨rfl, b1⟩
      obtain ⟨c0, c1, c2, c3, c4⟩ := five_cells b1
      have B1 := Lib.hid (bt B0.out b1)
      have C1 := Lib.hid b1
      clear b1
      go_wp2_with fail
      refine (M2.out _ B1.out).mono ?_
      rintro e w2 ⟨rfl, b2⟩
      have B2 := Lib.hid (bt B1.out b2)
      have C2 := Lib.hid (bt C1.out b2)
      clear b2 c0 c1 c2 c3 c4
      obtain ⟨c0, c1, c2, c3, c4⟩ := five_cells C2.out
      go_wp2_with fail
      refine (FI.out _ B2.out).mono ?_
      rintro e w3 ⟨rfl, b3⟩
      have B3 := Lib.hid (bt B2.out b3)
      have C3 := Lib.hid (bt C2.out b3)
      clear b3 c0 c1 c2 c3 c4
      obtain ⟨c0, c1, c2, c3, c4⟩ := five_cells C3.out
      have z3 : w.heap.size < w3.heap.size := by have := C3.out.size; simp at this; omega
      have B3' := Lib.hid (fun o : Obj => B3.out.alloc B3.out.size o)
      have C3' := Lib.hid (fun o : Obj => C3.out.alloc C3.out.size o)
      go_wp2_with fail
      refine (OW.out _).mono ?_
      rintro e w4 ⟨rfl, b4⟩
      have B4 := Lib.hid (bt (B3'.out _) b4)
      have C4 := Lib.hid (bt (C3'.out _) b4)
      have D4 := Lib.hid b4
      clear b4 c0 c1 c2 c3 c4
      obtain ⟨c0, c1, c2, c3, c4⟩ := five_cells C4.out
      obtain ⟨d0, d1, -, -⟩ := two_cells D4.out
      go_wp2
      go_ret
      exact ⟨rfl, B4.out⟩
    · rw [decide_eq_false (fun e => h (Prod.mk.inj e).2), Bool.false_and] at hq
      subst hq
      have q8 : (lr == (r : Int)) = false := by simp; omega
      have q7 : ¬ (r : Int) = lr := fun e => h e.symm
      go_enter Tryz.func61, Tryz.ntmps61
      go_wp2_with fail
      refine (M.out _).mono ?_
      rintro e w1 ⟨rfl, b1⟩
      obtain ⟨c0, c1, c2, c3, c4⟩ := five_cells b1
      have B1 := Lib.hid (bt B0.out b1)
      have C1 := Lib.hid b1
      clear b1
      go_wp2_with fail
      refine (M2.out _ B1.out).mono ?_
      rintro e w2 ⟨rfl, b2⟩
      have B2 := Lib.hid (bt B1.out b2)
      have C2 := Lib.hid (bt C1.out b2)
      clear b2 c0 c1 c2 c3 c4
      obtain ⟨c0, c1, c2, c3, c4⟩ := five_cells C2.out
      go_wp2_with fail
      refine (FI.out _ B2.out).mono ?_
      rintro e w3 ⟨rfl, b3⟩
      have B3 := Lib.hid (bt B2.out b3)
      have C3 := Lib.hid (bt C2.out b3)
      clear b3 c0 c1 c2 c3 c4
      obtain ⟨c0, c1, c2, c3, c4⟩ := five_cells C3.out
      have z3 : w.heap.size < w3.heap.size := by have := C3.out.size; simp at this; omega
      have B3' := Lib.hid (fun o : Obj => B3.out.alloc B3.out.size o)
      have C3' := Lib.hid (fun o : Obj => C3.out.alloc C3.out.size o)
      go_wp2_with fail
      refine (OW.out _).mono ?_
      rintro e w4 ⟨rfl, b4⟩
      have B4 := Lib.hid (bt (B3'.out _) b4)
      have C4 := Lib.hid (bt (C3'.out _) b4)
      have D4 := Lib.hid b4
      clear b4 c0 c1 c2 c3 c4
      obtain ⟨c0, c1, c2, c3, c4⟩ := five_cells C4.out
      obtain ⟨d0, d1, -, -⟩ := two_cells D4.out
      go_wp2
      go_ret
      exact ⟨rfl, B4.out⟩
  · have ho : (decide (k = 1) || decide (k = 2)) = false := by rw [decide_eq_false (by omega), decide_eq_false (by omega)]; rfl
    have hq : (decide (lt < (t : Int)) && decide (p = 0)) = b := by rw [← HK.out]; unfold kindF; rw [if_neg (by omega), if_neg (by omega), if_pos hk3]
    have s5 : ((k : Int) == 1) = false := by simp; omega
    rw [ho] at OW
    clear ho HK
    by_cases h : lt < (t : Int)
    · have s3 : decide ((t : Int) ≤ lt) = false := decide_eq_false (by omega)
      rw [decide_eq_true h, Bool.true_and] at hq
      have q9 : (p == 0) = b := by rw [← hq]; simp [BEq.beq]
      clear hq
      cases b
      all_goals
        go_enter Tryz.func61, Tryz.ntmps61
        go_wp2_with fail
        refine (M.out _).mono ?_
        rintro e w1 ⟨rfl, b1⟩
        obtain ⟨c0, c1, c2, c3, c4⟩ := five_cells b1
        have B1 := Lib.hid (bt B0.out b1)
        have C1 := Lib.hid b1
        clear b1
        go_wp2_with fail
        refine (M2.out _ B1.out).mono ?_
        rintro e w2 ⟨rfl, b2⟩
        have B2 := Lib.hid (bt B1.out b2)
        have C2 := Lib.hid (bt C1.out b2)
        clear b2 c0 c1 c2 c3 c4
        obtain ⟨c0, c1, c2, c3, c4⟩ := five_cells C2.out
        go_wp2_with fail
        refine (FI.out _ B2.out).mono ?_
        rintro e w3 ⟨rfl, b3⟩
        have B3 := Lib.hid (bt B2.out b3)
        have C3 := Lib.hid (bt C2.out b3)
        clear b3 c0 c1 c2 c3 c4
        obtain ⟨c0, c1, c2, c3, c4⟩ := five_cells C3.out
        have z3 : w.heap.size < w3.heap.size := by have := C3.out.size; simp at this; omega
        have B3' := Lib.hid (fun o : Obj => B3.out.alloc B3.out.size o)
        have C3' := Lib.hid (fun o : Obj => C3.out.alloc C3.out.size o)
        go_wp2_with fail
        refine (OW.out _).mono ?_
        rintro e w4 ⟨rfl, b4⟩
        have B4 := Lib.hid (bt (B3'.out _) b4)
        have C4 := Lib.hid (bt (C3'.out _) b4)
        have D4 := Lib.hid b4
        clear b4 c0 c1 c2 c3 c4
        obtain ⟨c0, c1, c2, c3, c4⟩ := five_cells C4.out
        obtain ⟨d0, d1, -, -⟩ := two_cells D4.out
        go_wp2_with fail
        refine (OW.out _).mono ?_
        rintro e w5 ⟨rfl, b5⟩
        have B5 := Lib.hid (bt B4.out b5)
        have C5 := Lib.hid (bt C4.out b5)
        have D5 := Lib.hid (bt D4.out b5)
        clear b5 c0 c1 c2 c3 c4 d0 d1
        obtain ⟨c0, c1, c2, c3, c4⟩ := five_cells C5.out
        obtain ⟨d0, d1, -, -⟩ := two_cells D5.out
        go_wp2
        go_ret
        exact ⟨rfl, B5.out⟩
    · have s3 : decide ((t : Int) ≤ lt) = true := decide_eq_true (by omega)
      rw [decide_eq_false h, Bool.false_and] at hq
      subst hq
      go_enter Tryz.func61, Tryz.ntmps61
      go_wp2_with fail
      refine (M.out _).mono ?_
      rintro e w1 ⟨rfl, b1⟩
      obtain ⟨c0, c1, c2, c3, c4⟩ := five_cells b1
      have B1 := Lib.hid (bt B0.out b1)
      have C1 := Lib.hid b1
      clear b1
      go_wp2_with fail
      refine (M2.out _ B1.out).mono ?_
      rintro e w2 ⟨rfl, b2⟩
      have B2 := Lib.hid (bt B1.out b2)
      have C2 := Lib.hid (bt C1.out b2)
      clear b2 c0 c1 c2 c3 c4
      obtain ⟨c0, c1, c2, c3, c4⟩ := five_cells C2.out
      go_wp2_with fail
      refine (FI.out _ B2.out).mono ?_
      rintro e w3 ⟨rfl, b3⟩
      have B3 := Lib.hid (bt B2.out b3)
      have C3 := Lib.hid (bt C2.out b3)
      clear b3 c0 c1 c2 c3 c4
      obtain ⟨c0, c1, c2, c3, c4⟩ := five_cells C3.out
      have z3 : w.heap.size < w3.heap.size := by have := C3.out.size; simp at this; omega
      have B3' := Lib.hid (fun o : Obj => B3.out.alloc B3.out.size o)
      have C3' := Lib.hid (fun o : Obj => C3.out.alloc C3.out.size o)
      go_wp2_with fail
      refine (OW.out _).mono ?_
      rintro e w4 ⟨rfl, b4⟩
      have B4 := Lib.hid (bt (B3'.out _) b4)
      have C4 := Lib.hid (bt (C3'.out _) b4)
      have D4 := Lib.hid b4
      clear b4 c0 c1 c2 c3 c4
      obtain ⟨c0, c1, c2, c3, c4⟩ := five_cells C4.out
      obtain ⟨d0, d1, -, -⟩ := two_cells D4.out
      go_wp2_with fail
      refine (OW.out _).mono ?_
      rintro e w5 ⟨rfl, b5⟩
      have B5 := Lib.hid (bt B4.out b5)
      have C5 := Lib.hid (bt C4.out b5)
      have D5 := Lib.hid (bt D4.out b5)
      clear b5 c0 c1 c2 c3 c4 d0 d1
      obtain ⟨c0, c1, c2, c3, c4⟩ := five_cells C5.out
      obtain ⟨d0, d1, -, -⟩ := two_cells D5.out
      go_wp2
      go_ret
      exact ⟨rfl, B5.out⟩
end Go.Proofs.YtmiepnnpccpicaaGreat.Ops

namespace Go.Proofs.YtmiepnnpccpicaaGreat.Bags
open Ops Stamp
theorem findO_at : ∀ {l : List Opn} {a : Id} (k : Nat) (hk : k < l.length), (∀ j (h : j < l.length), j < k → idO (l[j]'h) ≠ a) → idO (l[k]'hk) = a → findO l a = some (l[k]'hk)
  | x :: l, a, 0, _, _, e => by
    unfold findO
    rw [if_pos (show idO x = a from e)]
    rfl
  | x :: l, a, k + 1, hk, hn, e => by
    unfold findO
    rw [if_neg (show ¬ idO x = a from hn 0 (by simp) (by omega))]
    have := findO_at (l := l) (a := a) k (by simpa using hk) (fun j h hj => hn (j + 1) (by simpa using h) (by omega)) e
    exact this
end Go.Proofs.YtmiepnnpccpicaaGreat.Bags
