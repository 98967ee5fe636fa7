/- octavoref06.Held: what it answers. Conditions: the slices' cells are runs; they may stand one behind the other, at most 100 of them. -/
import Derived.Test.YtfhmleigceakjaaPlaceCut
import Derived.Test.YtfhmleigceakjaaStampRef
namespace Go.Proofs.Ytfhmleigceakjaa.Place
open Go.RowKit Stamp
attribute [local go_sem ↓] Go.wp_at_zero Go.wp_at_succ

/-- How many stamps, as a natural number; and read out of the cells. -/
def nl : List Run → Nat
  | [] => 0
  | x :: p => x.m.toNat + nl p
def tot (w : World) (b off : Nat) : Nat → Nat
  | 0 => 0
  | k + 1 => tot w b off k + (match w.cell? ⟨b, off + k * 3 + 2, none⟩ with | some (.int _ m) => m.toNat | _ => 0)
def totV (w : World) : Value → Nat
  | .slice (some a) n _ => tot w a.block a.off n
  | _ => 0
theorem nl_append : ∀ p q : List Run, nl (p ++ q) = nl p + nl q
  | [], q => by simp [nl]
  | x :: p, q => by simp [nl, nl_append p q]; omega
theorem totV_runs {w : World} {v : Value} {l : List Run} (h : Runs w v l) : totV w v = nl l := by
  obtain ⟨ao, cap, rfl⟩ := h.shape
  cases ao with
  | none =>
    have hc := Sees.cap h
    have : l = [] := List.length_eq_zero_iff.1 (by have := hc.2.2.2 rfl; omega)
    subst this
    rfl
  | some a =>
    by_cases hl : l = []
    · subst hl; rfl
    · have hpos : 0 < l.length := by cases l with | nil => exact absurd rfl hl | cons x p => simp
      obtain ⟨b, off, he, _, _⟩ := h.at 0 hpos
      cases he
      have key : ∀ k, k ≤ l.length → tot w b off k = nl (l.take k) := by
        intro k
        induction k with
        | zero => intro _; rfl
        | succ k ih =>
          intro hk
          obtain ⟨b', off', he, _, _, _, h2⟩ := h.at k (by omega)
          cases he
          rw [tot, ih (by omega), h2, List.take_succ_eq_append_getElem (by omega), nl_append]
          simp [nl, List.getD, List.getElem?_eq_getElem (show k < l.length by omega)]
      show tot w b off l.length = nl l
      rw [key _ (Nat.le_refl _), List.take_length]
theorem nl_cut {x : Run} {p : List Run} {n : Nat} (h : One x) (hn : (n : Int) ≤ x.m) : nl (cut x p n) + n = nl (x :: p) := by
  obtain ⟨k, hk, h1, h2, h3, h4⟩ := h.nat
  unfold cut
  by_cases he : x.m = (n : Int)
  · rw [if_pos he, nl]; omega
  · rw [if_neg he, nl, nl, mkRun_m (by omega)]; omega
theorem cut_len {x : Run} {p : List Run} {n : Nat} : (cut x p n).length ≤ p.length + 1 := by
  unfold cut; split <;> simp

/-- What stands at the head of the loop of two places held against each other. -/
def Two (w : World) (h0 : Int) (f0 : Bool) (a b : Value) (wr : World) : Prop :=
  ∃ p q : List Run, Runs wr a p ∧ Runs wr b q ∧ Chain p ∧ Chain q ∧ p.length ≤ 100 ∧ q.length ≤ 100 ∧ hold (all p) (all q) = h0 ∧ first (all p) (all q) = f0 ∧ Below w.heap.size w wr

theorem keepA3 {wl w2 : World} {b off t r : Nat} {m : Int} (q : Pos3 wl b off t r m) (h : Below wl.heap.size wl w2) :
    Below wl.heap.size wl w2 ∧ w2.cell? ⟨b, off, none⟩ = some (.int .u32 (t : Int)) ∧ w2.cell? ⟨b, off + 1, none⟩ = some (.int .u8 (r : Int)) :=
  ⟨h, (h.cell (p := ⟨b, off, none⟩) q.1).trans q.2.1, (h.cell (p := ⟨b, off + 1, none⟩) q.1).trans q.2.2.1⟩
theorem keepM {wl w2 : World} {b1 o1 t1 r1 b2 o2 t2 r2 : Nat} {m1 m2 : Int} (q : Pos3 wl b1 o1 t1 r1 m1) (q2 : Pos3 wl b2 o2 t2 r2 m2) (h : Below wl.heap.size wl w2) :
    Below wl.heap.size wl w2 ∧ w2.cell? ⟨b1, o1 + 2, none⟩ = some (.int .i64 m1) ∧ w2.cell? ⟨b2, o2 + 2, none⟩ = some (.int .i64 m2) :=
  ⟨h, (h.cell (p := ⟨b1, o1 + 2, none⟩) q.1).trans q.2.2.2, (h.cell (p := ⟨b2, o2 + 2, none⟩) q2.1).trans q2.2.2.2⟩

set_option maxRecDepth 100000 in
set_option maxHeartbeats 4000000 in
theorem held_any {a b : Value} {p q : List Run} {w : World} (ha : Runs w a p) (hb : Runs w b q) (hp : Chain p) (hq : Chain q) (lp : p.length ≤ 100) (lq : q.length ≤ 100) :
    Calls Try.prog 41 #[a, b] w fun e w' => e = .returned (.int .i64 (hold (all p) (all q))) ∧ Below w.heap.size w w' := by
  obtain ⟨h0, hh0⟩ : ∃ h0, h0 = hold (all p) (all q) := ⟨_, rfl⟩
  have H0 : Hid (Two w h0 (first (all p) (all q)) a b w) := ⟨p, q, ha, hb, hp, hq, lp, lq, hh0.symm, rfl, Below.refl _ _⟩
  rw [← hh0]
  obtain ⟨f0, hf0⟩ : ∃ f0, f0 = first (all p) (all q) := ⟨_, rfl⟩
  rw [← hf0] at H0
  clear hh0 hf0 ha hb hp hq lp lq p q
  go_enter Try.func41, Try.ntmps41
  go_wp2
  go_loopw [0, 1] (fun a b wr => Hid (Two w h0 f0 a b wr)) (fun a b wr => totV wr a + totV wr b)
  case atStart => exact H0
  case round =>
    obtain ⟨p, q, ha, hb, hp, hq, lp, lq, hh, hf, hbel⟩ := hrel.out
    have HFst := Lib.hid hf
    clear hrel hf
    cases p with
    | nil =>
      obtain ⟨ao, ca, rfl⟩ := ha.shape
      obtain ⟨bo, cb, rfl⟩ := hb.shape
      have HB := Lib.hid hbel
      cases q with
      | nil =>
        have hz : h0 = 0 := by rw [← hh]; rfl
        subst hz
        clear ha hb hp hq hh hbel
        go_wp2
        go_ret
        exact ⟨rfl, HB.out⟩
      | cons y q =>
        have hz : h0 = -1 := by rw [← hh]; exact hold_left hq.head
        have hl : decide ((0 : Int) < ((y :: q).length : Int)) = true := decide_eq_true (by simp)
        obtain ⟨n2, hn2⟩ : ∃ n2, n2 = (y :: q).length := ⟨_, rfl⟩
        have hp2 : 0 < n2 := by rw [hn2]; simp
        have hl2 : decide (0 < n2) = true := decide_eq_true hp2
        rw [← hn2] at hl ⊢
        subst hz
        clear ha hb hp hq hh hbel hn2
        go_wp2
        go_ret
        exact ⟨rfl, HB.out⟩
    | cons x p =>
      obtain ⟨ao, ca, rfl⟩ := ha.shape
      obtain ⟨bo, cb, rfl⟩ := hb.shape
      obtain ⟨n1, hn1⟩ : ∃ n1, n1 = (x :: p).length := ⟨_, rfl⟩
      have hp1 : 0 < n1 := by rw [hn1]; simp
      have hl1 : decide (0 < n1) = true := decide_eq_true hp1
      have hl1' : (0 : Int) < (n1 : Int) := by omega
      cases q with
      | nil =>
        have HB := Lib.hid hbel
        have hz : h0 = 1 := by rw [← hh]; exact hold_right hp.head
        subst hz
        rw [← hn1]
        clear ha hb hp hq hh hbel hn1
        go_wp2
        go_ret
        exact ⟨rfl, HB.out⟩
      | cons y q =>
        obtain ⟨n2, hn2⟩ : ∃ n2, n2 = (y :: q).length := ⟨_, rfl⟩
        have hp2 : 0 < n2 := by rw [hn2]; simp
        have hl2 : decide (0 < n2) = true := decide_eq_true hp2
        have hl2' : (0 : Int) < (n2 : Int) := by omega
        obtain ⟨b1, o1, rfl, hb1, hx0, hx1, hx2⟩ := ha.at 0 (by simp)
        obtain ⟨b2, o2, rfl, hb2, hy0, hy1, hy2⟩ := hb.at 0 (by simp)
        have XA : Hid (Pos3 wr b1 o1 x.t x.r x.m) := ⟨hb1, by simpa using hx0, by simpa using hx1, by simpa using hx2⟩
        have XB : Hid (Pos3 wr b2 o2 y.t y.r y.m) := ⟨hb2, by simpa using hy0, by simpa using hy1, by simpa using hy2⟩
        have hlx : p.length ≤ 99 ∧ q.length ≤ 99 := by simp at lp lq; omega
        have HA := Lib.hid (show Runs wr (.slice (some ⟨b1, o1, none⟩) n1 ca) (x :: p) by rw [hn1]; exact ha)
        have HB := Lib.hid (show Runs wr (.slice (some ⟨b2, o2, none⟩) n2 cb) (y :: q) by rw [hn2]; exact hb)
        have HP := Lib.hid hp
        have HQ := Lib.hid hq
        have HH := Lib.hid hh
        have HBel := Lib.hid hbel
        have HN1 := Lib.hid hn1
        have HN2 := Lib.hid hn2
        rw [← hn1, ← hn2]
        clear ha hb hp hq hh hbel hn1 hn2 hx0 hx1 hx2 hy0 hy1 hy2 hb1 hb2
        have hbel := HBel
        obtain ⟨t1, r1, m1, ht1, hr1, hm1⟩ := x
        obtain ⟨t2, r2, m2, ht2, hr2, hm2⟩ := y
        simp only at XA XB
        have hsz := hbel.out.size
        obtain ⟨lb, hlb⟩ : ∃ lb, less t2 r2 t1 r1 = lb := ⟨_, rfl⟩
        have LS : Hid (∀ W : World, Calls Try.prog 54 #[.agg #[.int .u32 (t2 : Int), .int .u8 (r2 : Int)], .agg #[.int .u32 (t1 : Int), .int .u8 (r1 : Int)]] W fun e w' => e = .returned (.bool lb) ∧ Below W.heap.size W w') := fun W => by
          have := refLess_any t2 r2 t1 r1 W
          rwa [hlb] at this
        go_wp2_with fail
        go_region_held3 (fun w' => Below wr.heap.size wr w' ∧ w'.cell? ⟨b1, o1, none⟩ = some (.int .u32 (t1 : Int)) ∧ w'.cell? ⟨b1, o1 + 1, none⟩ = some (.int .u8 (r1 : Int)))
          (first | (go_split_ands; refine keepA3 XA.out ?_; repeat' (first | assumption | exact Below.refl _ _ | (with_reducible refine Below.drew ?_) | (with_reducible refine Below.alloc ?_ ?_ _) | exact Nat.le_refl _ | (show (_ : Nat) ≤ _; omega) | (show (_ : Nat) ≤ _; simp; done) | (show (_ : Nat) ≤ _; simp; omega))))
          (fail)
        go_wp2_with fail
        go_region_held3 (fun w' => Below wr.heap.size wr w' ∧ w'.cell? ⟨b2, o2, none⟩ = some (.int .u32 (t2 : Int)) ∧ w'.cell? ⟨b2, o2 + 1, none⟩ = some (.int .u8 (r2 : Int)))
          (first | (go_split_ands; refine keepA3 XB.out ?_; repeat' (first | assumption | exact Below.refl _ _ | (with_reducible refine Below.drew ?_) | (with_reducible refine Below.alloc ?_ ?_ _) | exact Nat.le_refl _ | (show (_ : Nat) ≤ _; omega) | (show (_ : Nat) ≤ _; simp; done) | (show (_ : Nat) ≤ _; simp; omega))))
          (fail)
        by_cases hxy : t1 = t2 ∧ r1 = r2
        · obtain ⟨rfl, rfl⟩ := hxy
          have hOX := HP.out.head
          have hOY := HQ.out.head
          obtain ⟨k1, j1, j2, j3, _, _⟩ := hOX.nat
          obtain ⟨k2, j4, j5, j6, _, _⟩ := hOY.nat
          simp only at j1 j4
          obtain ⟨n, hn⟩ : ∃ n, n = min k1 k2 := ⟨_, rfl⟩
          have hmin : (if m2 < m1 then m2 else m1) = (n : Int) := by split <;> omega
          have hle1 : (n : Int) ≤ m1 := by omega
          have hle2 : (n : Int) ≤ m2 := by omega
          have hn1 : 1 ≤ n := by omega
          have HOX := Lib.hid hOX
          have HOY := Lib.hid hOY
          have HLe := Lib.hid (And.intro hle1 hle2)
          clear hOX hOY j1 j2 j3 j4 j5 j6 hn hlb LS hle1 hle2
          go_wp2_with fail
          go_region_held3 (fun w' => Below wr.heap.size wr w' ∧ w'.cell? ⟨b1, o1 + 2, none⟩ = some (.int .i64 m1) ∧ w'.cell? ⟨b2, o2 + 2, none⟩ = some (.int .i64 m2))
            (first | (go_split_ands; refine keepM XA.out XB.out ?_; repeat' (first | assumption | exact Below.refl _ _ | (with_reducible refine Below.drew ?_) | (with_reducible refine Below.alloc ?_ ?_ _) | exact Nat.le_refl _ | (show (_ : Nat) ≤ _; omega) | (show (_ : Nat) ≤ _; simp; done) | (show (_ : Nat) ≤ _; simp; omega))))
            (fail)
          go_wp2_with fail
          refine (cut_any (n := n) (HA.out.keeps ?hc) ?hl HOX.out hn1 HLe.out.1).mono ?_
          case hc => repeat' (first | assumption | exact Below.refl _ _ | (with_reducible refine Below.drew ?_) | (with_reducible refine Below.alloc ?_ ?_ _) | exact Nat.le_refl _ | (show (_ : Nat) ≤ _; omega) | (show (_ : Nat) ≤ _; simp; done) | (show (_ : Nat) ≤ _; simp; omega))
          case hl => omega
          rintro e w5 ⟨v1, rfl, c1, b5⟩
          refine Go.Proofs.Ytfhmleigceakjaa.hold (fun (B5 : Below wr.heap.size wr w5) => ?_) (below_next ?hc ?hd b5)
          case hc => repeat' (first | assumption | exact Below.refl _ _ | (with_reducible refine Below.drew ?_) | (with_reducible refine Below.alloc ?_ ?_ _) | exact Nat.le_refl _ | (show (_ : Nat) ≤ _; omega) | (show (_ : Nat) ≤ _; simp; done) | (show (_ : Nat) ≤ _; simp; omega))
          case hd => (refine Below.size (?_ : Below wr.heap.size wr _); repeat' (first | assumption | exact Below.refl _ _ | (with_reducible refine Below.drew ?_) | (with_reducible refine Below.alloc ?_ ?_ _) | exact Nat.le_refl _ | (show (_ : Nat) ≤ _; omega) | (show (_ : Nat) ≤ _; simp; done) | (show (_ : Nat) ≤ _; simp; omega)))
          have HB5 := Lib.hid (HB.out.keeps B5)
          have C1 := Lib.hid c1
          clear c1 b5
          go_wp2_with fail
          refine (cut_any (n := n) HB5.out ?hl HOY.out hn1 HLe.out.2).mono ?_
          case hl => omega
          rintro e w6 ⟨v2, rfl, c2, b6⟩
          have C2 := Lib.hid c2
          have C1' := Lib.hid (C1.out.keeps b6)
          have B6 := Lib.hid (bt B5 b6)
          clear c2 b6
          go_wp2
          go_roundw
          case rel =>
            refine Lib.hid ⟨_, _, C1'.out, C2.out, HP.out.cut HLe.out.1, HQ.out.cut HLe.out.2, ?_, ?_, ?_, ?_, bt hbel.out B6.out⟩
            · exact Nat.le_trans cut_len (by omega)
            · exact Nat.le_trans cut_len (by omega)
            · rw [← HH.out]; exact (hold_cut HOX.out HOY.out rfl rfl HLe.out.1 HLe.out.2).symm
            · rw [← HFst.out]; exact (first_cut HOX.out HOY.out rfl rfl HLe.out.1 HLe.out.2).symm
          case measure =>
            show totV _ v1 + totV _ v2 < totV wr _ + totV wr _
            rw [totV_runs C1'.out, totV_runs C2.out]
            have e1 := totV_runs HA.out
            have e2 := totV_runs HB.out
            have e3 := nl_cut (p := p) HOX.out HLe.out.1
            have e4 := nl_cut (p := q) HOY.out HLe.out.2
            have e5 : totV wr (.slice (some ⟨b1, o1, none⟩) n1 ca) + totV wr (.slice (some ⟨b2, o2, none⟩) n2 cb) = nl (⟨t1, r1, m1, ht1, hr1, hm1⟩ :: p) + nl (⟨t1, r1, m2, ht2, hr2, hm2⟩ :: q) := by rw [e1, e2]
            refine Nat.lt_of_lt_of_eq ?_ e5.symm
            omega
        · have hz : h0 = if lb = true then -1 else 1 := by
            rw [← HH.out, hold_part HP.out.head HQ.out.head hxy, hlb]
          have hne : ¬ t1 = t2 ∨ (t1 = t2 ∧ ¬ r1 = r2) := by
            by_cases h : t1 = t2
            · exact .inr ⟨h, fun h2 => hxy ⟨h, h2⟩⟩
            · exact .inl h
          clear hxy hlb
          cases lb
          · simp only [Bool.false_eq_true, if_false] at hz
            subst hz
            rcases hne with hne | ⟨rfl, hne⟩
            · go_wp2_with fail
              refine (LS.out _).mono ?_
              rintro e w5 ⟨rfl, b5⟩
              have B5 : Hid (Below w.heap.size w w5) := by
                show Below _ _ _
                refine hbel.out.trans (Below.mono (Below.trans ?hc (Below.mono b5 ?hd)) hbel.out.size)
                case hc => repeat' (first | assumption | exact Below.refl _ _ | (with_reducible refine Below.drew ?_) | (with_reducible refine Below.alloc ?_ ?_ _) | exact Nat.le_refl _ | (show (_ : Nat) ≤ _; omega) | (show (_ : Nat) ≤ _; simp; done) | (show (_ : Nat) ≤ _; simp; omega))
                case hd => simp; omega
              clear b5
              go_wp2
              go_ret
              exact ⟨rfl, B5.out⟩
            · go_wp2_with fail
              refine (LS.out _).mono ?_
              rintro e w5 ⟨rfl, b5⟩
              have B5 : Hid (Below w.heap.size w w5) := by
                show Below _ _ _
                refine hbel.out.trans (Below.mono (Below.trans ?hc (Below.mono b5 ?hd)) hbel.out.size)
                case hc => repeat' (first | assumption | exact Below.refl _ _ | (with_reducible refine Below.drew ?_) | (with_reducible refine Below.alloc ?_ ?_ _) | exact Nat.le_refl _ | (show (_ : Nat) ≤ _; omega) | (show (_ : Nat) ≤ _; simp; done) | (show (_ : Nat) ≤ _; simp; omega))
                case hd => simp; omega
              clear b5
              go_wp2
              go_ret
              exact ⟨rfl, B5.out⟩
          · simp only [if_true] at hz
            subst hz
            rcases hne with hne | ⟨rfl, hne⟩
            · go_wp2_with fail
              refine (LS.out _).mono ?_
              rintro e w5 ⟨rfl, b5⟩
              have B5 : Hid (Below w.heap.size w w5) := by
                show Below _ _ _
                refine hbel.out.trans (Below.mono (Below.trans ?hc (Below.mono b5 ?hd)) hbel.out.size)
                case hc => repeat' (first | assumption | exact Below.refl _ _ | (with_reducible refine Below.drew ?_) | (with_reducible refine Below.alloc ?_ ?_ _) | exact Nat.le_refl _ | (show (_ : Nat) ≤ _; omega) | (show (_ : Nat) ≤ _; simp; done) | (show (_ : Nat) ≤ _; simp; omega))
                case hd => simp; omega
              clear b5
              go_wp2
              go_ret
              exact ⟨rfl, B5.out⟩
            · go_wp2_with fail
              refine (LS.out _).mono ?_
              rintro e w5 ⟨rfl, b5⟩
              have B5 : Hid (Below w.heap.size w w5) := by
                show Below _ _ _
                refine hbel.out.trans (Below.mono (Below.trans ?hc (Below.mono b5 ?hd)) hbel.out.size)
                case hc => repeat' (first | assumption | exact Below.refl _ _ | (with_reducible refine Below.drew ?_) | (with_reducible refine Below.alloc ?_ ?_ _) | exact Nat.le_refl _ | (show (_ : Nat) ≤ _; omega) | (show (_ : Nat) ≤ _; simp; done) | (show (_ : Nat) ≤ _; simp; omega))
                case hd => simp; omega
              clear b5
              go_wp2
              go_ret
              exact ⟨rfl, B5.out⟩
end Go.Proofs.Ytfhmleigceakjaa.Place
