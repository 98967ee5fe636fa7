/- octavoref06.First, Compare, Begins: what each answers. Conditions: the slices' cells are runs; First: they may stand one behind the other, at most 100 of them. -/
import Derived.Test.YtfhmleigceakjaaPlaceHeld
namespace Go.Proofs.Ytfhmleigceakjaa.Place
open Go.RowKit Stamp
attribute [local go_sem ↓] Go.wp_at_zero Go.wp_at_succ

set_option maxRecDepth 100000 in
set_option maxHeartbeats 4000000 in
theorem first_any {a b : Value} {p q : List Run} {w : World} (ha : Runs w a p) (hb : Runs w b q) (hp : Chain p) (hq : Chain q) (lp : p.length ≤ 100) (lq : q.length ≤ 100) :
    Calls Try.prog 42 #[a, b] w fun e w' => e = .returned (.bool (first (all p) (all q))) ∧ Below w.heap.size w w' := by
  obtain ⟨f0, hf0⟩ : ∃ f0, f0 = first (all p) (all q) := ⟨_, rfl⟩
  have H0 : Hid (Two w (hold (all p) (all q)) f0 a b w) := ⟨p, q, ha, hb, hp, hq, lp, lq, rfl, hf0.symm, Below.refl _ _⟩
  rw [← hf0]
  obtain ⟨h0, hh0⟩ : ∃ h0, h0 = hold (all p) (all q) := ⟨_, rfl⟩
  rw [← hh0] at H0
  clear hh0 hf0 ha hb hp hq lp lq p q
  go_enter Try.func42, Try.ntmps42
  go_wp2
  go_loopw [0, 1] (fun a b wr => Hid (Two w h0 f0 a b wr)) (fun a b wr => totV wr a + totV wr b)
  case atStart => exact H0
  case round =>
    obtain ⟨p, q, ha, hb, hp, hq, lp, lq, hh, hf, hbel⟩ := hrel.out
    have HH := Lib.hid hh
    clear hrel hh
    cases p with
    | nil =>
      obtain ⟨ao, ca, rfl⟩ := ha.shape
      obtain ⟨bo, cb, rfl⟩ := hb.shape
      have HB := Lib.hid hbel
      have hz : f0 = true := by rw [← hf]; rfl
      subst hz
      clear ha hb hp hq hf hbel lp lq
      go_wp2
      go_ret
      exact ⟨rfl, HB.out⟩
    | cons x p =>
      obtain ⟨ao, ca, rfl⟩ := ha.shape
      obtain ⟨bo, cb, rfl⟩ := hb.shape
      obtain ⟨n1, hn1⟩ : ∃ n1, n1 = (x :: p).length := ⟨_, rfl⟩
      have hp1 : 0 < n1 := by rw [hn1]; simp
      have hl1 : decide (0 < n1) = true := decide_eq_true hp1
      have hl1' : (0 : Int) < (n1 : Int) := by omega
      have hl1'' : ((n1 : Int) == 0) = false := by simp; omega
      cases q with
      | nil =>
        have HB := Lib.hid hbel
        have hz : f0 = false := by rw [← hf]; exact first_right hp.head
        subst hz
        rw [← hn1]
        clear ha hb hp hq hf hbel hn1
        go_wp2
        go_ret
        exact ⟨rfl, HB.out⟩
      | cons y q =>
        obtain ⟨n2, hn2⟩ : ∃ n2, n2 = (y :: q).length := ⟨_, rfl⟩
        have hp2 : 0 < n2 := by rw [hn2]; simp
        have hl2 : decide (0 < n2) = true := decide_eq_true hp2
        have hl2' : (0 : Int) < (n2 : Int) := by omega
        obtain ⟨b1, o1, rfl, hb1, hx0, hx1, hx2⟩ := ha.at 0 (by simp)
        obtain ⟨b2, o2, rfl, hb2, hy0, hy1, hy2⟩ := hb.at 0 (by simp)
        have xa0 : wr.cell? ⟨b1, o1, none⟩ = some (.int .u32 (x.t : Int)) := by simpa using hx0
        have xa1 : wr.cell? ⟨b1, o1 + 1, none⟩ = some (.int .u8 (x.r : Int)) := by simpa using hx1
        have xb0 : wr.cell? ⟨b2, o2, none⟩ = some (.int .u32 (y.t : Int)) := by simpa using hy0
        have xb1 : wr.cell? ⟨b2, o2 + 1, none⟩ = some (.int .u8 (y.r : Int)) := by simpa using hy1
        have XA : Hid (Pos3 wr b1 o1 x.t x.r x.m) := ⟨hb1, xa0, xa1, by simpa using hx2⟩
        have XB : Hid (Pos3 wr b2 o2 y.t y.r y.m) := ⟨hb2, xb0, xb1, by simpa using hy2⟩
        have hlx : p.length ≤ 99 ∧ q.length ≤ 99 := by simp at lp lq; omega
        have HA := Lib.hid (show Runs wr (.slice (some ⟨b1, o1, none⟩) n1 ca) (x :: p) by rw [hn1]; exact ha)
        have HB := Lib.hid (show Runs wr (.slice (some ⟨b2, o2, none⟩) n2 cb) (y :: q) by rw [hn2]; exact hb)
        have HP := Lib.hid hp
        have HQ := Lib.hid hq
        have HFst := Lib.hid hf
        have HBel := Lib.hid hbel
        rw [← hn1, ← hn2]
        clear ha hb hp hq hf hbel hn1 hn2 hx0 hx1 hx2 hy0 hy1 hy2 hb1 hb2 lp lq
        have hbel := HBel
        obtain ⟨t1, r1, m1, ht1, hr1, hm1⟩ := x
        obtain ⟨t2, r2, m2, ht2, hr2, hm2⟩ := y
        simp only at XA XB xa0 xa1 xb0 xb1
        have hsz := hbel.out.size
        by_cases hxy : t1 = t2 ∧ r1 = r2
        · obtain ⟨rfl, rfl⟩ := hxy
          have hOX := HP.out.head
          have hOY := HQ.out.head
          obtain ⟨k1, j1, j2, j3, _, _⟩ := hOX.nat
          obtain ⟨k2, j4, j5, j6, _, _⟩ := hOY.nat
          simp only at j1 j4
          obtain ⟨n, hn⟩ : ∃ n, n = min k1 k2 := ⟨_, rfl⟩
          have hmin : (if m2 < m1 then m2 else m1) = (n : Int) := by split <;> omega
          have hle1 : (n : Int) ≤ m1 := by omega
          have hle2 : (n : Int) ≤ m2 := by omega
          have hn1 : 1 ≤ n := by omega
          have HOX := Lib.hid hOX
          have HOY := Lib.hid hOY
          have HLe := Lib.hid (And.intro hle1 hle2)
          clear hOX hOY j1 j2 j3 j4 j5 j6 hn hle1 hle2
          go_wp2
          go_quiet (fail)
          clear xa0 xa1 xb0 xb1
          go_wp2_with fail
          go_region_held3 (fun w' => Below wr.heap.size wr w' ∧ w'.cell? ⟨b1, o1 + 2, none⟩ = some (.int .i64 m1) ∧ w'.cell? ⟨b2, o2 + 2, none⟩ = some (.int .i64 m2))
            (first | (go_split_ands; refine keepM XA.out XB.out ?_; repeat' (first | assumption | exact Below.refl _ _ | (with_reducible refine Below.drew ?_) | (with_reducible refine below_draw ?_ _) | (with_reducible refine Below.alloc ?_ ?_ _) | exact Nat.le_refl _ | (show (_ : Nat) ≤ _; omega) | (show (_ : Nat) ≤ _; simp; done) | (show (_ : Nat) ≤ _; simp; omega))))
            (fail)
          go_wp2_with fail
          refine (cut_any (n := n) (HA.out.keeps ?hc) ?hl HOX.out hn1 HLe.out.1).mono ?_
          case hc => repeat' (first | assumption | exact Below.refl _ _ | (with_reducible refine Below.drew ?_) | (with_reducible refine below_draw ?_ _) | (with_reducible refine Below.alloc ?_ ?_ _) | exact Nat.le_refl _ | (show (_ : Nat) ≤ _; omega) | (show (_ : Nat) ≤ _; simp; done) | (show (_ : Nat) ≤ _; simp; omega))
          case hl => omega
          rintro e w5 ⟨v1, rfl, c1, b5⟩
          refine Go.Proofs.Ytfhmleigceakjaa.hold (fun (B5 : Below wr.heap.size wr w5) => ?_) (below_next ?hc ?hd b5)
          case hc => repeat' (first | assumption | exact Below.refl _ _ | (with_reducible refine Below.drew ?_) | (with_reducible refine below_draw ?_ _) | (with_reducible refine Below.alloc ?_ ?_ _) | exact Nat.le_refl _ | (show (_ : Nat) ≤ _; omega) | (show (_ : Nat) ≤ _; simp; done) | (show (_ : Nat) ≤ _; simp; omega))
          case hd => (refine Below.size (?_ : Below wr.heap.size wr _); repeat' (first | assumption | exact Below.refl _ _ | (with_reducible refine Below.drew ?_) | (with_reducible refine below_draw ?_ _) | (with_reducible refine Below.alloc ?_ ?_ _) | exact Nat.le_refl _ | (show (_ : Nat) ≤ _; omega) | (show (_ : Nat) ≤ _; simp; done) | (show (_ : Nat) ≤ _; simp; omega)))
          have HB5 := Lib.hid (HB.out.keeps B5)
          have C1 := Lib.hid c1
          clear c1 b5
          go_wp2_with fail
          refine (cut_any (n := n) HB5.out ?hl HOY.out hn1 HLe.out.2).mono ?_
          case hl => omega
          rintro e w6 ⟨v2, rfl, c2, b6⟩
          have C2 := Lib.hid c2
          have C1' := Lib.hid (C1.out.keeps b6)
          have B6 := Lib.hid (bt B5 b6)
          clear c2 b6
          go_wp2
          go_roundw
          case rel =>
            refine Lib.hid ⟨_, _, C1'.out, C2.out, HP.out.cut HLe.out.1, HQ.out.cut HLe.out.2, ?_, ?_, ?_, ?_, bt hbel.out B6.out⟩
            · exact Nat.le_trans cut_len (by omega)
            · exact Nat.le_trans cut_len (by omega)
            · rw [← HH.out]; exact (hold_cut HOX.out HOY.out rfl rfl HLe.out.1 HLe.out.2).symm
            · rw [← HFst.out]; exact (first_cut HOX.out HOY.out rfl rfl HLe.out.1 HLe.out.2).symm
          case measure =>
            show totV _ v1 + totV _ v2 < totV wr _ + totV wr _
            rw [totV_runs C1'.out, totV_runs C2.out]
            have e1 := totV_runs HA.out
            have e2 := totV_runs HB.out
            have e3 := nl_cut (p := p) HOX.out HLe.out.1
            have e4 := nl_cut (p := q) HOY.out HLe.out.2
            have e5 : totV wr (.slice (some ⟨b1, o1, none⟩) n1 ca) + totV wr (.slice (some ⟨b2, o2, none⟩) n2 cb) = nl (⟨t1, r1, m1, ht1, hr1, hm1⟩ :: p) + nl (⟨t1, r1, m2, ht2, hr2, hm2⟩ :: q) := by rw [e1, e2]
            refine Nat.lt_of_lt_of_eq ?_ e5.symm
            omega
        · have hz : f0 = false := by
            rw [← HFst.out]; exact first_part HP.out.head HQ.out.head hxy
          have hne : ¬ t1 = t2 ∨ (t1 = t2 ∧ ¬ r1 = r2) := by
            by_cases h : t1 = t2
            · exact .inr ⟨h, fun h2 => hxy ⟨h, h2⟩⟩
            · exact .inl h
          clear hxy
          subst hz
          rcases hne with hne | ⟨rfl, hne⟩
          · have h4 : ((t1 : Int) == (t2 : Int)) = false := by simp; omega
            have h5 : decide (t1 = t2) = false := decide_eq_false hne
            have h6 : ((t1 : Int) != (t2 : Int)) = true := by simp; omega
            go_wp2
            go_quiet (fail)
            go_wp2
            go_ret
            exact ⟨rfl, below_draw hbel.out _⟩
          · have h4 : ((r1 : Int) == (r2 : Int)) = false := by simp; omega
            have h5 : decide (r1 = r2) = false := decide_eq_false hne
            go_wp2
            go_quiet (fail)
            go_wp2
            go_ret
            exact ⟨rfl, below_draw hbel.out _⟩

theorem Any.len {p : List Run} (h : Any p) : p.length ≤ 64 := by
  rcases h with rfl | h
  · simp
  · exact h.2.1
def cmp (p q : List Run) : Int := if anyB p = true ∧ anyB q = true then hold (all p) (all q) else 0
theorem refCompare_any {a b : Value} {p q : List Run} {w : World} (ha : Runs w a p) (hb : Runs w b q) :
    Calls Try.prog 21 #[a, b] w fun e w' => e = .returned (.int .i64 (cmp p q)) ∧ Below w.heap.size w w' := by
  obtain ⟨z, hz⟩ : ∃ z, z = cmp p q := ⟨_, rfl⟩
  rw [← hz]
  have HA := Lib.hid ha
  have HB := Lib.hid hb
  cases h1 : anyB p
  · have A1 := Lib.hid (refAny_is ha h1)
    have hz0 : z = 0 := by rw [hz, cmp, h1]; simp
    subst hz0
    clear ha hb hz h1
    go_enter Try.func21, Try.ntmps21
    go_wp2_with fail
    refine A1.out.mono ?_
    rintro e w1 ⟨rfl, b1⟩
    go_wp2
    go_ret
    exact ⟨rfl, b1⟩
  · have A1 := Lib.hid (refAny_is ha h1)
    cases h2 : anyB q
    · have A2 : Hid (∀ W : World, Below w.heap.size w W → Calls Try.prog 40 #[b] W fun e w' => e = .returned (.bool false) ∧ Below W.heap.size W w') := fun W hW => refAny_is (HB.out.keeps hW) h2
      have hz0 : z = 0 := by rw [hz, cmp, h2]; simp
      subst hz0
      clear ha hb hz h1 h2
      go_enter Try.func21, Try.ntmps21
      go_wp2_with fail
      refine A1.out.mono ?_
      rintro e w1 ⟨rfl, b1⟩
      go_wp2_with fail
      refine (A2.out _ b1).mono ?_
      rintro e w2 ⟨rfl, b2⟩
      have B2 := Lib.hid (bt b1 b2)
      clear b1 b2
      go_wp2
      go_ret
      exact ⟨rfl, B2.out⟩
    · have A2 : Hid (∀ W : World, Below w.heap.size w W → Calls Try.prog 40 #[b] W fun e w' => e = .returned (.bool true) ∧ Below W.heap.size W w') := fun W hW => refAny_is (HB.out.keeps hW) h2
      have p1 := (anyB_iff p).1 h1
      have p2 := (anyB_iff q).1 h2
      have hz0 : z = hold (all p) (all q) := by rw [hz, cmp, if_pos ⟨h1, h2⟩]
      have A3 : Hid (∀ W : World, Below w.heap.size w W → Calls Try.prog 41 #[a, b] W fun e w' => e = .returned (.int .i64 z) ∧ Below W.heap.size W w') := fun W hW => by
        rw [hz0]
        exact held_any (HA.out.keeps hW) (HB.out.keeps hW) p1.chain p2.chain (by have := p1.len; omega) (by have := p2.len; omega)
      clear ha hb hz h1 h2 hz0 p1 p2
      go_enter Try.func21, Try.ntmps21
      go_wp2_with fail
      refine A1.out.mono ?_
      rintro e w1 ⟨rfl, b1⟩
      go_wp2_with fail
      refine (A2.out _ b1).mono ?_
      rintro e w2 ⟨rfl, b2⟩
      have B2 := Lib.hid (bt b1 b2)
      clear b1 b2
      go_wp2_with fail
      refine (A3.out _ B2.out).mono ?_
      rintro e w3 ⟨rfl, b3⟩
      have B3 := Lib.hid (bt B2.out b3)
      clear b3
      go_wp2
      go_ret
      exact ⟨rfl, B3.out⟩

def beg (p q : List Run) : Bool := anyB p && (anyB q && first (all p) (all q))
theorem refBegins_any {a b : Value} {p q : List Run} {w : World} (ha : Runs w a p) (hb : Runs w b q) :
    Calls Try.prog 22 #[a, b] w fun e w' => e = .returned (.bool (beg p q)) ∧ Below w.heap.size w w' := by
  obtain ⟨z, hz⟩ : ∃ z, z = beg p q := ⟨_, rfl⟩
  rw [← hz]
  have HA := Lib.hid ha
  have HB := Lib.hid hb
  cases h1 : anyB p
  · have A1 := Lib.hid (refAny_is ha h1)
    have hz0 : z = false := by rw [hz, beg, h1]; simp
    subst hz0
    clear ha hb hz h1
    go_enter Try.func22, Try.ntmps22
    go_wp2_with fail
    refine A1.out.mono ?_
    rintro e w1 ⟨rfl, b1⟩
    go_wp2
    go_ret
    exact ⟨rfl, b1⟩
  · have A1 := Lib.hid (refAny_is ha h1)
    cases h2 : anyB q
    · have A2 : Hid (∀ W : World, Below w.heap.size w W → Calls Try.prog 40 #[b] W fun e w' => e = .returned (.bool false) ∧ Below W.heap.size W w') := fun W hW => refAny_is (HB.out.keeps hW) h2
      have hz0 : z = false := by rw [hz, beg, h1, h2]; simp
      subst hz0
      clear ha hb hz h1 h2
      go_enter Try.func22, Try.ntmps22
      go_wp2_with fail
      refine A1.out.mono ?_
      rintro e w1 ⟨rfl, b1⟩
      go_wp2_with fail
      refine (A2.out _ b1).mono ?_
      rintro e w2 ⟨rfl, b2⟩
      have B2 := Lib.hid (bt b1 b2)
      clear b1 b2
      go_wp2
      go_ret
      exact ⟨rfl, B2.out⟩
    · have A2 : Hid (∀ W : World, Below w.heap.size w W → Calls Try.prog 40 #[b] W fun e w' => e = .returned (.bool true) ∧ Below W.heap.size W w') := fun W hW => refAny_is (HB.out.keeps hW) h2
      have p1 := (anyB_iff p).1 h1
      have p2 := (anyB_iff q).1 h2
      have hz0 : z = first (all p) (all q) := by rw [hz, beg, h1, h2]; simp
      have A3 : Hid (∀ W : World, Below w.heap.size w W → Calls Try.prog 42 #[a, b] W fun e w' => e = .returned (.bool z) ∧ Below W.heap.size W w') := fun W hW => by
        rw [hz0]
        exact first_any (HA.out.keeps hW) (HB.out.keeps hW) p1.chain p2.chain (by have := p1.len; omega) (by have := p2.len; omega)
      clear ha hb hz h1 h2 hz0 p1 p2
      go_enter Try.func22, Try.ntmps22
      go_wp2_with fail
      refine A1.out.mono ?_
      rintro e w1 ⟨rfl, b1⟩
      go_wp2_with fail
      refine (A2.out _ b1).mono ?_
      rintro e w2 ⟨rfl, b2⟩
      have B2 := Lib.hid (bt b1 b2)
      clear b1 b2
      go_wp2_with fail
      refine (A3.out _ B2.out).mono ?_
      rintro e w3 ⟨rfl, b3⟩
      have B3 := Lib.hid (bt B2.out b3)
      clear b3
      go_wp2
      go_ret
      exact ⟨rfl, B3.out⟩
end Go.Proofs.Ytfhmleigceakjaa.Place
