/- octavoref08: put, told, Both, Left, Join, Less, One, Add: what each answers. Conditions: the slices' cells are replicas' spans. -/
import Derived.Test.YtinglfhndlklaaaClockRef3
namespace Go.Proofs.Ytinglfhndlklaaa.Clocks
open Go.RowKit Go.Proofs.Ytinglfhndlklaaa.Spans
attribute [local go_sem ↓] Go.wp_at_zero Go.wp_at_succ

/-- A replica's spans behind a clock, if there are any. -/
def putC (c : List Tm) (r : Nat) (l : List Sp) : List Tm := c ++ if l = [] then [] else [(r, l)]

set_option maxHeartbeats 1000000 in
theorem put_any {base : Nat} {v u : Value} {c : List Tm} {l : List Sp} {r : Nat} {w : World} (hv : OwnC w base v c) (hu : w.ownsRow base 63 2 u l.length (sps l)) (hr : r < 256) (hc : c.length ≤ 1000) (hl : l.length ≤ 1024) (hb : base ≤ w.heap.size) :
    Calls Try.prog 72 #[v, .int .u8 (r : Int), u] w fun e w' => ∃ v', e = .returned (.tuple #[v', .bool true]) ∧ OwnC w' base v' (putC c r l) ∧ Below base w w' := by
  obtain ⟨cs, hv1, hv2⟩ := hv
  obtain ⟨ao, cap, rfl⟩ := Sees.shape (Sees.own hv1)
  obtain ⟨so, sc, rfl⟩ := Sees.shape (Sees.own hu)
  obtain ⟨n, hn⟩ : ∃ n, n = c.length := ⟨_, rfl⟩
  obtain ⟨m, hm⟩ : ∃ m, m = l.length := ⟨_, rfl⟩
  rw [← hn] at hv1 hc ⊢
  rw [← hm] at hu hl ⊢
  have HV1 := Lib.hid hv1
  have HV2 := Lib.hid hv2
  have HU := Lib.hid hu
  have HN := Lib.hid hn
  have HM := Lib.hid hm
  have t3 : decide ((m : Int) ≤ 1024) = true := decide_eq_true (by omega)
  have t4 : decide (m ≤ 1024) = true := decide_eq_true hl
  clear hv1 hv2 hu
  by_cases h0 : m = 0
  · have hl0 : l = [] := List.length_eq_zero_iff.1 (by omega)
    have t1 : decide ((0 : Int) < (m : Int)) = false := decide_eq_false (by omega)
    have t2 : decide (0 < m) = false := decide_eq_false (by omega)
    have e : putC c r l = c := by unfold putC; rw [if_pos hl0, List.append_nil]
    rw [e]
    clear hl0 hm hn e
    go_enter Try.func72, Try.ntmps72
    go_wp2
    go_ret2
    exact ⟨_, rfl, ⟨cs, by rw [← HN.out]; exact HV1.out, HV2.out⟩, Below.refl _ _⟩
  · have hl0 : l ≠ [] := fun h => h0 (by rw [hm, h]; rfl)
    have t1 : decide ((0 : Int) < (m : Int)) = true := decide_eq_true (by omega)
    have t2 : decide (0 < m) = true := decide_eq_true (by omega)
    have e : putC c r l = c ++ [(r, l)] := by unfold putC; rw [if_neg hl0]
    rw [e]
    have hlen : (c ++ [(r, l)]).length = n + 1 := by simp [hn]
    have HLEN := Lib.hid hlen
    have XB := Lib.hid ((Below.refl w.heap.size w).alloc (Nat.le_refl _) (.cells #[.int .u8 (r : Int), .slice (some (so.getD ⟨0, 0, none⟩)) 0 0] 28))
    clear hl0 hm hn e hlen XB
    have SE : Hid (Sees (w.alloc (.cells #[.int .u8 (r : Int), .slice so m sc] 28)) (.slice (some ⟨w.heap.size, 0, none⟩) 1 1) 2 1 [.int .u8 (r : Int), .slice so m sc]) := sees_new w [.int .u8 (r : Int), .slice so m sc] 2 1 rfl (by omega) _ _
    have BX := Lib.hid ((Below.refl w.heap.size w).alloc (Nat.le_refl _) (.cells #[.int .u8 (r : Int), .slice so m sc] 28))
    go_enter Try.func72, Try.ntmps72
    go_wp2_with (at_builtin; refine wpList_append_sees rfl (.tmp 11) (.tmp 15) 22 28 rfl Try.underlying22 times_info rfl (by decide) base _ n cs rfl (own_stays HV1.out BX.out) _ 1 _ rfl SE.out (by intro z hz; simp at hz; rcases hz with rfl | rfl <;> rfl) ?a1 ?a2 ?a3 ?_)
    case a1 => omega
    case a2 => omega
    case a3 => exact Nat.le_trans hb BX.out.size
    rintro v5 w5 o5 g5 b5
    have OW : Hid (OwnC w5 base v5 (c ++ [(r, l)])) := by
      have hx := own_stays HV1.out BX.out
      refine ⟨cs ++ [.int .u8 (r : Int), .slice so m sc], by rw [HLEN.out]; exact o5, HoldO.append (hold_grown (HV2.out.keeps BX.out) g5 (times_row hx)) ⟨rfl, hr, ?_, trivial⟩⟩
      have := own_kept_span (own_stays HU.out BX.out) hx g5
      rw [HM.out] at this
      rw [HM.out]
      exact this
    have BB := Lib.hid ((BX.out.mono hb).trans b5)
    obtain ⟨a5, c5, rfl⟩ : ∃ ao cap, v5 = .slice ao (n + 1) cap := Sees.shape (Sees.own o5)
    clear o5 g5 b5 SE BX
    go_wp2
    go_ret2
    exact ⟨_, rfl, OW.out, BB.out⟩

theorem toldC_any {base : Nat} {v : Value} {c : List Tm} {w : World} (hv : OwnC w base v c) :
    Calls Try.prog 50 #[v, .bool true] w fun e w' => e = .returned (.tuple #[v, .int .i64 0]) ∧ w' = w := by
  obtain ⟨ao, cap, rfl⟩ := hv.tms.shape
  clear hv
  go_enter Try.func50, Try.ntmps50
  go_wp2
  go_ret2
  exact ⟨rfl, rfl⟩

set_option maxRecDepth 100000 in
set_option maxHeartbeats 2000000 in
theorem refBothC_any {v u : Value} {a b : List Tm} {w : World} (hv : Tms w v a) (hu : Tms w u b) (ha : Cok a) (hb : Cok b) (hf : Few a b) :
    Calls Try.prog 51 #[v, u] w fun e w' => ∃ v', e = .returned (.tuple #[v', .bool true]) ∧ OwnC w' w.heap.size v' (bothC a b) ∧ Below w.heap.size w w' := by
  obtain ⟨g, hg⟩ : ∃ g : Nat → List Sp, g = fun r => both (spn a r) (spn b r) := ⟨_, rfl⟩
  have e : bothC a b = clkFrom g 0 8 := by rw [hg]; rfl
  rw [e]
  have SA : Hid (∀ r : Nat, ∃ x, Sps w x (spn a r) ∧ ∀ W, Below w.heap.size w W → Calls Try.prog 74 #[v, .int .u8 (r : Int)] W fun e w' => e = .returned x ∧ w' = W) := fun r => refSpans_at hv r
  have SB : Hid (∀ r : Nat, ∃ x, Sps w x (spn b r) ∧ ∀ W, Below w.heap.size w W → Calls Try.prog 74 #[u, .int .u8 (r : Int)] W fun e w' => e = .returned x ∧ w' = W) := fun r => refSpans_at hu r
  have BO : Hid (∀ (r : Nat) (W : World) (x y : Value), Sps W x (spn a r) → Sps W y (spn b r) → Calls Try.prog 73 #[x, y] W fun e w' => ∃ v', e = .returned v' ∧ w'.ownsRow W.heap.size 63 2 v' (g r).length (sps (g r)) ∧ Below W.heap.size W w') := fun r W x y h1 h2 => by
    have f1 := (mayB_iff _).1 (spn_may ha r)
    have f2 := (mayB_iff _).1 (spn_may hb r)
    rw [hg]
    exact both_any h1 h2 f1.1 f2.1.all (by omega) (by omega)
  have GM : Hid (∀ r, (g r).length ≤ 1024) := fun r => by
    have := ((mayB_iff _).1 (few_may ha hb hf r)).2
    rw [hg]
    exact this
  obtain ⟨ao, ca, rfl⟩ := hv.shape
  obtain ⟨bo, cb, rfl⟩ := hu.shape
  clear e hg hv hu ha hb hf
  have O0 : Hid (OwnC w w.heap.size (.slice none 0 0) (clkFrom g 0 0)) := OwnC.nil _ _
  have B0 := Lib.hid (Below.refl w.heap.size w)
  go_enter Try.func51, Try.ntmps51
  go_wp2
  go_loopw [6, 7, 8] (fun o t i wr => ∃ k : Nat, k ≤ 8 ∧ i = .int .u8 (k : Int) ∧ t = .bool true ∧ Hid (OwnC wr w.heap.size o (clkFrom g 0 k)) ∧ Hid (Below w.heap.size w wr)) (fun _ _ i _ => 8 - (intOf i).toNat)
  case atStart => exact ⟨0, by omega, rfl, rfl, O0, B0⟩
  case round =>
    obtain ⟨k, hk, rfl, rfl, hown, hbel⟩ := hrel
    by_cases hk8 : k < 8
    · have q1 : decide ((k : Int) < 8) = true := decide_eq_true (by omega)
      have q2 : decide (k < 8) = true := decide_eq_true hk8
      obtain ⟨x, hx, cx⟩ := SA.out k
      obtain ⟨y, hy, cy⟩ := SB.out k
      have CX := Lib.hid (cx _ hbel.out)
      have CY := Lib.hid (cy _ hbel.out)
      have HX := Lib.hid (hx.keeps hbel.out)
      have HY := Lib.hid (hy.keeps hbel.out)
      have BK := Lib.hid (BO.out k _ _ _ HX.out HY.out)
      have GK := Lib.hid (GM.out k)
      have hln := clkFrom_len g k 0
      have hsn := clkFrom_snoc g k 0
      rw [Nat.zero_add] at hsn
      have HSN : Hid (clkFrom g 0 (k + 1) = putC (clkFrom g 0 k) k (g k)) := hsn
      obtain ⟨xo, xc, rfl⟩ := hx.shape
      obtain ⟨yo, yc, rfl⟩ := hy.shape
      have hsz := hbel.out.size
      have e1 : IntKind.u8.wrap ((k : Int) + 1) = (k : Int) + 1 := by rw [IntKind.wrap_u8]; omega
      clear cx cy hx hy hsn
      go_wp2_with fail
      refine CX.out.mono ?_
      rintro e w1 ⟨rfl, rfl⟩
      go_wp2_with fail
      refine CY.out.mono ?_
      rintro e w1 ⟨rfl, rfl⟩
      go_wp2_with fail
      refine BK.out.mono ?_
      rintro e w2 ⟨v2, rfl, o2, b2⟩
      have PU := put_any (r := k) (hown.out.keeps b2) (own_base o2 hsz) (by omega) (by omega) GK.out (Nat.le_trans hsz b2.size)
      have PU' := Lib.hid PU
      have B2 := Lib.hid (bt hbel.out b2)
      clear PU o2 b2
      go_wp2_with fail
      refine PU'.out.mono ?_
      rintro e w3 ⟨v3, rfl, o3, b3⟩
      have O3 := Lib.hid o3
      have B3 := Lib.hid (B2.out.trans b3)
      clear o3 b3
      go_wp2
      go_roundw
      case rel => exact ⟨k + 1, by omega, by go_num, rfl, Lib.hid (by rw [HSN.out]; exact O3.out), B3⟩
      case measure => simp [intOf]; omega
    · have q1 : decide ((k : Int) < 8) = false := decide_eq_false (by omega)
      have q2 : decide (k < 8) = false := decide_eq_false hk8
      obtain rfl : k = 8 := by omega
      go_wp2
      go_ret2
      exact ⟨_, rfl, hown.out, hbel.out⟩

set_option maxRecDepth 100000 in
set_option maxHeartbeats 2000000 in
theorem refLeftC_any {v u : Value} {a b : List Tm} {w : World} (hv : Tms w v a) (hu : Tms w u b) (ha : Cok a) (hb : Cok b) (hf : Few a b) :
    Calls Try.prog 53 #[v, u] w fun e w' => ∃ v', e = .returned (.tuple #[v', .bool true]) ∧ OwnC w' w.heap.size v' (leftC a b) ∧ Below w.heap.size w w' := by
  obtain ⟨g, hg⟩ : ∃ g : Nat → List Sp, g = fun r => left (spn a r) (spn b r) := ⟨_, rfl⟩
  have e : leftC a b = clkFrom g 0 8 := by rw [hg]; rfl
  rw [e]
  have SA : Hid (∀ r : Nat, ∃ x, Sps w x (spn a r) ∧ ∀ W, Below w.heap.size w W → Calls Try.prog 74 #[v, .int .u8 (r : Int)] W fun e w' => e = .returned x ∧ w' = W) := fun r => refSpans_at hv r
  have SB : Hid (∀ r : Nat, ∃ x, Sps w x (spn b r) ∧ ∀ W, Below w.heap.size w W → Calls Try.prog 74 #[u, .int .u8 (r : Int)] W fun e w' => e = .returned x ∧ w' = W) := fun r => refSpans_at hu r
  have BO : Hid (∀ (r : Nat) (W : World) (x y : Value), Sps W x (spn a r) → Sps W y (spn b r) → Calls Try.prog 75 #[x, y] W fun e w' => ∃ v', e = .returned v' ∧ w'.ownsRow W.heap.size 63 2 v' (g r).length (sps (g r)) ∧ Below W.heap.size W w') := fun r W x y h1 h2 => by
    have f1 := (mayB_iff _).1 (spn_may ha r)
    have f2 := (mayB_iff _).1 (spn_may hb r)
    rw [hg]
    exact left_any h1 h2 f1.1 f2.1.all (by omega) (by omega)
  have GM : Hid (∀ r, (g r).length ≤ 1024) := fun r => by
    have := ((mayB_iff _).1 (few_may_left ha hb hf r)).2
    rw [hg]
    exact this
  obtain ⟨ao, ca, rfl⟩ := hv.shape
  obtain ⟨bo, cb, rfl⟩ := hu.shape
  clear e hg hv hu ha hb hf
  have O0 : Hid (OwnC w w.heap.size (.slice none 0 0) (clkFrom g 0 0)) := OwnC.nil _ _
  have B0 := Lib.hid (Below.refl w.heap.size w)
  go_enter Try.func53, Try.ntmps53
  go_wp2
  go_loopw [6, 7, 8] (fun o t i wr => ∃ k : Nat, k ≤ 8 ∧ i = .int .u8 (k : Int) ∧ t = .bool true ∧ Hid (OwnC wr w.heap.size o (clkFrom g 0 k)) ∧ Hid (Below w.heap.size w wr)) (fun _ _ i _ => 8 - (intOf i).toNat)
  case atStart => exact ⟨0, by omega, rfl, rfl, O0, B0⟩
  case round =>
    obtain ⟨k, hk, rfl, rfl, hown, hbel⟩ := hrel
    by_cases hk8 : k < 8
    · have q1 : decide ((k : Int) < 8) = true := decide_eq_true (by omega)
      have q2 : decide (k < 8) = true := decide_eq_true hk8
      obtain ⟨x, hx, cx⟩ := SA.out k
      obtain ⟨y, hy, cy⟩ := SB.out k
      have CX := Lib.hid (cx _ hbel.out)
      have CY := Lib.hid (cy _ hbel.out)
      have HX := Lib.hid (hx.keeps hbel.out)
      have HY := Lib.hid (hy.keeps hbel.out)
      have BK := Lib.hid (BO.out k _ _ _ HX.out HY.out)
      have GK := Lib.hid (GM.out k)
      have hln := clkFrom_len g k 0
      have hsn := clkFrom_snoc g k 0
      rw [Nat.zero_add] at hsn
      have HSN : Hid (clkFrom g 0 (k + 1) = putC (clkFrom g 0 k) k (g k)) := hsn
      obtain ⟨xo, xc, rfl⟩ := hx.shape
      obtain ⟨yo, yc, rfl⟩ := hy.shape
      have hsz := hbel.out.size
      have e1 : IntKind.u8.wrap ((k : Int) + 1) = (k : Int) + 1 := by rw [IntKind.wrap_u8]; omega
      clear cx cy hx hy hsn
      go_wp2_with fail
      refine CX.out.mono ?_
      rintro e w1 ⟨rfl, rfl⟩
      go_wp2_with fail
      refine CY.out.mono ?_
      rintro e w1 ⟨rfl, rfl⟩
      go_wp2_with fail
      refine BK.out.mono ?_
      rintro e w2 ⟨v2, rfl, o2, b2⟩
      have PU := put_any (r := k) (hown.out.keeps b2) (own_base o2 hsz) (by omega) (by omega) GK.out (Nat.le_trans hsz b2.size)
      have PU' := Lib.hid PU
      have B2 := Lib.hid (bt hbel.out b2)
      clear PU o2 b2
      go_wp2_with fail
      refine PU'.out.mono ?_
      rintro e w3 ⟨v3, rfl, o3, b3⟩
      have O3 := Lib.hid o3
      have B3 := Lib.hid (B2.out.trans b3)
      clear o3 b3
      go_wp2
      go_roundw
      case rel => exact ⟨k + 1, by omega, by go_num, rfl, Lib.hid (by rw [HSN.out]; exact O3.out), B3⟩
      case measure => simp [intOf]; omega
    · have q1 : decide ((k : Int) < 8) = false := decide_eq_false (by omega)
      have q2 : decide (k < 8) = false := decide_eq_false hk8
      obtain rfl : k = 8 := by omega
      go_wp2
      go_ret2
      exact ⟨_, rfl, hown.out, hbel.out⟩

/-- What is answered: a clock of its own, and an error. -/
def DoneC (c : List Tm) (x : Int) (w : World) (e : Ending) (w' : World) : Prop :=
  ∃ v, e = .returned (.tuple #[v, .int .i64 x]) ∧ OwnC w' w.heap.size v c ∧ Below w.heap.size w w'

set_option maxHeartbeats 1000000 in
theorem refJoinC_any {v u : Value} {a b : List Tm} {w : World} (hv : Tms w v a) (hu : Tms w u b) (hf : Few a b) :
    Calls Try.prog 24 #[v, u] w (DoneC (joinsC a b).1 (joinsC a b).2 w) := by
  have HV := Lib.hid hv
  have HU := Lib.hid hu
  obtain ⟨L, c, hd⟩ : ∃ L c, joinsC a b = (L, c) := ⟨_, _, rfl⟩
  rw [hd]
  have HD := Lib.hid hd
  have M1 := Lib.hid (refMayC_any hv)
  have M2 : Hid (∀ W : World, Below w.heap.size w W → Calls Try.prog 48 #[u] W fun e w' => e = .returned (.bool (mayC b)) ∧ Below W.heap.size W w') := fun W hW => refMayC_any (HU.out.keeps hW)
  obtain ⟨pa, hpa⟩ : ∃ p, mayC a = p := ⟨_, rfl⟩
  obtain ⟨pb, hpb⟩ : ∃ p, mayC b = p := ⟨_, rfl⟩
  rw [hpa] at M1
  rw [hpb] at M2
  have HA := Lib.hid hpa
  have HB := Lib.hid hpb
  have HF := Lib.hid hf
  clear hv hu hd hpa hpb hf
  simp only
  cases pa
  · obtain ⟨rfl, rfl⟩ : L = [] ∧ c = 8 := by
      have h := HD.out
      unfold joinsC at h
      rw [if_neg (by rw [HA.out]; simp)] at h
      exact ⟨(Prod.mk.inj h).1.symm, (Prod.mk.inj h).2.symm⟩
    go_enter Try.func24, Try.ntmps24
    go_wp2_with fail
    refine M1.out.mono ?_
    rintro e w1 ⟨rfl, b1⟩
    go_wp2
    go_ret2
    exact ⟨_, rfl, OwnC.nil _ _, b1⟩
  cases pb
  · obtain ⟨rfl, rfl⟩ : L = [] ∧ c = 8 := by
      have h := HD.out
      unfold joinsC at h
      rw [if_neg (by rw [HB.out]; simp)] at h
      exact ⟨(Prod.mk.inj h).1.symm, (Prod.mk.inj h).2.symm⟩
    go_enter Try.func24, Try.ntmps24
    go_wp2_with fail
    refine M1.out.mono ?_
    rintro e w1 ⟨rfl, b1⟩
    have B1 := Lib.hid b1
    clear b1
    go_wp2_with fail
    refine (M2.out _ B1.out).mono ?_
    rintro e w2 ⟨rfl, b2⟩
    have B2 := Lib.hid (bt B1.out b2)
    clear b2
    go_wp2
    go_ret2
    exact ⟨_, rfl, OwnC.nil _ _, B2.out⟩
  have hA := (mayC_iff a).1 HA.out
  have hB := (mayC_iff b).1 HB.out
  obtain ⟨rfl, rfl⟩ : L = bothC a b ∧ c = 0 := by
    have h := HD.out
    unfold joinsC at h
    rw [if_pos ⟨HA.out, HB.out⟩] at h
    exact ⟨(Prod.mk.inj h).1.symm, (Prod.mk.inj h).2.symm⟩
  have ST : Hid (∀ W : World, Below w.heap.size w W → Calls Try.prog 51 #[v, u] W fun e w' => ∃ v', e = .returned (.tuple #[v', .bool true]) ∧ OwnC w' W.heap.size v' (bothC a b) ∧ Below W.heap.size W w') := fun W hW => refBothC_any (HV.out.keeps hW) (HU.out.keeps hW) hA hB HF.out
  obtain ⟨J, hJ⟩ : ∃ J, J = bothC a b := ⟨_, rfl⟩
  rw [← hJ] at ST ⊢
  clear hA hB HD hJ
  go_enter Try.func24, Try.ntmps24
  go_wp2_with fail
  refine M1.out.mono ?_
  rintro e w1 ⟨rfl, b1⟩
  have B1 := Lib.hid b1
  clear b1
  go_wp2_with fail
  refine (M2.out _ B1.out).mono ?_
  rintro e w2 ⟨rfl, b2⟩
  have B2 := Lib.hid (bt B1.out b2)
  clear b2
  go_wp2_with fail
  refine (ST.out _ B2.out).mono ?_
  rintro e w3 ⟨v3, rfl, o3, b3⟩
  have O3 := Lib.hid (OwnC.base o3 B2.out.size)
  have B3 := Lib.hid (bt B2.out b3)
  have TO := Lib.hid (toldC_any o3)
  clear o3 b3
  go_wp2_with fail
  refine TO.out.mono ?_
  rintro e w4 ⟨rfl, rfl⟩
  go_wp2
  go_ret2
  exact ⟨_, rfl, O3.out, B3.out⟩

set_option maxHeartbeats 1000000 in
theorem refLessC_any {v u : Value} {a b : List Tm} {w : World} (hv : Tms w v a) (hu : Tms w u b) (hf : Few a b) :
    Calls Try.prog 25 #[v, u] w (DoneC (leftsC a b).1 (leftsC a b).2 w) := by
  have HV := Lib.hid hv
  have HU := Lib.hid hu
  obtain ⟨L, c, hd⟩ : ∃ L c, leftsC a b = (L, c) := ⟨_, _, rfl⟩
  rw [hd]
  have HD := Lib.hid hd
  have M1 := Lib.hid (refMayC_any hv)
  have M2 : Hid (∀ W : World, Below w.heap.size w W → Calls Try.prog 48 #[u] W fun e w' => e = .returned (.bool (mayC b)) ∧ Below W.heap.size W w') := fun W hW => refMayC_any (HU.out.keeps hW)
  obtain ⟨pa, hpa⟩ : ∃ p, mayC a = p := ⟨_, rfl⟩
  obtain ⟨pb, hpb⟩ : ∃ p, mayC b = p := ⟨_, rfl⟩
  rw [hpa] at M1
  rw [hpb] at M2
  have HA := Lib.hid hpa
  have HB := Lib.hid hpb
  have HF := Lib.hid hf
  clear hv hu hd hpa hpb hf
  simp only
  cases pa
  · obtain ⟨rfl, rfl⟩ : L = [] ∧ c = 8 := by
      have h := HD.out
      unfold leftsC at h
      rw [if_neg (by rw [HA.out]; simp)] at h
      exact ⟨(Prod.mk.inj h).1.symm, (Prod.mk.inj h).2.symm⟩
    go_enter Try.func25, Try.ntmps25
    go_wp2_with fail
    refine M1.out.mono ?_
    rintro e w1 ⟨rfl, b1⟩
    go_wp2
    go_ret2
    exact ⟨_, rfl, OwnC.nil _ _, b1⟩
  cases pb
  · obtain ⟨rfl, rfl⟩ : L = [] ∧ c = 8 := by
      have h := HD.out
      unfold leftsC at h
      rw [if_neg (by rw [HB.out]; simp)] at h
      exact ⟨(Prod.mk.inj h).1.symm, (Prod.mk.inj h).2.symm⟩
    go_enter Try.func25, Try.ntmps25
    go_wp2_with fail
    refine M1.out.mono ?_
    rintro e w1 ⟨rfl, b1⟩
    have B1 := Lib.hid b1
    clear b1
    go_wp2_with fail
    refine (M2.out _ B1.out).mono ?_
    rintro e w2 ⟨rfl, b2⟩
    have B2 := Lib.hid (bt B1.out b2)
    clear b2
    go_wp2
    go_ret2
    exact ⟨_, rfl, OwnC.nil _ _, B2.out⟩
  have hA := (mayC_iff a).1 HA.out
  have hB := (mayC_iff b).1 HB.out
  obtain ⟨rfl, rfl⟩ : L = leftC a b ∧ c = 0 := by
    have h := HD.out
    unfold leftsC at h
    rw [if_pos ⟨HA.out, HB.out⟩] at h
    exact ⟨(Prod.mk.inj h).1.symm, (Prod.mk.inj h).2.symm⟩
  have ST : Hid (∀ W : World, Below w.heap.size w W → Calls Try.prog 53 #[v, u] W fun e w' => ∃ v', e = .returned (.tuple #[v', .bool true]) ∧ OwnC w' W.heap.size v' (leftC a b) ∧ Below W.heap.size W w') := fun W hW => refLeftC_any (HV.out.keeps hW) (HU.out.keeps hW) hA hB HF.out
  obtain ⟨J, hJ⟩ : ∃ J, J = leftC a b := ⟨_, rfl⟩
  rw [← hJ] at ST ⊢
  clear hA hB HD hJ
  go_enter Try.func25, Try.ntmps25
  go_wp2_with fail
  refine M1.out.mono ?_
  rintro e w1 ⟨rfl, b1⟩
  have B1 := Lib.hid b1
  clear b1
  go_wp2_with fail
  refine (M2.out _ B1.out).mono ?_
  rintro e w2 ⟨rfl, b2⟩
  have B2 := Lib.hid (bt B1.out b2)
  clear b2
  go_wp2_with fail
  refine (ST.out _ B2.out).mono ?_
  rintro e w3 ⟨v3, rfl, o3, b3⟩
  have O3 := Lib.hid (OwnC.base o3 B2.out.size)
  have B3 := Lib.hid (bt B2.out b3)
  have TO := Lib.hid (toldC_any o3)
  clear o3 b3
  go_wp2_with fail
  refine TO.out.mono ?_
  rintro e w4 ⟨rfl, rfl⟩
  go_wp2
  go_ret2
  exact ⟨_, rfl, O3.out, B3.out⟩
end Go.Proofs.Ytinglfhndlklaaa.Clocks
