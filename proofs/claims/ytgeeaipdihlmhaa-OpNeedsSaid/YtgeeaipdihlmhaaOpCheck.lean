/- octavo/op.Check with its closures: what each answers. Conditions: the place's cells are runs. -/
import Derived.Test.YtgeeaipdihlmhaaPlaceIdl
import Derived.Test.YtgeeaipdihlmhaaPtChk
import Derived.Laws.EntriesVeiled
namespace Go.Proofs.Ytgeeaipdihlmhaa.Ops
open Go.RowKit Stamp Go.Proofs.Ytgeeaipdihlmhaa.Place
attribute [local go_sem ↓] Go.wp_at_zero Go.wp_at_succ

/-- An operation, its place apart. -/
structure Opn where
  k : Nat
  t : Nat
  r : Nat
  pl : List Run
  p : Int
  hk : k < 256
  ht : t < 4294967296
  hr : r < 256
  hp : -9223372036854775808 ≤ p ∧ p ≤ 9223372036854775807
theorem Opn.ext' {a b : Opn} (h1 : a.k = b.k) (h2 : a.t = b.t) (h3 : a.r = b.r) (h4 : a.pl = b.pl) (h5 : a.p = b.p) : a = b := by
  obtain ⟨k, t, r, l, p, _, _, _, _⟩ := a; obtain ⟨k', t', r', l', p', _, _, _, _⟩ := b
  simp only at h1 h2 h3 h4 h5
  subst h1 h2 h3 h4 h5
  rfl
/-- Its value, where its place's is v. -/
def opv (o : Opn) (v : Value) : Value := .agg #[.int .u8 (o.k : Int), .int .u32 (o.t : Int), .int .u8 (o.r : Int), v, .int .i64 o.p]

/-- What its kind asks; lt, lr: the last stamp of its place. -/
def kindF (k t r : Nat) (lt lr p : Int) : Bool :=
  if k = 1 then decide ((lt, lr) = ((t : Int), (r : Int))) && Pt.isB p
  else if k = 2 then decide ((lt, lr) = ((t : Int), (r : Int))) && decide (p = 0)
  else if k = 3 ∨ k = 4 then decide (lt < (t : Int)) && decide (p = 0)
  else false
def kindB (o : Opn) : Bool := kindF o.k o.t o.r (lastV o.pl).1 (lastV o.pl).2 o.p
/-- May it be? -/
def mayO (o : Opn) : Bool := may o.t o.r && (mayB o.pl && kindB o)
def chkO (o : Opn) : Int := if mayO o = true then 0 else 8

theorem takes_any (B L : Nat) (t : Nat) (lt p : Int) {w : World} (h1 : w.cell? ⟨B, 1, none⟩ = some (.int .u32 (t : Int))) (h2 : w.cell? ⟨B, 4, none⟩ = some (.int .i64 p)) (h3 : w.cell? ⟨L, 0, none⟩ = some (.int .u32 lt)) :
    Calls Try.prog 33 #[.pointer (some ⟨B, 0, none⟩), .pointer (some ⟨L, 0, none⟩)] w fun e w' => e = .returned (.bool (decide (lt < (t : Int)) && decide (p = 0))) ∧ w = w' := by
  by_cases q : lt < (t : Int)
  · rw [decide_eq_true q, Bool.true_and]
    have q1 : decide (lt < (t : Int)) = true := decide_eq_true q
    obtain ⟨b, hb⟩ : ∃ b, decide (p = 0) = b := ⟨_, rfl⟩
    have q2 : (p == 0) = b := by rw [← hb]; simp [BEq.beq]
    rw [hb]
    clear hb q
    go_enter Try.func33, Try.ntmps33
    go_wp2
    go_ret
    exact ⟨rfl, rfl⟩
  · rw [decide_eq_false q, Bool.false_and]
    have q1 : decide (lt < (t : Int)) = false := decide_eq_false q
    go_enter Try.func33, Try.ntmps33
    go_wp2
    go_ret
    exact ⟨rfl, rfl⟩
theorem none_any (w : World) : Calls Try.prog 34 #[] w fun e w' => e = .returned (.bool false) ∧ w = w' := by
  go_enter Try.func34, Try.ntmps34
  go_wp2
  go_ret
  exact ⟨rfl, rfl⟩
theorem ins_any (B L : Nat) (t r : Nat) (lt lr p : Int) {w : World} (h0 : w.cell? ⟨B, 1, none⟩ = some (.int .u32 (t : Int))) (h1 : w.cell? ⟨B, 2, none⟩ = some (.int .u8 (r : Int))) (h2 : w.cell? ⟨B, 4, none⟩ = some (.int .i64 p)) (h3 : w.cell? ⟨L, 0, none⟩ = some (.int .u32 lt)) (h4 : w.cell? ⟨L, 1, none⟩ = some (.int .u8 lr)) :
    Calls Try.prog 35 #[.pointer (some ⟨B, 0, none⟩), .pointer (some ⟨L, 0, none⟩)] w fun e w' => e = .returned (.bool (decide ((lt, lr) = ((t : Int), (r : Int))) && Pt.isB p)) ∧ w = w' := by
  by_cases q : (lt, lr) = ((t : Int), (r : Int))
  · rw [decide_eq_true q, Bool.true_and]
    obtain ⟨rfl, rfl⟩ := Prod.mk.inj q
    have C : Hid (∀ W : World, Calls Try.prog 36 #[.int .i64 p] W fun e w' => e = .returned (.int .i64 (if Pt.isB p = true then 0 else 40)) ∧ W = w') := fun W => by
      have := Pt.check_any p W
      unfold Pt.ck at this
      by_cases h : Pt.IsPt p
      · rw [if_pos h] at this; rw [if_pos (show Pt.isB p = true from decide_eq_true h)]; exact this
      · rw [if_neg h] at this; rw [if_neg (by rw [show Pt.isB p = false from decide_eq_false h]; simp)]; exact this
    obtain ⟨b, hb⟩ : ∃ b, Pt.isB p = b := ⟨_, rfl⟩
    rw [hb] at C ⊢
    clear hb q
    cases b
    · simp only [Bool.false_eq_true, if_false] at C
      go_enter Try.func35, Try.ntmps35
      go_wp2_with fail
      refine (C.out _).mono ?_
      rintro e w' ⟨rfl, rfl⟩
      go_wp2
      go_ret
      exact ⟨rfl, rfl⟩
    · simp only [if_true] at C
      go_enter Try.func35, Try.ntmps35
      go_wp2_with fail
      refine (C.out _).mono ?_
      rintro e w' ⟨rfl, rfl⟩
      go_wp2
      go_ret
      exact ⟨rfl, rfl⟩
  · rw [decide_eq_false q, Bool.false_and]
    by_cases q1 : lt = (t : Int)
    · have q2 : ¬ lr = (r : Int) := fun h => q (by rw [q1, h])
      subst q1
      clear q
      have q3 : ((r : Int) == lr) = false := by simp; omega
      have q3' : ((lr : Int) == r) = false := by simp; omega
      have q4 : ¬ (r : Int) = lr := fun h => q2 h.symm
      go_enter Try.func35, Try.ntmps35
      go_wp2
      go_ret
      exact ⟨rfl, rfl⟩
    · have q3 : ((t : Int) == lt) = false := by simp; omega
      have q4 : ¬ (t : Int) = lt := fun h => q1 h.symm
      clear q
      go_enter Try.func35, Try.ntmps35
      go_wp2
      go_ret
      exact ⟨rfl, rfl⟩
theorem mark_any (B L : Nat) (t r : Nat) (lt lr p : Int) {w : World} (h0 : w.cell? ⟨B, 1, none⟩ = some (.int .u32 (t : Int))) (h1 : w.cell? ⟨B, 2, none⟩ = some (.int .u8 (r : Int))) (h2 : w.cell? ⟨B, 4, none⟩ = some (.int .i64 p)) (h3 : w.cell? ⟨L, 0, none⟩ = some (.int .u32 lt)) (h4 : w.cell? ⟨L, 1, none⟩ = some (.int .u8 lr)) :
    Calls Try.prog 37 #[.pointer (some ⟨B, 0, none⟩), .pointer (some ⟨L, 0, none⟩)] w fun e w' => e = .returned (.bool (decide ((lt, lr) = ((t : Int), (r : Int))) && decide (p = 0))) ∧ w = w' := by
  by_cases q : (lt, lr) = ((t : Int), (r : Int))
  · rw [decide_eq_true q, Bool.true_and]
    obtain ⟨rfl, rfl⟩ := Prod.mk.inj q
    obtain ⟨b, hb⟩ : ∃ b, decide (p = 0) = b := ⟨_, rfl⟩
    have q2 : (p == 0) = b := by rw [← hb]; simp [BEq.beq]
    rw [hb]
    clear hb q
    go_enter Try.func37, Try.ntmps37
    go_wp2
    go_ret
    exact ⟨rfl, rfl⟩
  · rw [decide_eq_false q, Bool.false_and]
    by_cases q1 : lt = (t : Int)
    · have q2 : ¬ lr = (r : Int) := fun h => q (by rw [q1, h])
      subst q1
      clear q
      have q3 : ((r : Int) == lr) = false := by simp; omega
      have q4 : ¬ (r : Int) = lr := fun h => q2 h.symm
      go_enter Try.func37, Try.ntmps37
      go_wp2
      go_ret
      exact ⟨rfl, rfl⟩
    · have q3 : ((t : Int) == lt) = false := by simp; omega
      have q4 : ¬ (t : Int) = lt := fun h => q1 h.symm
      clear q
      go_enter Try.func37, Try.ntmps37
      go_wp2
      go_ret
      exact ⟨rfl, rfl⟩

/-- A block of five cells, behind calls that write nothing that was there. -/
theorem five_cells {w w2 : World} {c0 c1 c2 c3 c4 : Value} {e : TypeId} (h : Below (w.alloc (.cells #[c0, c1, c2, c3, c4] e)).heap.size (w.alloc (.cells #[c0, c1, c2, c3, c4] e)) w2) :
    w2.cell? ⟨w.heap.size, 0, none⟩ = some c0 ∧ w2.cell? ⟨w.heap.size, 1, none⟩ = some c1 ∧ w2.cell? ⟨w.heap.size, 2, none⟩ = some c2 ∧ w2.cell? ⟨w.heap.size, 3, none⟩ = some c3 ∧ w2.cell? ⟨w.heap.size, 4, none⟩ = some c4 := by
  have hh : w2.heap[w.heap.size]? = some (.cells #[c0, c1, c2, c3, c4] e (0, 0)) := (h.block w.heap.size (by simp)).trans (heap_alloc_new w _)
  exact ⟨cell_of_row _ w.heap.size 0 _ e _ hh, cell_of_row _ w.heap.size 1 _ e _ hh, cell_of_row _ w.heap.size 2 _ e _ hh, cell_of_row _ w.heap.size 3 _ e _ hh, cell_of_row _ w.heap.size 4 _ e _ hh⟩

set_option maxHeartbeats 4000000 in
theorem oCheck_any {v : Value} {o : Opn} {w : World} (hv : Runs w v o.pl) :
    Calls Try.prog 18 #[opv o v] w fun e w' => e = .returned (.int .i64 (chkO o)) ∧ Below w.heap.size w w' := by
  obtain ⟨k, t, r, l, p, hk, ht, hr, hp⟩ := o
  unfold opv
  simp only at hv ⊢
  have B0 : Hid (Below w.heap.size w (w.alloc (.cells #[.int .u8 (k : Int), .int .u32 (t : Int), .int .u8 (r : Int), v, .int .i64 p] 30))) := (Below.refl _ _).alloc (Nat.le_refl _) _
  have HV := Lib.hid hv
  cases h1 : may t r
  · have hc : chkO ⟨k, t, r, l, p, hk, ht, hr, hp⟩ = 8 := by unfold chkO mayO; simp only [h1]; rfl
    rw [hc]
    have M := Lib.hid (fun W => check_no t r h1 W)
    clear hv hc h1
    go_enter Try.func18, Try.ntmps18
    go_wp2_with fail
    refine (M.out _).mono ?_
    rintro e w1 ⟨rfl, b1⟩
    have B1 := Lib.hid (bt B0.out b1)
    clear b1
    go_wp2
    go_ret
    exact ⟨rfl, B1.out⟩
  have M := Lib.hid (fun W => check_yes t r h1 W)
  cases h2 : mayB l
  · have hc : chkO ⟨k, t, r, l, p, hk, ht, hr, hp⟩ = 8 := by unfold chkO mayO; simp only [h1, h2]; rfl
    rw [hc]
    have M2 : Hid (∀ W : World, Below w.heap.size w W → Calls Try.prog 25 #[v] W fun e w' => e = .returned (.int .i64 8) ∧ Below W.heap.size W w') := fun W hW => check_is (HV.out.keeps hW) (by unfold Place.chk; rw [h2]; rfl)
    clear hv hc h1 h2
    go_enter Try.func18, Try.ntmps18
    go_wp2_with fail
    refine (M.out _).mono ?_
    rintro e w1 ⟨rfl, b1⟩
    obtain ⟨c0, c1, c2, c3, c4⟩ := five_cells b1
    have B1 := Lib.hid (bt B0.out b1)
    clear b1
    go_wp2_with fail
    refine (M2.out _ B1.out).mono ?_
    rintro e w2 ⟨rfl, b2⟩
    have B2 := Lib.hid (bt B1.out b2)
    clear b2 c0 c1 c2 c3 c4
    go_wp2
    go_ret
    exact ⟨rfl, B2.out⟩
  have hc : chkO ⟨k, t, r, l, p, hk, ht, hr, hp⟩ = if kindB ⟨k, t, r, l, p, hk, ht, hr, hp⟩ = true then 0 else 8 := by unfold chkO mayO; simp only [h1, h2, Bool.true_and]
  have M2 : Hid (∀ W : World, Below w.heap.size w W → Calls Try.prog 25 #[v] W fun e w' => e = .returned (.int .i64 0) ∧ Below W.heap.size W w') := fun W hW => check_is (HV.out.keeps hW) (by unfold Place.chk; rw [if_pos h2])
  have M3 : Hid (∀ W : World, Below w.heap.size w W → Calls Try.prog 26 #[v] W fun e w' => e = .returned (.agg #[.int .u32 (lastV l).1, .int .u8 (lastV l).2]) ∧ Below W.heap.size W w') := fun W hW => pLast_any (HV.out.keeps hW)
  rw [hc]
  rw [show kindB ⟨k, t, r, l, p, hk, ht, hr, hp⟩ = kindF k t r (lastV l).1 (lastV l).2 p from rfl]
  obtain ⟨lt, hlt⟩ : ∃ x, x = (lastV l).1 := ⟨_, rfl⟩
  obtain ⟨lr, hlr⟩ : ∃ x, x = (lastV l).2 := ⟨_, rfl⟩
  rw [← hlt, ← hlr] at M3 ⊢
  obtain ⟨b, hb⟩ : ∃ b, kindF k t r lt lr p = b := ⟨_, rfl⟩
  have HB := Lib.hid hb
  rw [hb]
  have q5 : k = 0 ∨ k = 1 ∨ k = 2 ∨ k = 3 ∨ k = 4 ∨ 5 ≤ k := by omega
  clear hv hc h1 h2 hlt hlr hb
  go_enter Try.func18, Try.ntmps18
  go_wp2_with fail
  refine (M.out _).mono ?_
  rintro e w1 ⟨rfl, b1⟩
  obtain ⟨c0, c1, c2, c3, c4⟩ := five_cells b1
  have B1 := Lib.hid (bt B0.out b1)
  have C1 := Lib.hid b1
  clear b1
  go_wp2_with fail
  refine (M2.out _ B1.out).mono ?_
  rintro e w2 ⟨rfl, b2⟩
  have B2 := Lib.hid (bt B1.out b2)
  have C2 := Lib.hid (bt C1.out b2)
  clear b2 c0 c1 c2 c3 c4
  obtain ⟨c0, c1, c2, c3, c4⟩ := five_cells C2.out
  go_wp2_with fail
  refine (M3.out _ B2.out).mono ?_
  rintro e w3 ⟨rfl, b3⟩
  have B3 := Lib.hid (bt B2.out b3)
  have C3 := Lib.hid (bt C2.out b3)
  clear b3 c0 c1 c2 c3 c4
  obtain ⟨c0, c1, c2, c3, c4⟩ := five_cells C3.out
  have z3 : w.heap.size < w3.heap.size := by have := C3.out.size; simp at this; omega
  have KC : Hid (∀ o : Obj, (((w3.alloc (.cells #[.int .u32 lt, .int .u8 lr] 27)).alloc o).cell? ⟨w.heap.size, 1, none⟩ = some (.int .u32 (t : Int)) ∧ ((w3.alloc (.cells #[.int .u32 lt, .int .u8 lr] 27)).alloc o).cell? ⟨w.heap.size, 2, none⟩ = some (.int .u8 (r : Int)) ∧ ((w3.alloc (.cells #[.int .u32 lt, .int .u8 lr] 27)).alloc o).cell? ⟨w.heap.size, 4, none⟩ = some (.int .i64 p)) ∧
      ((w3.alloc (.cells #[.int .u32 lt, .int .u8 lr] 27)).alloc o).cell? ⟨w3.heap.size, 0, none⟩ = some (.int .u32 lt) ∧ ((w3.alloc (.cells #[.int .u32 lt, .int .u8 lr] 27)).alloc o).cell? ⟨w3.heap.size, 1, none⟩ = some (.int .u8 lr)) := fun o => by
    have b2 : Below w3.heap.size w3 ((w3.alloc (.cells #[.int .u32 lt, .int .u8 lr] 27)).alloc o) := ((Below.refl _ _).alloc (Nat.le_refl _) _).alloc (by simp) _
    have pr := (pair_new w3 (.int .u32 lt) (.int .u8 lr) 27).alloc o
    exact ⟨⟨(b2.cell (p := ⟨w.heap.size, 1, none⟩) z3).trans c1, (b2.cell (p := ⟨w.heap.size, 2, none⟩) z3).trans c2, (b2.cell (p := ⟨w.heap.size, 4, none⟩) z3).trans c4⟩, pr.2.1, pr.2.2⟩
  have B4 : Hid (∀ o1 o2 : Obj, Below w.heap.size w ((w3.alloc o1).alloc o2)) := fun o1 o2 => (B3.out.alloc B3.out.size _).alloc (by have := B3.out.size; simp; omega) _
  have CT := Lib.hid (fun o => takes_any w.heap.size w3.heap.size t lt p (KC.out o).1.1 (KC.out o).1.2.2 (KC.out o).2.1)
  have CI := Lib.hid (fun o => ins_any w.heap.size w3.heap.size t r lt lr p (KC.out o).1.1 (KC.out o).1.2.1 (KC.out o).1.2.2 (KC.out o).2.1 (KC.out o).2.2)
  have CM := Lib.hid (fun o => mark_any w.heap.size w3.heap.size t r lt lr p (KC.out o).1.1 (KC.out o).1.2.1 (KC.out o).1.2.2 (KC.out o).2.1 (KC.out o).2.2)
  clear M M2 M3 HV C1 C2 C3 B0
  rcases q5 with rfl | rfl | rfl | rfl | rfl | q5
  · obtain rfl : false = b := HB.out
    go_wp2_with fail
    refine (none_any _).mono ?_
    rintro e w4 ⟨rfl, rfl⟩
    go_wp2
    go_ret
    exact ⟨rfl, B4.out _ _⟩
  · have hq : (decide ((lt, lr) = ((t : Int), (r : Int))) && Pt.isB p) = b := HB.out
    rw [hq] at CI
    clear CT CM hq HB
    cases b
    all_goals
      go_wp2_with fail
      refine (CI.out _).mono ?_
      rintro e w4 ⟨rfl, rfl⟩
      go_wp2
      go_ret
      exact ⟨rfl, B4.out _ _⟩
  · have hq : (decide ((lt, lr) = ((t : Int), (r : Int))) && decide (p = 0)) = b := HB.out
    rw [hq] at CM
    clear CT CI hq HB
    cases b
    all_goals
      go_wp2_with fail
      refine (CM.out _).mono ?_
      rintro e w4 ⟨rfl, rfl⟩
      go_wp2
      go_ret
      exact ⟨rfl, B4.out _ _⟩
  · have hq : (decide (lt < (t : Int)) && decide (p = 0)) = b := HB.out
    rw [hq] at CT
    clear CM CI hq HB
    cases b
    all_goals
      go_wp2_with fail
      refine (CT.out _).mono ?_
      rintro e w4 ⟨rfl, rfl⟩
      go_wp2
      go_ret
      exact ⟨rfl, B4.out _ _⟩
  · have hq : (decide (lt < (t : Int)) && decide (p = 0)) = b := HB.out
    rw [hq] at CT
    clear CM CI hq HB
    cases b
    all_goals
      go_wp2_with fail
      refine (CT.out _).mono ?_
      rintro e w4 ⟨rfl, rfl⟩
      go_wp2
      go_ret
      exact ⟨rfl, B4.out _ _⟩
  · obtain rfl : false = b := by rw [← HB.out]; unfold kindF; rw [if_neg (by omega), if_neg (by omega), if_neg (by omega)]
    have s1 : decide ((5 : Int) ≤ (k : Int)) = true := decide_eq_true (by omega)
    have s2 : decide (5 ≤ k) = true := decide_eq_true q5
    clear CT CM CI
    go_wp2
    go_ret
    exact ⟨rfl, B4.out _ _⟩
end Go.Proofs.Ytgeeaipdihlmhaa.Ops
