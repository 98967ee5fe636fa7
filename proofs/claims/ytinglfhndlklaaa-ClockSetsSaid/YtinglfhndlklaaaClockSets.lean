/- The law ClockSets: its walk. Conditions: the slices' cells are replicas' spans; no slice of spans takes more than 2^47 bytes. -/
import Derived.Test.YtinglfhndlklaaaClockAlive
import Derived.Test.YtinglfhndlklaaaClockCode5
namespace Go.Proofs.Ytinglfhndlklaaa.Clocks
open Go.RowKit Go.Proofs.Ytinglfhndlklaaa.Spans
attribute [local go_sem ↓] Go.wp_at_zero Go.wp_at_succ
attribute [local go_sem] yielded_undef

theorem joinsC_may {a b : List Tm} (ha : mayC a = true) (hb : mayC b = true) : joinsC a b = (bothC a b, 0) := if_pos ⟨ha, hb⟩
theorem leftsC_may {a b : List Tm} (ha : mayC a = true) (hb : mayC b = true) : leftsC a b = (leftC a b, 0) := if_pos ⟨ha, hb⟩
theorem check_is {c : List Tm} {k : Int} (h : chkC c = k) (W : World) (v : Value) (hv : Tms W v c) : Calls Try.prog 20 #[v] W fun e w' => e = .returned (.int .i64 k) ∧ Below W.heap.size W w' := cCheck_is hv h
theorem keepC {W W' : World} {g o : Nat} {v : Value} (h : W.cell? ⟨g, o, none⟩ = some v) (b : Below W.heap.size W W') : W'.cell? ⟨g, o, none⟩ = some v :=
  (b.cell (p := ⟨g, o, none⟩) (World.block_lt_of_cell? W _ h)).trans h
theorem has_lit {c : List Tm} {a : Id} {q : Bool} (h : hasC c a = q) (W : World) (v : Value) (hv : Tms W v c) :
    Calls Try.prog 32 #[v, .agg #[.int .u32 (a.t : Int), .int .u8 (a.r : Int)]] W fun e w' => e = .returned (.bool q) ∧ Below W.heap.size W w' := by
  rw [← h]; exact cHas_any a hv
set_option maxRecDepth 100000 in
set_option maxHeartbeats 16000000 in
theorem sets_walk (ao0 : Option Addr) (cap0 : Nat) (l0 : List Tm) (ao1 : Option Addr) (cap1 : Nat) (l1 : List Tm) (a2 a3 : Id) (w : World)
    (hr0 : Tms w (.slice ao0 l0.length cap0) l0) (hr1 : Tms w (.slice ao1 l1.length cap1) l1) (hz0 : ∀ x ∈ l0, x.2.length ≤ 17592186044416) (hz1 : ∀ x ∈ l1, x.2.length ≤ 17592186044416) :
    Calls Try.prog 6 #[.slice ao0 l0.length cap0, .slice ao1 l1.length cap1, .agg #[.int .u32 (a2.t : Int), .int .u8 (a2.r : Int)], .agg #[.int .u32 (a3.t : Int), .int .u8 (a3.r : Int)]] w fun e w' => e = .returned (.bool true) ∧ Below w.heap.size w w' := by
  obtain ⟨it, ir, hit, hir⟩ := a2
  obtain ⟨jt, jr, hjt, hjr⟩ := a3
  simp only
  have BX : Hid (Below w.heap.size w ((w.alloc (.cells #[.int .u32 (it : Int), .int .u8 (ir : Int)] 34)).alloc (.cells #[.int .u32 (jt : Int), .int .u8 (jr : Int)] 34))) := ((Below.refl w.heap.size w).alloc (Nat.le_refl _) _).alloc (by simp) _
  have PI : Hid ((((w.alloc (.cells #[.int .u32 (it : Int), .int .u8 (ir : Int)] 34)).alloc (.cells #[.int .u32 (jt : Int), .int .u8 (jr : Int)] 34))).heap[w.heap.size]? = some (.cells #[.int .u32 (it : Int), .int .u8 (ir : Int)] 34) ∧ (((w.alloc (.cells #[.int .u32 (it : Int), .int .u8 (ir : Int)] 34)).alloc (.cells #[.int .u32 (jt : Int), .int .u8 (jr : Int)] 34))).heap[w.heap.size + 1]? = some (.cells #[.int .u32 (jt : Int), .int .u8 (jr : Int)] 34)) := ⟨blk_old (kb_new rfl), kb_new (by simp)⟩
  obtain ⟨X0, hX0⟩ : ∃ X, X = ((w.alloc (.cells #[.int .u32 (it : Int), .int .u8 (ir : Int)] 34)).alloc (.cells #[.int .u32 (jt : Int), .int .u8 (jr : Int)] 34)) := ⟨_, rfl⟩
  rw [← hX0] at BX PI
  have HX0 := Lib.hid hX0
  have T0 : Hid (∀ W : World, Below X0.heap.size X0 W → Tms W (.slice ao0 l0.length cap0) l0) := fun W hW => hr0.keeps (bt BX.out hW)
  have T1 : Hid (∀ W : World, Below X0.heap.size X0 W → Tms W (.slice ao1 l1.length cap1) l1) := fun W hW => hr1.keeps (bt BX.out hW)
  have G0 : Hid (∀ W : World, Below X0.heap.size X0 W → Calls Try.prog 21 #[.slice ao0 l0.length cap0] W fun e w' => (∃ g, e = .returned (.bool g) ∧ (g = false → l0.length ≤ 300 ∧ tot l0 ≤ 300)) ∧ W = w') := fun W hW => great_sz (hr0.keeps (bt BX.out hW)) hz0
  have G1 : Hid (∀ W : World, Below X0.heap.size X0 W → Calls Try.prog 21 #[.slice ao1 l1.length cap1] W fun e w' => (∃ g, e = .returned (.bool g) ∧ (g = false → l1.length ≤ 300 ∧ tot l1 ≤ 300)) ∧ W = w') := fun W hW => great_sz (hr1.keeps (bt BX.out hW)) hz1
  have AL := Lib.hid alive08_any
  clear hr0 hr1 hz0 hz1
  obtain ⟨n0, hn0⟩ : ∃ n, n = l0.length := ⟨_, rfl⟩
  obtain ⟨n1, hn1⟩ : ∃ n, n = l1.length := ⟨_, rfl⟩
  rw [← hn0] at G0 T0 ⊢
  rw [← hn1] at G1 T1 ⊢
  clear hn0 hn1
  go_enter Try.func6, Try.ntmps6
  go_wp2_with fail
  rw [← hX0]
  clear hX0
  refine (AL.out _).mono ?_
  rintro e w1 ⟨rfl, b1⟩
  have C1 := Lib.hid b1
  clear b1 AL
  go_wp2_with fail
  refine (G0.out _ C1.out).mono ?_
  rintro e wg0 ⟨⟨g0, rfl, hg0⟩, rfl⟩
  have HG0 := Lib.hid hg0
  clear hg0
  cases g0
  case true =>
    go_wp2
    go_ret
    exact ⟨rfl, bt BX.out C1.out⟩
  go_wp2_with fail
  refine (G1.out _ C1.out).mono ?_
  rintro e wg1 ⟨⟨g1, rfl, hg1⟩, rfl⟩
  have HG1 := Lib.hid hg1
  clear hg1
  cases g1
  case true =>
    go_wp2
    go_ret
    exact ⟨rfl, bt BX.out C1.out⟩
  obtain ⟨s0, z0⟩ := HG0.out (by trivial)
  obtain ⟨s1, z1⟩ := HG1.out (by trivial)
  obtain ⟨J, x1, hJ⟩ : ∃ J x, joinsC l0 l1 = (J, x) := ⟨_, _, rfl⟩
  obtain ⟨D, x2, hD⟩ : ∃ D x, leftsC l0 l1 = (D, x) := ⟨_, _, rfl⟩
  obtain ⟨P, x3, hP⟩ : ∃ P x, addsC l0 ⟨jt, jr, hjt, hjr⟩ = (P, x) := ⟨_, _, rfl⟩
  have KJ := Lib.hid (join_lit (few_two z0 z1) hJ)
  have KD := Lib.hid (less_lit (few_two z0 z1) hD)
  have KP := Lib.hid (add_lit (few_add z0 _) hP)
  have HJ := Lib.hid hJ
  have HD := Lib.hid hD
  have HP := Lib.hid hP
  have Z0 := Lib.hid z0
  have Z1 := Lib.hid z1
  clear hJ hD hP s0 s1 z0 z1 HG0 HG1 G0 G1
  go_wp2_with fail
  refine (KJ.out _ _ _ (T0.out _ C1.out) (T1.out _ C1.out)).mono ?_
  rintro e w2 ⟨v2, rfl, o2, b2⟩
  have C2 := Lib.hid (bt C1.out b2)
  have LJ2 := Lib.hid o2.tms
  obtain ⟨s2o, s2c, rfl⟩ := o2.tms.shape
  clear o2
  clear b2 C1
  obtain ⟨q2, hq2⟩ : ∃ q, q = J.length := ⟨_, rfl⟩
  rw [← hq2] at LJ2 ⊢
  clear hq2
  go_wp2_with fail
  refine (KD.out _ _ _ (T0.out _ C2.out) (T1.out _ C2.out)).mono ?_
  rintro e w3 ⟨v3, rfl, o3, b3⟩
  have C3 := Lib.hid (bt C2.out b3)
  have LD3 := Lib.hid o3.tms
  obtain ⟨s3o, s3c, rfl⟩ := o3.tms.shape
  clear o3
  have LJ3 := Lib.hid (LJ2.out.keeps b3)
  clear LJ2
  clear b3 C2
  obtain ⟨q3, hq3⟩ : ∃ q, q = D.length := ⟨_, rfl⟩
  rw [← hq3] at LD3 ⊢
  clear hq3
  have hcell0 := cell_of_row w3 (w.heap.size + 1) 0 _ _ _ ((C3.out.block _ (Array.getElem?_eq_some_iff.1 PI.out.2).1).trans PI.out.2)
  have hcell1 := cell_of_row w3 (w.heap.size + 1) 1 _ _ _ ((C3.out.block _ (Array.getElem?_eq_some_iff.1 PI.out.2).1).trans PI.out.2)
  go_wp2_with fail
  refine (KP.out _ _ (T0.out _ C3.out)).mono ?_
  rintro e w4 ⟨v4, rfl, o4, b4⟩
  have C4 := Lib.hid (bt C3.out b4)
  have LP4 := Lib.hid o4.tms
  obtain ⟨s4o, s4c, rfl⟩ := o4.tms.shape
  clear o4
  have LJ4 := Lib.hid (LJ3.out.keeps b4)
  clear LJ3
  have LD4 := Lib.hid (LD3.out.keeps b4)
  clear LD3
  clear b4 C3
  obtain ⟨q4, hq4⟩ : ∃ q, q = P.length := ⟨_, rfl⟩
  rw [← hq4] at LP4 ⊢
  clear hq4
  clear hcell0 hcell1 KJ KD KP
  by_cases hm : mayC l0 = true ∧ mayC l1 = true
  case neg =>
    obtain rfl : x1 = 8 := by have := HJ.out; unfold joinsC at this; rw [if_neg hm] at this; exact (Prod.mk.inj this).2.symm
    obtain rfl : x2 = 8 := by have := HD.out; unfold leftsC at this; rw [if_neg hm] at this; exact (Prod.mk.inj this).2.symm
    go_wp2
    go_ret
    exact ⟨rfl, bt BX.out C4.out⟩
  obtain ⟨m0, m1⟩ := hm
  have ca := (mayC_iff l0).1 m0
  have cb := (mayC_iff l1).1 m1
  have fab := few_two Z0.out Z1.out
  obtain ⟨rfl, rfl⟩ : J = bothC l0 l1 ∧ x1 = 0 := by have := HJ.out; rw [joinsC_may m0 m1] at this; exact ⟨(Prod.mk.inj this).1.symm, (Prod.mk.inj this).2.symm⟩
  obtain ⟨rfl, rfl⟩ : D = leftC l0 l1 ∧ x2 = 0 := by have := HD.out; rw [leftsC_may m0 m1] at this; exact ⟨(Prod.mk.inj this).1.symm, (Prod.mk.inj this).2.symm⟩
  have mj := (mayC_iff _).2 (bothC_ok ca cb fab)
  have md := (mayC_iff _).2 (leftC_ok ca cb fab)
  obtain ⟨ha, hha⟩ : ∃ q, hasC l0 ⟨it, ir, hit, hir⟩ = q := ⟨_, rfl⟩
  obtain ⟨hb, hhb⟩ : ∃ q, hasC l1 ⟨it, ir, hit, hir⟩ = q := ⟨_, rfl⟩
  obtain ⟨qj, hqj⟩ : ∃ q, hasC (bothC l0 l1) ⟨it, ir, hit, hir⟩ = q := ⟨_, rfl⟩
  obtain ⟨qd, hqd⟩ : ∃ q, hasC (leftC l0 l1) ⟨it, ir, hit, hir⟩ = q := ⟨_, rfl⟩
  obtain ⟨qp, hqp⟩ : ∃ q, hasC P ⟨it, ir, hit, hir⟩ = q := ⟨_, rfl⟩
  have EJ : Hid (qj = (ha || hb)) := by show _ = _; rw [← hqj, hasC_both m0 m1 fab, hha, hhb]
  have ED : Hid (qd = (ha && !hb)) := by show _ = _; rw [← hqd, hasC_left m0 m1 fab, hha, hhb]
  have EP : Hid ((x3 = 8) ∨ (x3 = 0 ∧ qp = (ha || decide ((⟨it, ir, hit, hir⟩ : Id) = ⟨jt, jr, hjt, hjr⟩)))) := by
    have h := HP.out
    unfold addsC at h
    by_cases hi : mayI ⟨jt, jr, hjt, hjr⟩
    · rw [if_pos ⟨m0, hi⟩] at h
      obtain ⟨rfl, rfl⟩ := Prod.mk.inj h
      exact .inr ⟨rfl, by rw [← hqp, hasC_add m0 hi (few_add Z0.out _), hha]⟩
    · rw [if_neg (fun e => hi e.2)] at h
      exact .inl (Prod.mk.inj h).2.symm
  have HJ' : Hid (∀ W : World, Below w4.heap.size w4 W → Calls Try.prog 32 #[.slice s2o q2 s2c, (.agg #[.int .u32 (it : Int), .int .u8 (ir : Int)])] W fun e w' => e = .returned (.bool qj) ∧ Below W.heap.size W w') := fun W hW => has_lit (a := ⟨it, ir, hit, hir⟩) hqj W _ (LJ4.out.keeps hW)
  have HD' : Hid (∀ W : World, Below w4.heap.size w4 W → Calls Try.prog 32 #[.slice s3o q3 s3c, (.agg #[.int .u32 (it : Int), .int .u8 (ir : Int)])] W fun e w' => e = .returned (.bool qd) ∧ Below W.heap.size W w') := fun W hW => has_lit (a := ⟨it, ir, hit, hir⟩) hqd W _ (LD4.out.keeps hW)
  have HP' : Hid (∀ W : World, Below w4.heap.size w4 W → Calls Try.prog 32 #[.slice s4o q4 s4c, (.agg #[.int .u32 (it : Int), .int .u8 (ir : Int)])] W fun e w' => e = .returned (.bool qp) ∧ Below W.heap.size W w') := fun W hW => has_lit (a := ⟨it, ir, hit, hir⟩) hqp W _ (LP4.out.keeps hW)
  have HA' : Hid (∀ W : World, Below w4.heap.size w4 W → Calls Try.prog 32 #[.slice ao0 n0 cap0, (.agg #[.int .u32 (it : Int), .int .u8 (ir : Int)])] W fun e w' => e = .returned (.bool ha) ∧ Below W.heap.size W w') := fun W hW => has_lit (a := ⟨it, ir, hit, hir⟩) hha W _ (T0.out _ (bt C4.out hW))
  have HB' : Hid (∀ W : World, Below w4.heap.size w4 W → Calls Try.prog 32 #[.slice ao1 n1 cap1, (.agg #[.int .u32 (it : Int), .int .u8 (ir : Int)])] W fun e w' => e = .returned (.bool hb) ∧ Below W.heap.size W w') := fun W hW => has_lit (a := ⟨it, ir, hit, hir⟩) hhb W _ (T1.out _ (bt C4.out hW))
  have CJ' : Hid (∀ W : World, Below w4.heap.size w4 W → Calls Try.prog 20 #[.slice s2o q2 s2c] W fun e w' => e = .returned (.int .i64 0) ∧ Below W.heap.size W w') := fun W hW => check_is (chkC_yes ((mayC_iff _).1 mj)) W _ (LJ4.out.keeps hW)
  have CD' : Hid (∀ W : World, Below w4.heap.size w4 W → Calls Try.prog 20 #[.slice s3o q3 s3c] W fun e w' => e = .returned (.int .i64 0) ∧ Below W.heap.size W w') := fun W hW => check_is (chkC_yes ((mayC_iff _).1 md)) W _ (LD4.out.keeps hW)
  have B4 := Lib.hid (bt BX.out C4.out)
  have k0 := cell_of_row w4 (w.heap.size) 0 _ _ _ ((C4.out.block _ (Array.getElem?_eq_some_iff.1 PI.out.1).1).trans PI.out.1)
  have k1 := cell_of_row w4 (w.heap.size) 1 _ _ _ ((C4.out.block _ (Array.getElem?_eq_some_iff.1 PI.out.1).1).trans PI.out.1)
  have k2 := cell_of_row w4 (w.heap.size + 1) 0 _ _ _ ((C4.out.block _ (Array.getElem?_eq_some_iff.1 PI.out.2).1).trans PI.out.2)
  have k3 := cell_of_row w4 (w.heap.size + 1) 1 _ _ _ ((C4.out.block _ (Array.getElem?_eq_some_iff.1 PI.out.2).1).trans PI.out.2)
  have PC := Lib.hid (And.intro k0 (And.intro k1 (And.intro k2 k3)))
  clear HJ HD HP LJ4 LD4 LP4 T0 T1 C4 PI Z0 Z1 m0 m1 ca cb fab mj md hha hhb hqj hqd hqp HX0 BX k0 k1 k2 k3
  go_upto_region 9 with fail
  go_cut [16] (fun p wx => p = .bool true ∧ Hid (Below w4.heap.size w4 wx))
  case first =>
    rcases ha with _ | _ <;> rcases hb with _ | _
    · obtain rfl : qj = false := EJ.out
      obtain rfl : qd = false := ED.out
      clear EP
      refine wp_region_held_drew (S := fun w' => Below w4.heap.size w4 w' ∧ w'.cell? ⟨w.heap.size, 0, none⟩ = some (.int .u32 (it : Int)) ∧ w'.cell? ⟨w.heap.size, 1, none⟩ = some (.int .u8 (ir : Int)) ∧ w'.cell? ⟨w.heap.size + 1, 0, none⟩ = some (.int .u32 (jt : Int)) ∧ w'.cell? ⟨w.heap.size + 1, 1, none⟩ = some (.int .u8 (jr : Int))) (by kernel_rfl) (⟨drew1 _, PC.out.1, PC.out.2.1, PC.out.2.2.1, PC.out.2.2.2⟩) (fun hHeld => ?_)
      refine wpAnyH_take (i := 0) (v := ?vs10) rfl (by kernel_rfl) (by kernel_rfl) (by kernel_rfl) (fun _ _ _ h => h) (Or.inl ⟨by rfl, ?ys10⟩) (by assumption) ?_
      case ys10 => intro w hSw; (try dsimp only at hSw); go_simp <;> with_reducible rfl
      try simp only [List.getElem_toArray, List.getElem_cons_zero, Act.put, List.setIfInBounds_toArray, List.set_cons_zero, List.set_cons_succ]
      refine wpAnyH_take (i := 1) (v := ?vs11) rfl (by kernel_rfl) (by kernel_rfl) (by kernel_rfl) (fun _ _ _ h => h) (Or.inl ⟨by rfl, ?ys11⟩) (by assumption) ?_
      case ys11 => intro w hSw; (try dsimp only at hSw); go_simp <;> with_reducible rfl
      try simp only [List.getElem_toArray, List.getElem_cons_succ, List.getElem_cons_zero, Act.put, List.setIfInBounds_toArray, List.set_cons_zero, List.set_cons_succ]
      refine wpAnyH_take (i := 3) (v := ?vs13) rfl (by kernel_rfl) (by kernel_rfl) (by kernel_rfl) (fun _ _ _ h => h) (Or.inl ⟨by rfl, ?ys13⟩) (by assumption) ?_
      case ys13 => intro w hSw; (try dsimp only at hSw); go_simp <;> with_reducible rfl
      try simp only [List.getElem_toArray, List.getElem_cons_succ, List.getElem_cons_zero, Act.put, List.setIfInBounds_toArray, List.set_cons_zero, List.set_cons_succ]
      refine wpAnyH_take (i := 4) (v := ?vs14) rfl (by kernel_rfl) (by kernel_rfl) (by kernel_rfl) (fun _ _ _ h => h) (Or.inl ⟨by rfl, ?ys14⟩) (by assumption) ?_
      case ys14 => intro w hSw; (try dsimp only at hSw); go_simp <;> with_reducible rfl
      try simp only [List.getElem_toArray, List.getElem_cons_succ, List.getElem_cons_zero, Act.put, List.setIfInBounds_toArray, List.set_cons_zero, List.set_cons_succ]
      refine wpAnyH_ready (rs := [2]) (by kernel_rfl) (by simp) ?_
      refine AllReadyH.cons rfl (fun K hK => ?_) ?zs12
      case zs12 => exact AllReadyH.nil
      go_simp
      refine (HJ'.out _ hHeld.1).mono ?_
      rintro e w9 ⟨rfl, b9⟩
      refine hK.out _ _ (⟨hHeld.1.trans (b9.mono hHeld.1.size), keepC hHeld.2.1 b9, keepC hHeld.2.2.1 b9, keepC hHeld.2.2.2.1 b9, keepC hHeld.2.2.2.2 b9⟩) (fun hNew => ?_)
      clear hHeld b9
      have hHeld := hNew
      clear hNew hK K
      try simp only [List.getElem_toArray, List.getElem_cons_succ, List.getElem_cons_zero, Act.put, List.setIfInBounds_toArray, List.set_cons_zero, List.set_cons_succ]
      refine wpAnyH_ready (rs := [5]) (by kernel_rfl) (by simp) ?_
      refine AllReadyH.cons rfl (fun K hK => ?_) ?zs15
      case zs15 => exact AllReadyH.nil
      go_simp
      refine (HA'.out _ hHeld.1).mono ?_
      rintro e w9 ⟨rfl, b9⟩
      refine hK.out _ _ (⟨hHeld.1.trans (b9.mono hHeld.1.size), keepC hHeld.2.1 b9, keepC hHeld.2.2.1 b9, keepC hHeld.2.2.2.1 b9, keepC hHeld.2.2.2.2 b9⟩) (fun hNew => ?_)
      clear hHeld b9
      have hHeld := hNew
      clear hNew hK K
      try simp only [List.getElem_toArray, List.getElem_cons_succ, List.getElem_cons_zero, Act.put, List.setIfInBounds_toArray, List.set_cons_zero, List.set_cons_succ]
      refine wpAnyH_take (i := 6) (v := ?vs16) rfl (by kernel_rfl) (by kernel_rfl) (by kernel_rfl) (fun _ _ _ h => h) (Or.inl ⟨by rfl, ?ys16⟩) (by assumption) ?_
      case ys16 => intro w hSw; (try dsimp only at hSw); go_simp <;> with_reducible rfl
      try simp only [List.getElem_toArray, List.getElem_cons_succ, List.getElem_cons_zero, Act.put, List.setIfInBounds_toArray, List.set_cons_zero, List.set_cons_succ]
      refine wpAnyH_take (i := 7) (v := ?vs17) rfl (by kernel_rfl) (by kernel_rfl) (by kernel_rfl) (fun _ _ _ h => h) (Or.inl ⟨by rfl, ?ys17⟩) (by assumption) ?_
      case ys17 => intro w hSw; (try dsimp only at hSw); go_simp <;> with_reducible rfl
      try simp only [List.getElem_toArray, List.getElem_cons_succ, List.getElem_cons_zero, Act.put, List.setIfInBounds_toArray, List.set_cons_zero, List.set_cons_succ]
      refine wpAnyH_take (i := 8) (v := ?vs18) rfl (by kernel_rfl) (by kernel_rfl) (by kernel_rfl) (fun _ _ _ h => h) (Or.inl ⟨by rfl, ?ys18⟩) (by assumption) ?_
      case ys18 => intro w hSw; (try dsimp only at hSw); go_simp <;> with_reducible rfl
      try simp only [List.getElem_toArray, List.getElem_cons_succ, List.getElem_cons_zero, Act.put, List.setIfInBounds_toArray, List.set_cons_zero, List.set_cons_succ]
      refine wpAnyH_ready (rs := [9]) (by kernel_rfl) (by simp) ?_
      refine AllReadyH.cons rfl (fun K hK => ?_) ?zs19
      case zs19 => exact AllReadyH.nil
      go_simp
      refine (HB'.out _ hHeld.1).mono ?_
      rintro e w9 ⟨rfl, b9⟩
      refine hK.out _ _ (⟨hHeld.1.trans (b9.mono hHeld.1.size), keepC hHeld.2.1 b9, keepC hHeld.2.2.1 b9, keepC hHeld.2.2.2.1 b9, keepC hHeld.2.2.2.2 b9⟩) (fun hNew => ?_)
      clear hHeld b9
      have hHeld := hNew
      clear hNew hK K
      try simp only [List.getElem_toArray, List.getElem_cons_succ, List.getElem_cons_zero, Act.put, List.setIfInBounds_toArray, List.set_cons_zero, List.set_cons_succ]
      refine wpAnyH_take (i := 10) (v := ?vs110) rfl (by kernel_rfl) (by kernel_rfl) (by kernel_rfl) (fun _ _ _ h => h) (Or.inl ⟨by rfl, ?ys110⟩) (by assumption) ?_
      case ys110 => intro w hSw; (try dsimp only at hSw); go_simp <;> with_reducible rfl
      try simp only [List.getElem_toArray, List.getElem_cons_succ, List.getElem_cons_zero, Act.put, List.setIfInBounds_toArray, List.set_cons_zero, List.set_cons_succ]
      refine wpAnyH_take (i := 11) (v := ?vs111) rfl (by kernel_rfl) (by kernel_rfl) (by kernel_rfl) (fun _ _ _ h => h) (Or.inl ⟨by rfl, ?ys111⟩) (by assumption) ?_
      case ys111 => intro w hSw; (try dsimp only at hSw); go_simp <;> with_reducible rfl
      try simp only [List.getElem_toArray, List.getElem_cons_succ, List.getElem_cons_zero, Act.put, List.setIfInBounds_toArray, List.set_cons_zero, List.set_cons_succ]
      refine wpAnyH_take (i := 12) (v := ?vs112) rfl (by kernel_rfl) (by kernel_rfl) (by kernel_rfl) (fun _ _ _ h => h) (Or.inl ⟨by rfl, ?ys112⟩) (by assumption) ?_
      case ys112 => intro w hSw; (try dsimp only at hSw); go_simp <;> with_reducible rfl
      try simp only [List.getElem_toArray, List.getElem_cons_succ, List.getElem_cons_zero, Act.put, List.setIfInBounds_toArray, List.set_cons_zero, List.set_cons_succ]
      refine wpAnyH_take (i := 13) (v := ?vs113) rfl (by kernel_rfl) (by kernel_rfl) (by kernel_rfl) (fun _ _ _ h => h) (Or.inl ⟨by rfl, ?ys113⟩) (by assumption) ?_
      case ys113 => intro w hSw; (try dsimp only at hSw); go_simp <;> with_reducible rfl
      try simp only [List.getElem_toArray, List.getElem_cons_succ, List.getElem_cons_zero, Act.put, List.setIfInBounds_toArray, List.set_cons_zero, List.set_cons_succ]
      refine wpAnyH_take (i := 14) (v := ?vs114) rfl (by kernel_rfl) (by kernel_rfl) (by kernel_rfl) (fun _ _ _ h => h) (Or.inl ⟨by rfl, ?ys114⟩) (by assumption) ?_
      case ys114 => intro w hSw; (try dsimp only at hSw); go_simp <;> with_reducible rfl
      try simp only [List.getElem_toArray, List.getElem_cons_succ, List.getElem_cons_zero, Act.put, List.setIfInBounds_toArray, List.set_cons_zero, List.set_cons_succ]
      refine wpAnyH_take (i := 16) (v := ?vs116) rfl (by kernel_rfl) (by kernel_rfl) (by kernel_rfl) (fun _ _ _ h => h) (Or.inl ⟨by rfl, ?ys116⟩) (by assumption) ?_
      case ys116 => intro w hSw; (try dsimp only at hSw); go_simp <;> with_reducible rfl
      try simp only [List.getElem_toArray, List.getElem_cons_succ, List.getElem_cons_zero, Act.put, List.setIfInBounds_toArray, List.set_cons_zero, List.set_cons_succ]
      refine wpAnyH_take (i := 17) (v := ?vs117) rfl (by kernel_rfl) (by kernel_rfl) (by kernel_rfl) (fun _ _ _ h => h) (Or.inl ⟨by rfl, ?ys117⟩) (by assumption) ?_
      case ys117 => intro w hSw; (try dsimp only at hSw); go_simp <;> with_reducible rfl
      try simp only [List.getElem_toArray, List.getElem_cons_succ, List.getElem_cons_zero, Act.put, List.setIfInBounds_toArray, List.set_cons_zero, List.set_cons_succ]
      refine wpAnyH_ready (rs := [15]) (by kernel_rfl) (by simp) ?_
      refine AllReadyH.cons rfl (fun K hK => ?_) ?zs115
      case zs115 => exact AllReadyH.nil
      go_simp
      refine (HD'.out _ hHeld.1).mono ?_
      rintro e w9 ⟨rfl, b9⟩
      refine hK.out _ _ (⟨hHeld.1.trans (b9.mono hHeld.1.size), keepC hHeld.2.1 b9, keepC hHeld.2.2.1 b9, keepC hHeld.2.2.2.1 b9, keepC hHeld.2.2.2.2 b9⟩) (fun hNew => ?_)
      clear hHeld b9
      have hHeld := hNew
      clear hNew hK K
      try simp only [List.getElem_toArray, List.getElem_cons_succ, List.getElem_cons_zero, Act.put, List.setIfInBounds_toArray, List.set_cons_zero, List.set_cons_succ]
      refine wpAnyH_ready (rs := [18]) (by kernel_rfl) (by simp) ?_
      refine AllReadyH.cons rfl (fun K hK => ?_) ?zs118
      case zs118 => exact AllReadyH.nil
      go_simp
      refine (HA'.out _ hHeld.1).mono ?_
      rintro e w9 ⟨rfl, b9⟩
      refine hK.out _ _ (⟨hHeld.1.trans (b9.mono hHeld.1.size), keepC hHeld.2.1 b9, keepC hHeld.2.2.1 b9, keepC hHeld.2.2.2.1 b9, keepC hHeld.2.2.2.2 b9⟩) (fun hNew => ?_)
      clear hHeld b9
      have hHeld := hNew
      clear hNew hK K
      try simp only [List.getElem_toArray, List.getElem_cons_succ, List.getElem_cons_zero, Act.put, List.setIfInBounds_toArray, List.set_cons_zero, List.set_cons_succ]
      refine wpAnyH_take (i := 19) (v := ?vs119) rfl (by kernel_rfl) (by kernel_rfl) (by kernel_rfl) (fun _ _ _ h => h) (Or.inl ⟨by rfl, ?ys119⟩) (by assumption) ?_
      case ys119 => intro w hSw; (try dsimp only at hSw); go_simp <;> with_reducible rfl
      try simp only [List.getElem_toArray, List.getElem_cons_succ, List.getElem_cons_zero, Act.put, List.setIfInBounds_toArray, List.set_cons_zero, List.set_cons_succ]
      refine wpAnyH_take (i := 20) (v := undef) rfl (by kernel_rfl) (by kernel_rfl) (by kernel_rfl) (fun _ _ _ h => h) (Or.inr ⟨by rfl, rfl⟩) (by assumption) ?_
      try simp only [List.getElem_toArray, List.getElem_cons_succ, List.getElem_cons_zero, Act.put, List.setIfInBounds_toArray, List.set_cons_zero, List.set_cons_succ]
      refine wpAnyH_take (i := 21) (v := undef) rfl (by kernel_rfl) (by kernel_rfl) (by kernel_rfl) (fun _ _ _ h => h) (Or.inr ⟨by rfl, rfl⟩) (by assumption) ?_
      try simp only [List.getElem_toArray, List.getElem_cons_succ, List.getElem_cons_zero, Act.put, List.setIfInBounds_toArray, List.set_cons_zero, List.set_cons_succ]
      refine wpAnyH_take (i := 22) (v := undef) rfl (by kernel_rfl) (by kernel_rfl) (by kernel_rfl) (fun _ _ _ h => h) (Or.inr ⟨by rfl, rfl⟩) (by assumption) ?_
      try simp only [List.getElem_toArray, List.getElem_cons_succ, List.getElem_cons_zero, Act.put, List.setIfInBounds_toArray, List.set_cons_zero, List.set_cons_succ]
      refine wpAnyH_take (i := 23) (v := undef) rfl (by kernel_rfl) (by kernel_rfl) (by kernel_rfl) (fun _ _ _ h => h) (Or.inr ⟨by rfl, rfl⟩) (by assumption) ?_
      try simp only [List.getElem_toArray, List.getElem_cons_succ, List.getElem_cons_zero, Act.put, List.setIfInBounds_toArray, List.set_cons_zero, List.set_cons_succ]
      refine wpAnyH_take (i := 24) (v := ?vs124) rfl (by kernel_rfl) (by kernel_rfl) (by kernel_rfl) (fun _ _ _ h => h) (Or.inl ⟨by rfl, ?ys124⟩) (by assumption) ?_
      case ys124 => intro w hSw; (try dsimp only at hSw); go_simp <;> with_reducible rfl
      try simp only [List.getElem_toArray, List.getElem_cons_succ, List.getElem_cons_zero, Act.put, List.setIfInBounds_toArray, List.set_cons_zero, List.set_cons_succ]
      refine wpAnyH_take (i := 25) (v := ?vs125) rfl (by kernel_rfl) (by kernel_rfl) (by kernel_rfl) (fun _ _ _ h => h) (Or.inl ⟨by rfl, ?ys125⟩) (by assumption) ?_
      case ys125 => intro w hSw; (try dsimp only at hSw); go_simp <;> with_reducible rfl
      try simp only [List.getElem_toArray, List.getElem_cons_succ, List.getElem_cons_zero, Act.put, List.setIfInBounds_toArray, List.set_cons_zero, List.set_cons_succ]
      refine wpAnyH_take (i := 26) (v := ?vs126) rfl (by kernel_rfl) (by kernel_rfl) (by kernel_rfl) (fun _ _ _ h => h) (Or.inl ⟨by rfl, ?ys126⟩) (by assumption) ?_
      case ys126 => intro w hSw; (try dsimp only at hSw); go_simp <;> with_reducible rfl
      try simp only [List.getElem_toArray, List.getElem_cons_succ, List.getElem_cons_zero, Act.put, List.setIfInBounds_toArray, List.set_cons_zero, List.set_cons_succ]
      refine wpAnyH_take (i := 27) (v := ?vs127) rfl (by kernel_rfl) (by kernel_rfl) (by kernel_rfl) (fun _ _ _ h => h) (Or.inl ⟨by rfl, ?ys127⟩) (by assumption) ?_
      case ys127 => intro w hSw; (try dsimp only at hSw); go_simp <;> with_reducible rfl
      try simp only [List.getElem_toArray, List.getElem_cons_succ, List.getElem_cons_zero, Act.put, List.setIfInBounds_toArray, List.set_cons_zero, List.set_cons_succ]
      refine wpAnyH_done (by kernel_rfl) ?_ _
      go_wp2_with fail
      go_meet
      exact ⟨rfl, Lib.hid hHeld.1⟩
    · obtain rfl : qj = true := EJ.out
      obtain rfl : qd = false := ED.out
      clear EP
      refine wp_region_held_drew (S := fun w' => Below w4.heap.size w4 w' ∧ w'.cell? ⟨w.heap.size, 0, none⟩ = some (.int .u32 (it : Int)) ∧ w'.cell? ⟨w.heap.size, 1, none⟩ = some (.int .u8 (ir : Int)) ∧ w'.cell? ⟨w.heap.size + 1, 0, none⟩ = some (.int .u32 (jt : Int)) ∧ w'.cell? ⟨w.heap.size + 1, 1, none⟩ = some (.int .u8 (jr : Int))) (by kernel_rfl) (⟨drew1 _, PC.out.1, PC.out.2.1, PC.out.2.2.1, PC.out.2.2.2⟩) (fun hHeld => ?_)
      refine wpAnyH_take (i := 0) (v := ?vs20) rfl (by kernel_rfl) (by kernel_rfl) (by kernel_rfl) (fun _ _ _ h => h) (Or.inl ⟨by rfl, ?ys20⟩) (by assumption) ?_
      case ys20 => intro w hSw; (try dsimp only at hSw); go_simp <;> with_reducible rfl
      try simp only [List.getElem_toArray, List.getElem_cons_zero, Act.put, List.setIfInBounds_toArray, List.set_cons_zero, List.set_cons_succ]
      refine wpAnyH_take (i := 1) (v := ?vs21) rfl (by kernel_rfl) (by kernel_rfl) (by kernel_rfl) (fun _ _ _ h => h) (Or.inl ⟨by rfl, ?ys21⟩) (by assumption) ?_
      case ys21 => intro w hSw; (try dsimp only at hSw); go_simp <;> with_reducible rfl
      try simp only [List.getElem_toArray, List.getElem_cons_succ, List.getElem_cons_zero, Act.put, List.setIfInBounds_toArray, List.set_cons_zero, List.set_cons_succ]
      refine wpAnyH_take (i := 3) (v := ?vs23) rfl (by kernel_rfl) (by kernel_rfl) (by kernel_rfl) (fun _ _ _ h => h) (Or.inl ⟨by rfl, ?ys23⟩) (by assumption) ?_
      case ys23 => intro w hSw; (try dsimp only at hSw); go_simp <;> with_reducible rfl
      try simp only [List.getElem_toArray, List.getElem_cons_succ, List.getElem_cons_zero, Act.put, List.setIfInBounds_toArray, List.set_cons_zero, List.set_cons_succ]
      refine wpAnyH_take (i := 4) (v := ?vs24) rfl (by kernel_rfl) (by kernel_rfl) (by kernel_rfl) (fun _ _ _ h => h) (Or.inl ⟨by rfl, ?ys24⟩) (by assumption) ?_
      case ys24 => intro w hSw; (try dsimp only at hSw); go_simp <;> with_reducible rfl
      try simp only [List.getElem_toArray, List.getElem_cons_succ, List.getElem_cons_zero, Act.put, List.setIfInBounds_toArray, List.set_cons_zero, List.set_cons_succ]
      refine wpAnyH_ready (rs := [2]) (by kernel_rfl) (by simp) ?_
      refine AllReadyH.cons rfl (fun K hK => ?_) ?zs22
      case zs22 => exact AllReadyH.nil
      go_simp
      refine (HJ'.out _ hHeld.1).mono ?_
      rintro e w9 ⟨rfl, b9⟩
      refine hK.out _ _ (⟨hHeld.1.trans (b9.mono hHeld.1.size), keepC hHeld.2.1 b9, keepC hHeld.2.2.1 b9, keepC hHeld.2.2.2.1 b9, keepC hHeld.2.2.2.2 b9⟩) (fun hNew => ?_)
      clear hHeld b9
      have hHeld := hNew
      clear hNew hK K
      try simp only [List.getElem_toArray, List.getElem_cons_succ, List.getElem_cons_zero, Act.put, List.setIfInBounds_toArray, List.set_cons_zero, List.set_cons_succ]
      refine wpAnyH_ready (rs := [5]) (by kernel_rfl) (by simp) ?_
      refine AllReadyH.cons rfl (fun K hK => ?_) ?zs25
      case zs25 => exact AllReadyH.nil
      go_simp
      refine (HA'.out _ hHeld.1).mono ?_
      rintro e w9 ⟨rfl, b9⟩
      refine hK.out _ _ (⟨hHeld.1.trans (b9.mono hHeld.1.size), keepC hHeld.2.1 b9, keepC hHeld.2.2.1 b9, keepC hHeld.2.2.2.1 b9, keepC hHeld.2.2.2.2 b9⟩) (fun hNew => ?_)
      clear hHeld b9
      have hHeld := hNew
      clear hNew hK K
      try simp only [List.getElem_toArray, List.getElem_cons_succ, List.getElem_cons_zero, Act.put, List.setIfInBounds_toArray, List.set_cons_zero, List.set_cons_succ]
      refine wpAnyH_take (i := 6) (v := ?vs26) rfl (by kernel_rfl) (by kernel_rfl) (by kernel_rfl) (fun _ _ _ h => h) (Or.inl ⟨by rfl, ?ys26⟩) (by assumption) ?_
      case ys26 => intro w hSw; (try dsimp only at hSw); go_simp <;> with_reducible rfl
      try simp only [List.getElem_toArray, List.getElem_cons_succ, List.getElem_cons_zero, Act.put, List.setIfInBounds_toArray, List.set_cons_zero, List.set_cons_succ]
      refine wpAnyH_take (i := 7) (v := ?vs27) rfl (by kernel_rfl) (by kernel_rfl) (by kernel_rfl) (fun _ _ _ h => h) (Or.inl ⟨by rfl, ?ys27⟩) (by assumption) ?_
      case ys27 => intro w hSw; (try dsimp only at hSw); go_simp <;> with_reducible rfl
      try simp only [List.getElem_toArray, List.getElem_cons_succ, List.getElem_cons_zero, Act.put, List.setIfInBounds_toArray, List.set_cons_zero, List.set_cons_succ]
      refine wpAnyH_take (i := 8) (v := ?vs28) rfl (by kernel_rfl) (by kernel_rfl) (by kernel_rfl) (fun _ _ _ h => h) (Or.inl ⟨by rfl, ?ys28⟩) (by assumption) ?_
      case ys28 => intro w hSw; (try dsimp only at hSw); go_simp <;> with_reducible rfl
      try simp only [List.getElem_toArray, List.getElem_cons_succ, List.getElem_cons_zero, Act.put, List.setIfInBounds_toArray, List.set_cons_zero, List.set_cons_succ]
      refine wpAnyH_ready (rs := [9]) (by kernel_rfl) (by simp) ?_
      refine AllReadyH.cons rfl (fun K hK => ?_) ?zs29
      case zs29 => exact AllReadyH.nil
      go_simp
      refine (HB'.out _ hHeld.1).mono ?_
      rintro e w9 ⟨rfl, b9⟩
      refine hK.out _ _ (⟨hHeld.1.trans (b9.mono hHeld.1.size), keepC hHeld.2.1 b9, keepC hHeld.2.2.1 b9, keepC hHeld.2.2.2.1 b9, keepC hHeld.2.2.2.2 b9⟩) (fun hNew => ?_)
      clear hHeld b9
      have hHeld := hNew
      clear hNew hK K
      try simp only [List.getElem_toArray, List.getElem_cons_succ, List.getElem_cons_zero, Act.put, List.setIfInBounds_toArray, List.set_cons_zero, List.set_cons_succ]
      refine wpAnyH_take (i := 10) (v := ?vs210) rfl (by kernel_rfl) (by kernel_rfl) (by kernel_rfl) (fun _ _ _ h => h) (Or.inl ⟨by rfl, ?ys210⟩) (by assumption) ?_
      case ys210 => intro w hSw; (try dsimp only at hSw); go_simp <;> with_reducible rfl
      try simp only [List.getElem_toArray, List.getElem_cons_succ, List.getElem_cons_zero, Act.put, List.setIfInBounds_toArray, List.set_cons_zero, List.set_cons_succ]
      refine wpAnyH_take (i := 11) (v := ?vs211) rfl (by kernel_rfl) (by kernel_rfl) (by kernel_rfl) (fun _ _ _ h => h) (Or.inl ⟨by rfl, ?ys211⟩) (by assumption) ?_
      case ys211 => intro w hSw; (try dsimp only at hSw); go_simp <;> with_reducible rfl
      try simp only [List.getElem_toArray, List.getElem_cons_succ, List.getElem_cons_zero, Act.put, List.setIfInBounds_toArray, List.set_cons_zero, List.set_cons_succ]
      refine wpAnyH_take (i := 12) (v := ?vs212) rfl (by kernel_rfl) (by kernel_rfl) (by kernel_rfl) (fun _ _ _ h => h) (Or.inl ⟨by rfl, ?ys212⟩) (by assumption) ?_
      case ys212 => intro w hSw; (try dsimp only at hSw); go_simp <;> with_reducible rfl
      try simp only [List.getElem_toArray, List.getElem_cons_succ, List.getElem_cons_zero, Act.put, List.setIfInBounds_toArray, List.set_cons_zero, List.set_cons_succ]
      refine wpAnyH_take (i := 13) (v := ?vs213) rfl (by kernel_rfl) (by kernel_rfl) (by kernel_rfl) (fun _ _ _ h => h) (Or.inl ⟨by rfl, ?ys213⟩) (by assumption) ?_
      case ys213 => intro w hSw; (try dsimp only at hSw); go_simp <;> with_reducible rfl
      try simp only [List.getElem_toArray, List.getElem_cons_succ, List.getElem_cons_zero, Act.put, List.setIfInBounds_toArray, List.set_cons_zero, List.set_cons_succ]
      refine wpAnyH_take (i := 14) (v := ?vs214) rfl (by kernel_rfl) (by kernel_rfl) (by kernel_rfl) (fun _ _ _ h => h) (Or.inl ⟨by rfl, ?ys214⟩) (by assumption) ?_
      case ys214 => intro w hSw; (try dsimp only at hSw); go_simp <;> with_reducible rfl
      try simp only [List.getElem_toArray, List.getElem_cons_succ, List.getElem_cons_zero, Act.put, List.setIfInBounds_toArray, List.set_cons_zero, List.set_cons_succ]
      refine wpAnyH_take (i := 16) (v := ?vs216) rfl (by kernel_rfl) (by kernel_rfl) (by kernel_rfl) (fun _ _ _ h => h) (Or.inl ⟨by rfl, ?ys216⟩) (by assumption) ?_
      case ys216 => intro w hSw; (try dsimp only at hSw); go_simp <;> with_reducible rfl
      try simp only [List.getElem_toArray, List.getElem_cons_succ, List.getElem_cons_zero, Act.put, List.setIfInBounds_toArray, List.set_cons_zero, List.set_cons_succ]
      refine wpAnyH_take (i := 17) (v := ?vs217) rfl (by kernel_rfl) (by kernel_rfl) (by kernel_rfl) (fun _ _ _ h => h) (Or.inl ⟨by rfl, ?ys217⟩) (by assumption) ?_
      case ys217 => intro w hSw; (try dsimp only at hSw); go_simp <;> with_reducible rfl
      try simp only [List.getElem_toArray, List.getElem_cons_succ, List.getElem_cons_zero, Act.put, List.setIfInBounds_toArray, List.set_cons_zero, List.set_cons_succ]
      refine wpAnyH_ready (rs := [15]) (by kernel_rfl) (by simp) ?_
      refine AllReadyH.cons rfl (fun K hK => ?_) ?zs215
      case zs215 => exact AllReadyH.nil
      go_simp
      refine (HD'.out _ hHeld.1).mono ?_
      rintro e w9 ⟨rfl, b9⟩
      refine hK.out _ _ (⟨hHeld.1.trans (b9.mono hHeld.1.size), keepC hHeld.2.1 b9, keepC hHeld.2.2.1 b9, keepC hHeld.2.2.2.1 b9, keepC hHeld.2.2.2.2 b9⟩) (fun hNew => ?_)
      clear hHeld b9
      have hHeld := hNew
      clear hNew hK K
      try simp only [List.getElem_toArray, List.getElem_cons_succ, List.getElem_cons_zero, Act.put, List.setIfInBounds_toArray, List.set_cons_zero, List.set_cons_succ]
      refine wpAnyH_ready (rs := [18]) (by kernel_rfl) (by simp) ?_
      refine AllReadyH.cons rfl (fun K hK => ?_) ?zs218
      case zs218 => exact AllReadyH.nil
      go_simp
      refine (HA'.out _ hHeld.1).mono ?_
      rintro e w9 ⟨rfl, b9⟩
      refine hK.out _ _ (⟨hHeld.1.trans (b9.mono hHeld.1.size), keepC hHeld.2.1 b9, keepC hHeld.2.2.1 b9, keepC hHeld.2.2.2.1 b9, keepC hHeld.2.2.2.2 b9⟩) (fun hNew => ?_)
      clear hHeld b9
      have hHeld := hNew
      clear hNew hK K
      try simp only [List.getElem_toArray, List.getElem_cons_succ, List.getElem_cons_zero, Act.put, List.setIfInBounds_toArray, List.set_cons_zero, List.set_cons_succ]
      refine wpAnyH_take (i := 19) (v := ?vs219) rfl (by kernel_rfl) (by kernel_rfl) (by kernel_rfl) (fun _ _ _ h => h) (Or.inl ⟨by rfl, ?ys219⟩) (by assumption) ?_
      case ys219 => intro w hSw; (try dsimp only at hSw); go_simp <;> with_reducible rfl
      try simp only [List.getElem_toArray, List.getElem_cons_succ, List.getElem_cons_zero, Act.put, List.setIfInBounds_toArray, List.set_cons_zero, List.set_cons_succ]
      refine wpAnyH_take (i := 20) (v := undef) rfl (by kernel_rfl) (by kernel_rfl) (by kernel_rfl) (fun _ _ _ h => h) (Or.inr ⟨by rfl, rfl⟩) (by assumption) ?_
      try simp only [List.getElem_toArray, List.getElem_cons_succ, List.getElem_cons_zero, Act.put, List.setIfInBounds_toArray, List.set_cons_zero, List.set_cons_succ]
      refine wpAnyH_take (i := 21) (v := undef) rfl (by kernel_rfl) (by kernel_rfl) (by kernel_rfl) (fun _ _ _ h => h) (Or.inr ⟨by rfl, rfl⟩) (by assumption) ?_
      try simp only [List.getElem_toArray, List.getElem_cons_succ, List.getElem_cons_zero, Act.put, List.setIfInBounds_toArray, List.set_cons_zero, List.set_cons_succ]
      refine wpAnyH_take (i := 22) (v := undef) rfl (by kernel_rfl) (by kernel_rfl) (by kernel_rfl) (fun _ _ _ h => h) (Or.inr ⟨by rfl, rfl⟩) (by assumption) ?_
      try simp only [List.getElem_toArray, List.getElem_cons_succ, List.getElem_cons_zero, Act.put, List.setIfInBounds_toArray, List.set_cons_zero, List.set_cons_succ]
      refine wpAnyH_take (i := 23) (v := undef) rfl (by kernel_rfl) (by kernel_rfl) (by kernel_rfl) (fun _ _ _ h => h) (Or.inr ⟨by rfl, rfl⟩) (by assumption) ?_
      try simp only [List.getElem_toArray, List.getElem_cons_succ, List.getElem_cons_zero, Act.put, List.setIfInBounds_toArray, List.set_cons_zero, List.set_cons_succ]
      refine wpAnyH_take (i := 24) (v := ?vs224) rfl (by kernel_rfl) (by kernel_rfl) (by kernel_rfl) (fun _ _ _ h => h) (Or.inl ⟨by rfl, ?ys224⟩) (by assumption) ?_
      case ys224 => intro w hSw; (try dsimp only at hSw); go_simp <;> with_reducible rfl
      try simp only [List.getElem_toArray, List.getElem_cons_succ, List.getElem_cons_zero, Act.put, List.setIfInBounds_toArray, List.set_cons_zero, List.set_cons_succ]
      refine wpAnyH_take (i := 25) (v := ?vs225) rfl (by kernel_rfl) (by kernel_rfl) (by kernel_rfl) (fun _ _ _ h => h) (Or.inl ⟨by rfl, ?ys225⟩) (by assumption) ?_
      case ys225 => intro w hSw; (try dsimp only at hSw); go_simp <;> with_reducible rfl
      try simp only [List.getElem_toArray, List.getElem_cons_succ, List.getElem_cons_zero, Act.put, List.setIfInBounds_toArray, List.set_cons_zero, List.set_cons_succ]
      refine wpAnyH_take (i := 26) (v := ?vs226) rfl (by kernel_rfl) (by kernel_rfl) (by kernel_rfl) (fun _ _ _ h => h) (Or.inl ⟨by rfl, ?ys226⟩) (by assumption) ?_
      case ys226 => intro w hSw; (try dsimp only at hSw); go_simp <;> with_reducible rfl
      try simp only [List.getElem_toArray, List.getElem_cons_succ, List.getElem_cons_zero, Act.put, List.setIfInBounds_toArray, List.set_cons_zero, List.set_cons_succ]
      refine wpAnyH_take (i := 27) (v := ?vs227) rfl (by kernel_rfl) (by kernel_rfl) (by kernel_rfl) (fun _ _ _ h => h) (Or.inl ⟨by rfl, ?ys227⟩) (by assumption) ?_
      case ys227 => intro w hSw; (try dsimp only at hSw); go_simp <;> with_reducible rfl
      try simp only [List.getElem_toArray, List.getElem_cons_succ, List.getElem_cons_zero, Act.put, List.setIfInBounds_toArray, List.set_cons_zero, List.set_cons_succ]
      refine wpAnyH_done (by kernel_rfl) ?_ _
      go_wp2_with fail
      go_meet
      exact ⟨rfl, Lib.hid hHeld.1⟩
    · obtain rfl : qj = true := EJ.out
      obtain rfl : qd = true := ED.out
      clear EP
      refine wp_region_held_drew (S := fun w' => Below w4.heap.size w4 w' ∧ w'.cell? ⟨w.heap.size, 0, none⟩ = some (.int .u32 (it : Int)) ∧ w'.cell? ⟨w.heap.size, 1, none⟩ = some (.int .u8 (ir : Int)) ∧ w'.cell? ⟨w.heap.size + 1, 0, none⟩ = some (.int .u32 (jt : Int)) ∧ w'.cell? ⟨w.heap.size + 1, 1, none⟩ = some (.int .u8 (jr : Int))) (by kernel_rfl) (⟨drew1 _, PC.out.1, PC.out.2.1, PC.out.2.2.1, PC.out.2.2.2⟩) (fun hHeld => ?_)
      refine wpAnyH_take (i := 0) (v := ?vs30) rfl (by kernel_rfl) (by kernel_rfl) (by kernel_rfl) (fun _ _ _ h => h) (Or.inl ⟨by rfl, ?ys30⟩) (by assumption) ?_
      case ys30 => intro w hSw; (try dsimp only at hSw); go_simp <;> with_reducible rfl
      try simp only [List.getElem_toArray, List.getElem_cons_zero, Act.put, List.setIfInBounds_toArray, List.set_cons_zero, List.set_cons_succ]
      refine wpAnyH_take (i := 1) (v := ?vs31) rfl (by kernel_rfl) (by kernel_rfl) (by kernel_rfl) (fun _ _ _ h => h) (Or.inl ⟨by rfl, ?ys31⟩) (by assumption) ?_
      case ys31 => intro w hSw; (try dsimp only at hSw); go_simp <;> with_reducible rfl
      try simp only [List.getElem_toArray, List.getElem_cons_succ, List.getElem_cons_zero, Act.put, List.setIfInBounds_toArray, List.set_cons_zero, List.set_cons_succ]
      refine wpAnyH_take (i := 3) (v := ?vs33) rfl (by kernel_rfl) (by kernel_rfl) (by kernel_rfl) (fun _ _ _ h => h) (Or.inl ⟨by rfl, ?ys33⟩) (by assumption) ?_
      case ys33 => intro w hSw; (try dsimp only at hSw); go_simp <;> with_reducible rfl
      try simp only [List.getElem_toArray, List.getElem_cons_succ, List.getElem_cons_zero, Act.put, List.setIfInBounds_toArray, List.set_cons_zero, List.set_cons_succ]
      refine wpAnyH_take (i := 4) (v := ?vs34) rfl (by kernel_rfl) (by kernel_rfl) (by kernel_rfl) (fun _ _ _ h => h) (Or.inl ⟨by rfl, ?ys34⟩) (by assumption) ?_
      case ys34 => intro w hSw; (try dsimp only at hSw); go_simp <;> with_reducible rfl
      try simp only [List.getElem_toArray, List.getElem_cons_succ, List.getElem_cons_zero, Act.put, List.setIfInBounds_toArray, List.set_cons_zero, List.set_cons_succ]
      refine wpAnyH_ready (rs := [2]) (by kernel_rfl) (by simp) ?_
      refine AllReadyH.cons rfl (fun K hK => ?_) ?zs32
      case zs32 => exact AllReadyH.nil
      go_simp
      refine (HJ'.out _ hHeld.1).mono ?_
      rintro e w9 ⟨rfl, b9⟩
      refine hK.out _ _ (⟨hHeld.1.trans (b9.mono hHeld.1.size), keepC hHeld.2.1 b9, keepC hHeld.2.2.1 b9, keepC hHeld.2.2.2.1 b9, keepC hHeld.2.2.2.2 b9⟩) (fun hNew => ?_)
      clear hHeld b9
      have hHeld := hNew
      clear hNew hK K
      try simp only [List.getElem_toArray, List.getElem_cons_succ, List.getElem_cons_zero, Act.put, List.setIfInBounds_toArray, List.set_cons_zero, List.set_cons_succ]
      refine wpAnyH_ready (rs := [5]) (by kernel_rfl) (by simp) ?_
      refine AllReadyH.cons rfl (fun K hK => ?_) ?zs35
      case zs35 => exact AllReadyH.nil
      go_simp
      refine (HA'.out _ hHeld.1).mono ?_
      rintro e w9 ⟨rfl, b9⟩
      refine hK.out _ _ (⟨hHeld.1.trans (b9.mono hHeld.1.size), keepC hHeld.2.1 b9, keepC hHeld.2.2.1 b9, keepC hHeld.2.2.2.1 b9, keepC hHeld.2.2.2.2 b9⟩) (fun hNew => ?_)
      clear hHeld b9
      have hHeld := hNew
      clear hNew hK K
      try simp only [List.getElem_toArray, List.getElem_cons_succ, List.getElem_cons_zero, Act.put, List.setIfInBounds_toArray, List.set_cons_zero, List.set_cons_succ]
      refine wpAnyH_take (i := 6) (v := ?vs36) rfl (by kernel_rfl) (by kernel_rfl) (by kernel_rfl) (fun _ _ _ h => h) (Or.inl ⟨by rfl, ?ys36⟩) (by assumption) ?_
      case ys36 => intro w hSw; (try dsimp only at hSw); go_simp <;> with_reducible rfl
      try simp only [List.getElem_toArray, List.getElem_cons_succ, List.getElem_cons_zero, Act.put, List.setIfInBounds_toArray, List.set_cons_zero, List.set_cons_succ]
      refine wpAnyH_take (i := 7) (v := undef) rfl (by kernel_rfl) (by kernel_rfl) (by kernel_rfl) (fun _ _ _ h => h) (Or.inr ⟨by rfl, rfl⟩) (by assumption) ?_
      try simp only [List.getElem_toArray, List.getElem_cons_succ, List.getElem_cons_zero, Act.put, List.setIfInBounds_toArray, List.set_cons_zero, List.set_cons_succ]
      refine wpAnyH_take (i := 8) (v := undef) rfl (by kernel_rfl) (by kernel_rfl) (by kernel_rfl) (fun _ _ _ h => h) (Or.inr ⟨by rfl, rfl⟩) (by assumption) ?_
      try simp only [List.getElem_toArray, List.getElem_cons_succ, List.getElem_cons_zero, Act.put, List.setIfInBounds_toArray, List.set_cons_zero, List.set_cons_succ]
      refine wpAnyH_take (i := 9) (v := undef) rfl (by kernel_rfl) (by kernel_rfl) (by kernel_rfl) (fun _ _ _ h => h) (Or.inr ⟨by rfl, rfl⟩) (by assumption) ?_
      try simp only [List.getElem_toArray, List.getElem_cons_succ, List.getElem_cons_zero, Act.put, List.setIfInBounds_toArray, List.set_cons_zero, List.set_cons_succ]
      refine wpAnyH_take (i := 10) (v := ?vs310) rfl (by kernel_rfl) (by kernel_rfl) (by kernel_rfl) (fun _ _ _ h => h) (Or.inl ⟨by rfl, ?ys310⟩) (by assumption) ?_
      case ys310 => intro w hSw; (try dsimp only at hSw); go_simp <;> with_reducible rfl
      try simp only [List.getElem_toArray, List.getElem_cons_succ, List.getElem_cons_zero, Act.put, List.setIfInBounds_toArray, List.set_cons_zero, List.set_cons_succ]
      refine wpAnyH_take (i := 11) (v := ?vs311) rfl (by kernel_rfl) (by kernel_rfl) (by kernel_rfl) (fun _ _ _ h => h) (Or.inl ⟨by rfl, ?ys311⟩) (by assumption) ?_
      case ys311 => intro w hSw; (try dsimp only at hSw); go_simp <;> with_reducible rfl
      try simp only [List.getElem_toArray, List.getElem_cons_succ, List.getElem_cons_zero, Act.put, List.setIfInBounds_toArray, List.set_cons_zero, List.set_cons_succ]
      refine wpAnyH_take (i := 12) (v := ?vs312) rfl (by kernel_rfl) (by kernel_rfl) (by kernel_rfl) (fun _ _ _ h => h) (Or.inl ⟨by rfl, ?ys312⟩) (by assumption) ?_
      case ys312 => intro w hSw; (try dsimp only at hSw); go_simp <;> with_reducible rfl
      try simp only [List.getElem_toArray, List.getElem_cons_succ, List.getElem_cons_zero, Act.put, List.setIfInBounds_toArray, List.set_cons_zero, List.set_cons_succ]
      refine wpAnyH_take (i := 13) (v := ?vs313) rfl (by kernel_rfl) (by kernel_rfl) (by kernel_rfl) (fun _ _ _ h => h) (Or.inl ⟨by rfl, ?ys313⟩) (by assumption) ?_
      case ys313 => intro w hSw; (try dsimp only at hSw); go_simp <;> with_reducible rfl
      try simp only [List.getElem_toArray, List.getElem_cons_succ, List.getElem_cons_zero, Act.put, List.setIfInBounds_toArray, List.set_cons_zero, List.set_cons_succ]
      refine wpAnyH_take (i := 14) (v := ?vs314) rfl (by kernel_rfl) (by kernel_rfl) (by kernel_rfl) (fun _ _ _ h => h) (Or.inl ⟨by rfl, ?ys314⟩) (by assumption) ?_
      case ys314 => intro w hSw; (try dsimp only at hSw); go_simp <;> with_reducible rfl
      try simp only [List.getElem_toArray, List.getElem_cons_succ, List.getElem_cons_zero, Act.put, List.setIfInBounds_toArray, List.set_cons_zero, List.set_cons_succ]
      refine wpAnyH_take (i := 16) (v := ?vs316) rfl (by kernel_rfl) (by kernel_rfl) (by kernel_rfl) (fun _ _ _ h => h) (Or.inl ⟨by rfl, ?ys316⟩) (by assumption) ?_
      case ys316 => intro w hSw; (try dsimp only at hSw); go_simp <;> with_reducible rfl
      try simp only [List.getElem_toArray, List.getElem_cons_succ, List.getElem_cons_zero, Act.put, List.setIfInBounds_toArray, List.set_cons_zero, List.set_cons_succ]
      refine wpAnyH_take (i := 17) (v := ?vs317) rfl (by kernel_rfl) (by kernel_rfl) (by kernel_rfl) (fun _ _ _ h => h) (Or.inl ⟨by rfl, ?ys317⟩) (by assumption) ?_
      case ys317 => intro w hSw; (try dsimp only at hSw); go_simp <;> with_reducible rfl
      try simp only [List.getElem_toArray, List.getElem_cons_succ, List.getElem_cons_zero, Act.put, List.setIfInBounds_toArray, List.set_cons_zero, List.set_cons_succ]
      refine wpAnyH_ready (rs := [15]) (by kernel_rfl) (by simp) ?_
      refine AllReadyH.cons rfl (fun K hK => ?_) ?zs315
      case zs315 => exact AllReadyH.nil
      go_simp
      refine (HD'.out _ hHeld.1).mono ?_
      rintro e w9 ⟨rfl, b9⟩
      refine hK.out _ _ (⟨hHeld.1.trans (b9.mono hHeld.1.size), keepC hHeld.2.1 b9, keepC hHeld.2.2.1 b9, keepC hHeld.2.2.2.1 b9, keepC hHeld.2.2.2.2 b9⟩) (fun hNew => ?_)
      clear hHeld b9
      have hHeld := hNew
      clear hNew hK K
      try simp only [List.getElem_toArray, List.getElem_cons_succ, List.getElem_cons_zero, Act.put, List.setIfInBounds_toArray, List.set_cons_zero, List.set_cons_succ]
      refine wpAnyH_ready (rs := [18]) (by kernel_rfl) (by simp) ?_
      refine AllReadyH.cons rfl (fun K hK => ?_) ?zs318
      case zs318 => exact AllReadyH.nil
      go_simp
      refine (HA'.out _ hHeld.1).mono ?_
      rintro e w9 ⟨rfl, b9⟩
      refine hK.out _ _ (⟨hHeld.1.trans (b9.mono hHeld.1.size), keepC hHeld.2.1 b9, keepC hHeld.2.2.1 b9, keepC hHeld.2.2.2.1 b9, keepC hHeld.2.2.2.2 b9⟩) (fun hNew => ?_)
      clear hHeld b9
      have hHeld := hNew
      clear hNew hK K
      try simp only [List.getElem_toArray, List.getElem_cons_succ, List.getElem_cons_zero, Act.put, List.setIfInBounds_toArray, List.set_cons_zero, List.set_cons_succ]
      refine wpAnyH_take (i := 19) (v := ?vs319) rfl (by kernel_rfl) (by kernel_rfl) (by kernel_rfl) (fun _ _ _ h => h) (Or.inl ⟨by rfl, ?ys319⟩) (by assumption) ?_
      case ys319 => intro w hSw; (try dsimp only at hSw); go_simp <;> with_reducible rfl
      try simp only [List.getElem_toArray, List.getElem_cons_succ, List.getElem_cons_zero, Act.put, List.setIfInBounds_toArray, List.set_cons_zero, List.set_cons_succ]
      refine wpAnyH_take (i := 20) (v := ?vs320) rfl (by kernel_rfl) (by kernel_rfl) (by kernel_rfl) (fun _ _ _ h => h) (Or.inl ⟨by rfl, ?ys320⟩) (by assumption) ?_
      case ys320 => intro w hSw; (try dsimp only at hSw); go_simp <;> with_reducible rfl
      try simp only [List.getElem_toArray, List.getElem_cons_succ, List.getElem_cons_zero, Act.put, List.setIfInBounds_toArray, List.set_cons_zero, List.set_cons_succ]
      refine wpAnyH_take (i := 21) (v := ?vs321) rfl (by kernel_rfl) (by kernel_rfl) (by kernel_rfl) (fun _ _ _ h => h) (Or.inl ⟨by rfl, ?ys321⟩) (by assumption) ?_
      case ys321 => intro w hSw; (try dsimp only at hSw); go_simp <;> with_reducible rfl
      try simp only [List.getElem_toArray, List.getElem_cons_succ, List.getElem_cons_zero, Act.put, List.setIfInBounds_toArray, List.set_cons_zero, List.set_cons_succ]
      refine wpAnyH_ready (rs := [22]) (by kernel_rfl) (by simp) ?_
      refine AllReadyH.cons rfl (fun K hK => ?_) ?zs322
      case zs322 => exact AllReadyH.nil
      go_simp
      refine (HB'.out _ hHeld.1).mono ?_
      rintro e w9 ⟨rfl, b9⟩
      refine hK.out _ _ (⟨hHeld.1.trans (b9.mono hHeld.1.size), keepC hHeld.2.1 b9, keepC hHeld.2.2.1 b9, keepC hHeld.2.2.2.1 b9, keepC hHeld.2.2.2.2 b9⟩) (fun hNew => ?_)
      clear hHeld b9
      have hHeld := hNew
      clear hNew hK K
      try simp only [List.getElem_toArray, List.getElem_cons_succ, List.getElem_cons_zero, Act.put, List.setIfInBounds_toArray, List.set_cons_zero, List.set_cons_succ]
      refine wpAnyH_take (i := 23) (v := ?vs323) rfl (by kernel_rfl) (by kernel_rfl) (by kernel_rfl) (fun _ _ _ h => h) (Or.inl ⟨by rfl, ?ys323⟩) (by assumption) ?_
      case ys323 => intro w hSw; (try dsimp only at hSw); go_simp <;> with_reducible rfl
      try simp only [List.getElem_toArray, List.getElem_cons_succ, List.getElem_cons_zero, Act.put, List.setIfInBounds_toArray, List.set_cons_zero, List.set_cons_succ]
      refine wpAnyH_take (i := 24) (v := ?vs324) rfl (by kernel_rfl) (by kernel_rfl) (by kernel_rfl) (fun _ _ _ h => h) (Or.inl ⟨by rfl, ?ys324⟩) (by assumption) ?_
      case ys324 => intro w hSw; (try dsimp only at hSw); go_simp <;> with_reducible rfl
      try simp only [List.getElem_toArray, List.getElem_cons_succ, List.getElem_cons_zero, Act.put, List.setIfInBounds_toArray, List.set_cons_zero, List.set_cons_succ]
      refine wpAnyH_take (i := 25) (v := ?vs325) rfl (by kernel_rfl) (by kernel_rfl) (by kernel_rfl) (fun _ _ _ h => h) (Or.inl ⟨by rfl, ?ys325⟩) (by assumption) ?_
      case ys325 => intro w hSw; (try dsimp only at hSw); go_simp <;> with_reducible rfl
      try simp only [List.getElem_toArray, List.getElem_cons_succ, List.getElem_cons_zero, Act.put, List.setIfInBounds_toArray, List.set_cons_zero, List.set_cons_succ]
      refine wpAnyH_take (i := 26) (v := ?vs326) rfl (by kernel_rfl) (by kernel_rfl) (by kernel_rfl) (fun _ _ _ h => h) (Or.inl ⟨by rfl, ?ys326⟩) (by assumption) ?_
      case ys326 => intro w hSw; (try dsimp only at hSw); go_simp <;> with_reducible rfl
      try simp only [List.getElem_toArray, List.getElem_cons_succ, List.getElem_cons_zero, Act.put, List.setIfInBounds_toArray, List.set_cons_zero, List.set_cons_succ]
      refine wpAnyH_take (i := 27) (v := ?vs327) rfl (by kernel_rfl) (by kernel_rfl) (by kernel_rfl) (fun _ _ _ h => h) (Or.inl ⟨by rfl, ?ys327⟩) (by assumption) ?_
      case ys327 => intro w hSw; (try dsimp only at hSw); go_simp <;> with_reducible rfl
      try simp only [List.getElem_toArray, List.getElem_cons_succ, List.getElem_cons_zero, Act.put, List.setIfInBounds_toArray, List.set_cons_zero, List.set_cons_succ]
      refine wpAnyH_done (by kernel_rfl) ?_ _
      go_wp2_with fail
      go_meet
      exact ⟨rfl, Lib.hid hHeld.1⟩
    · obtain rfl : qj = true := EJ.out
      obtain rfl : qd = false := ED.out
      clear EP
      refine wp_region_held_drew (S := fun w' => Below w4.heap.size w4 w' ∧ w'.cell? ⟨w.heap.size, 0, none⟩ = some (.int .u32 (it : Int)) ∧ w'.cell? ⟨w.heap.size, 1, none⟩ = some (.int .u8 (ir : Int)) ∧ w'.cell? ⟨w.heap.size + 1, 0, none⟩ = some (.int .u32 (jt : Int)) ∧ w'.cell? ⟨w.heap.size + 1, 1, none⟩ = some (.int .u8 (jr : Int))) (by kernel_rfl) (⟨drew1 _, PC.out.1, PC.out.2.1, PC.out.2.2.1, PC.out.2.2.2⟩) (fun hHeld => ?_)
      refine wpAnyH_take (i := 0) (v := ?vs40) rfl (by kernel_rfl) (by kernel_rfl) (by kernel_rfl) (fun _ _ _ h => h) (Or.inl ⟨by rfl, ?ys40⟩) (by assumption) ?_
      case ys40 => intro w hSw; (try dsimp only at hSw); go_simp <;> with_reducible rfl
      try simp only [List.getElem_toArray, List.getElem_cons_zero, Act.put, List.setIfInBounds_toArray, List.set_cons_zero, List.set_cons_succ]
      refine wpAnyH_take (i := 1) (v := ?vs41) rfl (by kernel_rfl) (by kernel_rfl) (by kernel_rfl) (fun _ _ _ h => h) (Or.inl ⟨by rfl, ?ys41⟩) (by assumption) ?_
      case ys41 => intro w hSw; (try dsimp only at hSw); go_simp <;> with_reducible rfl
      try simp only [List.getElem_toArray, List.getElem_cons_succ, List.getElem_cons_zero, Act.put, List.setIfInBounds_toArray, List.set_cons_zero, List.set_cons_succ]
      refine wpAnyH_take (i := 3) (v := ?vs43) rfl (by kernel_rfl) (by kernel_rfl) (by kernel_rfl) (fun _ _ _ h => h) (Or.inl ⟨by rfl, ?ys43⟩) (by assumption) ?_
      case ys43 => intro w hSw; (try dsimp only at hSw); go_simp <;> with_reducible rfl
      try simp only [List.getElem_toArray, List.getElem_cons_succ, List.getElem_cons_zero, Act.put, List.setIfInBounds_toArray, List.set_cons_zero, List.set_cons_succ]
      refine wpAnyH_take (i := 4) (v := ?vs44) rfl (by kernel_rfl) (by kernel_rfl) (by kernel_rfl) (fun _ _ _ h => h) (Or.inl ⟨by rfl, ?ys44⟩) (by assumption) ?_
      case ys44 => intro w hSw; (try dsimp only at hSw); go_simp <;> with_reducible rfl
      try simp only [List.getElem_toArray, List.getElem_cons_succ, List.getElem_cons_zero, Act.put, List.setIfInBounds_toArray, List.set_cons_zero, List.set_cons_succ]
      refine wpAnyH_ready (rs := [2]) (by kernel_rfl) (by simp) ?_
      refine AllReadyH.cons rfl (fun K hK => ?_) ?zs42
      case zs42 => exact AllReadyH.nil
      go_simp
      refine (HJ'.out _ hHeld.1).mono ?_
      rintro e w9 ⟨rfl, b9⟩
      refine hK.out _ _ (⟨hHeld.1.trans (b9.mono hHeld.1.size), keepC hHeld.2.1 b9, keepC hHeld.2.2.1 b9, keepC hHeld.2.2.2.1 b9, keepC hHeld.2.2.2.2 b9⟩) (fun hNew => ?_)
      clear hHeld b9
      have hHeld := hNew
      clear hNew hK K
      try simp only [List.getElem_toArray, List.getElem_cons_succ, List.getElem_cons_zero, Act.put, List.setIfInBounds_toArray, List.set_cons_zero, List.set_cons_succ]
      refine wpAnyH_ready (rs := [5]) (by kernel_rfl) (by simp) ?_
      refine AllReadyH.cons rfl (fun K hK => ?_) ?zs45
      case zs45 => exact AllReadyH.nil
      go_simp
      refine (HA'.out _ hHeld.1).mono ?_
      rintro e w9 ⟨rfl, b9⟩
      refine hK.out _ _ (⟨hHeld.1.trans (b9.mono hHeld.1.size), keepC hHeld.2.1 b9, keepC hHeld.2.2.1 b9, keepC hHeld.2.2.2.1 b9, keepC hHeld.2.2.2.2 b9⟩) (fun hNew => ?_)
      clear hHeld b9
      have hHeld := hNew
      clear hNew hK K
      try simp only [List.getElem_toArray, List.getElem_cons_succ, List.getElem_cons_zero, Act.put, List.setIfInBounds_toArray, List.set_cons_zero, List.set_cons_succ]
      refine wpAnyH_take (i := 6) (v := ?vs46) rfl (by kernel_rfl) (by kernel_rfl) (by kernel_rfl) (fun _ _ _ h => h) (Or.inl ⟨by rfl, ?ys46⟩) (by assumption) ?_
      case ys46 => intro w hSw; (try dsimp only at hSw); go_simp <;> with_reducible rfl
      try simp only [List.getElem_toArray, List.getElem_cons_succ, List.getElem_cons_zero, Act.put, List.setIfInBounds_toArray, List.set_cons_zero, List.set_cons_succ]
      refine wpAnyH_take (i := 7) (v := undef) rfl (by kernel_rfl) (by kernel_rfl) (by kernel_rfl) (fun _ _ _ h => h) (Or.inr ⟨by rfl, rfl⟩) (by assumption) ?_
      try simp only [List.getElem_toArray, List.getElem_cons_succ, List.getElem_cons_zero, Act.put, List.setIfInBounds_toArray, List.set_cons_zero, List.set_cons_succ]
      refine wpAnyH_take (i := 8) (v := undef) rfl (by kernel_rfl) (by kernel_rfl) (by kernel_rfl) (fun _ _ _ h => h) (Or.inr ⟨by rfl, rfl⟩) (by assumption) ?_
      try simp only [List.getElem_toArray, List.getElem_cons_succ, List.getElem_cons_zero, Act.put, List.setIfInBounds_toArray, List.set_cons_zero, List.set_cons_succ]
      refine wpAnyH_take (i := 9) (v := undef) rfl (by kernel_rfl) (by kernel_rfl) (by kernel_rfl) (fun _ _ _ h => h) (Or.inr ⟨by rfl, rfl⟩) (by assumption) ?_
      try simp only [List.getElem_toArray, List.getElem_cons_succ, List.getElem_cons_zero, Act.put, List.setIfInBounds_toArray, List.set_cons_zero, List.set_cons_succ]
      refine wpAnyH_take (i := 10) (v := ?vs410) rfl (by kernel_rfl) (by kernel_rfl) (by kernel_rfl) (fun _ _ _ h => h) (Or.inl ⟨by rfl, ?ys410⟩) (by assumption) ?_
      case ys410 => intro w hSw; (try dsimp only at hSw); go_simp <;> with_reducible rfl
      try simp only [List.getElem_toArray, List.getElem_cons_succ, List.getElem_cons_zero, Act.put, List.setIfInBounds_toArray, List.set_cons_zero, List.set_cons_succ]
      refine wpAnyH_take (i := 11) (v := ?vs411) rfl (by kernel_rfl) (by kernel_rfl) (by kernel_rfl) (fun _ _ _ h => h) (Or.inl ⟨by rfl, ?ys411⟩) (by assumption) ?_
      case ys411 => intro w hSw; (try dsimp only at hSw); go_simp <;> with_reducible rfl
      try simp only [List.getElem_toArray, List.getElem_cons_succ, List.getElem_cons_zero, Act.put, List.setIfInBounds_toArray, List.set_cons_zero, List.set_cons_succ]
      refine wpAnyH_take (i := 12) (v := ?vs412) rfl (by kernel_rfl) (by kernel_rfl) (by kernel_rfl) (fun _ _ _ h => h) (Or.inl ⟨by rfl, ?ys412⟩) (by assumption) ?_
      case ys412 => intro w hSw; (try dsimp only at hSw); go_simp <;> with_reducible rfl
      try simp only [List.getElem_toArray, List.getElem_cons_succ, List.getElem_cons_zero, Act.put, List.setIfInBounds_toArray, List.set_cons_zero, List.set_cons_succ]
      refine wpAnyH_take (i := 13) (v := ?vs413) rfl (by kernel_rfl) (by kernel_rfl) (by kernel_rfl) (fun _ _ _ h => h) (Or.inl ⟨by rfl, ?ys413⟩) (by assumption) ?_
      case ys413 => intro w hSw; (try dsimp only at hSw); go_simp <;> with_reducible rfl
      try simp only [List.getElem_toArray, List.getElem_cons_succ, List.getElem_cons_zero, Act.put, List.setIfInBounds_toArray, List.set_cons_zero, List.set_cons_succ]
      refine wpAnyH_take (i := 14) (v := ?vs414) rfl (by kernel_rfl) (by kernel_rfl) (by kernel_rfl) (fun _ _ _ h => h) (Or.inl ⟨by rfl, ?ys414⟩) (by assumption) ?_
      case ys414 => intro w hSw; (try dsimp only at hSw); go_simp <;> with_reducible rfl
      try simp only [List.getElem_toArray, List.getElem_cons_succ, List.getElem_cons_zero, Act.put, List.setIfInBounds_toArray, List.set_cons_zero, List.set_cons_succ]
      refine wpAnyH_take (i := 16) (v := ?vs416) rfl (by kernel_rfl) (by kernel_rfl) (by kernel_rfl) (fun _ _ _ h => h) (Or.inl ⟨by rfl, ?ys416⟩) (by assumption) ?_
      case ys416 => intro w hSw; (try dsimp only at hSw); go_simp <;> with_reducible rfl
      try simp only [List.getElem_toArray, List.getElem_cons_succ, List.getElem_cons_zero, Act.put, List.setIfInBounds_toArray, List.set_cons_zero, List.set_cons_succ]
      refine wpAnyH_take (i := 17) (v := ?vs417) rfl (by kernel_rfl) (by kernel_rfl) (by kernel_rfl) (fun _ _ _ h => h) (Or.inl ⟨by rfl, ?ys417⟩) (by assumption) ?_
      case ys417 => intro w hSw; (try dsimp only at hSw); go_simp <;> with_reducible rfl
      try simp only [List.getElem_toArray, List.getElem_cons_succ, List.getElem_cons_zero, Act.put, List.setIfInBounds_toArray, List.set_cons_zero, List.set_cons_succ]
      refine wpAnyH_ready (rs := [15]) (by kernel_rfl) (by simp) ?_
      refine AllReadyH.cons rfl (fun K hK => ?_) ?zs415
      case zs415 => exact AllReadyH.nil
      go_simp
      refine (HD'.out _ hHeld.1).mono ?_
      rintro e w9 ⟨rfl, b9⟩
      refine hK.out _ _ (⟨hHeld.1.trans (b9.mono hHeld.1.size), keepC hHeld.2.1 b9, keepC hHeld.2.2.1 b9, keepC hHeld.2.2.2.1 b9, keepC hHeld.2.2.2.2 b9⟩) (fun hNew => ?_)
      clear hHeld b9
      have hHeld := hNew
      clear hNew hK K
      try simp only [List.getElem_toArray, List.getElem_cons_succ, List.getElem_cons_zero, Act.put, List.setIfInBounds_toArray, List.set_cons_zero, List.set_cons_succ]
      refine wpAnyH_ready (rs := [18]) (by kernel_rfl) (by simp) ?_
      refine AllReadyH.cons rfl (fun K hK => ?_) ?zs418
      case zs418 => exact AllReadyH.nil
      go_simp
      refine (HA'.out _ hHeld.1).mono ?_
      rintro e w9 ⟨rfl, b9⟩
      refine hK.out _ _ (⟨hHeld.1.trans (b9.mono hHeld.1.size), keepC hHeld.2.1 b9, keepC hHeld.2.2.1 b9, keepC hHeld.2.2.2.1 b9, keepC hHeld.2.2.2.2 b9⟩) (fun hNew => ?_)
      clear hHeld b9
      have hHeld := hNew
      clear hNew hK K
      try simp only [List.getElem_toArray, List.getElem_cons_succ, List.getElem_cons_zero, Act.put, List.setIfInBounds_toArray, List.set_cons_zero, List.set_cons_succ]
      refine wpAnyH_take (i := 19) (v := ?vs419) rfl (by kernel_rfl) (by kernel_rfl) (by kernel_rfl) (fun _ _ _ h => h) (Or.inl ⟨by rfl, ?ys419⟩) (by assumption) ?_
      case ys419 => intro w hSw; (try dsimp only at hSw); go_simp <;> with_reducible rfl
      try simp only [List.getElem_toArray, List.getElem_cons_succ, List.getElem_cons_zero, Act.put, List.setIfInBounds_toArray, List.set_cons_zero, List.set_cons_succ]
      refine wpAnyH_take (i := 20) (v := ?vs420) rfl (by kernel_rfl) (by kernel_rfl) (by kernel_rfl) (fun _ _ _ h => h) (Or.inl ⟨by rfl, ?ys420⟩) (by assumption) ?_
      case ys420 => intro w hSw; (try dsimp only at hSw); go_simp <;> with_reducible rfl
      try simp only [List.getElem_toArray, List.getElem_cons_succ, List.getElem_cons_zero, Act.put, List.setIfInBounds_toArray, List.set_cons_zero, List.set_cons_succ]
      refine wpAnyH_take (i := 21) (v := ?vs421) rfl (by kernel_rfl) (by kernel_rfl) (by kernel_rfl) (fun _ _ _ h => h) (Or.inl ⟨by rfl, ?ys421⟩) (by assumption) ?_
      case ys421 => intro w hSw; (try dsimp only at hSw); go_simp <;> with_reducible rfl
      try simp only [List.getElem_toArray, List.getElem_cons_succ, List.getElem_cons_zero, Act.put, List.setIfInBounds_toArray, List.set_cons_zero, List.set_cons_succ]
      refine wpAnyH_ready (rs := [22]) (by kernel_rfl) (by simp) ?_
      refine AllReadyH.cons rfl (fun K hK => ?_) ?zs422
      case zs422 => exact AllReadyH.nil
      go_simp
      refine (HB'.out _ hHeld.1).mono ?_
      rintro e w9 ⟨rfl, b9⟩
      refine hK.out _ _ (⟨hHeld.1.trans (b9.mono hHeld.1.size), keepC hHeld.2.1 b9, keepC hHeld.2.2.1 b9, keepC hHeld.2.2.2.1 b9, keepC hHeld.2.2.2.2 b9⟩) (fun hNew => ?_)
      clear hHeld b9
      have hHeld := hNew
      clear hNew hK K
      try simp only [List.getElem_toArray, List.getElem_cons_succ, List.getElem_cons_zero, Act.put, List.setIfInBounds_toArray, List.set_cons_zero, List.set_cons_succ]
      refine wpAnyH_take (i := 23) (v := ?vs423) rfl (by kernel_rfl) (by kernel_rfl) (by kernel_rfl) (fun _ _ _ h => h) (Or.inl ⟨by rfl, ?ys423⟩) (by assumption) ?_
      case ys423 => intro w hSw; (try dsimp only at hSw); go_simp <;> with_reducible rfl
      try simp only [List.getElem_toArray, List.getElem_cons_succ, List.getElem_cons_zero, Act.put, List.setIfInBounds_toArray, List.set_cons_zero, List.set_cons_succ]
      refine wpAnyH_take (i := 24) (v := ?vs424) rfl (by kernel_rfl) (by kernel_rfl) (by kernel_rfl) (fun _ _ _ h => h) (Or.inl ⟨by rfl, ?ys424⟩) (by assumption) ?_
      case ys424 => intro w hSw; (try dsimp only at hSw); go_simp <;> with_reducible rfl
      try simp only [List.getElem_toArray, List.getElem_cons_succ, List.getElem_cons_zero, Act.put, List.setIfInBounds_toArray, List.set_cons_zero, List.set_cons_succ]
      refine wpAnyH_take (i := 25) (v := ?vs425) rfl (by kernel_rfl) (by kernel_rfl) (by kernel_rfl) (fun _ _ _ h => h) (Or.inl ⟨by rfl, ?ys425⟩) (by assumption) ?_
      case ys425 => intro w hSw; (try dsimp only at hSw); go_simp <;> with_reducible rfl
      try simp only [List.getElem_toArray, List.getElem_cons_succ, List.getElem_cons_zero, Act.put, List.setIfInBounds_toArray, List.set_cons_zero, List.set_cons_succ]
      refine wpAnyH_take (i := 26) (v := ?vs426) rfl (by kernel_rfl) (by kernel_rfl) (by kernel_rfl) (fun _ _ _ h => h) (Or.inl ⟨by rfl, ?ys426⟩) (by assumption) ?_
      case ys426 => intro w hSw; (try dsimp only at hSw); go_simp <;> with_reducible rfl
      try simp only [List.getElem_toArray, List.getElem_cons_succ, List.getElem_cons_zero, Act.put, List.setIfInBounds_toArray, List.set_cons_zero, List.set_cons_succ]
      refine wpAnyH_take (i := 27) (v := ?vs427) rfl (by kernel_rfl) (by kernel_rfl) (by kernel_rfl) (fun _ _ _ h => h) (Or.inl ⟨by rfl, ?ys427⟩) (by assumption) ?_
      case ys427 => intro w hSw; (try dsimp only at hSw); go_simp <;> with_reducible rfl
      try simp only [List.getElem_toArray, List.getElem_cons_succ, List.getElem_cons_zero, Act.put, List.setIfInBounds_toArray, List.set_cons_zero, List.set_cons_succ]
      refine wpAnyH_done (by kernel_rfl) ?_ _
      go_wp2_with fail
      go_meet
      exact ⟨rfl, Lib.hid hHeld.1⟩
  obtain ⟨rfl, hcw⟩ := hcut
  have PD := Lib.hid (And.intro (keepC PC.out.1 hcw.out) (And.intro (keepC PC.out.2.1 hcw.out) (And.intro (keepC PC.out.2.2.1 hcw.out) (keepC PC.out.2.2.2 hcw.out))))
  obtain ⟨wr, rfl⟩ : ∃ wr : World, wr = wc := ⟨_, rfl⟩
  go_upto_region 10 with fail
  go_cut [17] (fun p wx => p = .bool true ∧ Hid (Below wr.heap.size wr wx))
  case first =>
    rcases EP.out with rfl | ⟨rfl, hqp⟩
    · skip
      refine wp_region_held_drew (S := fun w' => Below wr.heap.size wr w' ∧ w'.cell? ⟨w.heap.size, 0, none⟩ = some (.int .u32 (it : Int)) ∧ w'.cell? ⟨w.heap.size, 1, none⟩ = some (.int .u8 (ir : Int)) ∧ w'.cell? ⟨w.heap.size + 1, 0, none⟩ = some (.int .u32 (jt : Int)) ∧ w'.cell? ⟨w.heap.size + 1, 1, none⟩ = some (.int .u8 (jr : Int))) (by kernel_rfl) (⟨drew1 _, PD.out.1, PD.out.2.1, PD.out.2.2.1, PD.out.2.2.2⟩) (fun hHeld => ?_)
      refine wpAnyH_take (i := 0) (v := ?vt00) rfl (by kernel_rfl) (by kernel_rfl) (by kernel_rfl) (fun _ _ _ h => h) (Or.inl ⟨by rfl, ?yt00⟩) (by assumption) ?_
      case yt00 => intro w hSw; (try dsimp only at hSw); go_simp <;> with_reducible rfl
      try simp only [List.getElem_toArray, List.getElem_cons_zero, Act.put, List.setIfInBounds_toArray, List.set_cons_zero, List.set_cons_succ]
      refine wpAnyH_take (i := 1) (v := ?vt01) rfl (by kernel_rfl) (by kernel_rfl) (by kernel_rfl) (fun _ _ _ h => h) (Or.inl ⟨by rfl, ?yt01⟩) (by assumption) ?_
      case yt01 => intro w hSw; (try dsimp only at hSw); go_simp <;> with_reducible rfl
      try simp only [List.getElem_toArray, List.getElem_cons_succ, List.getElem_cons_zero, Act.put, List.setIfInBounds_toArray, List.set_cons_zero, List.set_cons_succ]
      refine wpAnyH_take (i := 2) (v := ?vt02) rfl (by kernel_rfl) (by kernel_rfl) (by kernel_rfl) (fun _ _ _ h => h) (Or.inl ⟨by rfl, ?yt02⟩) (by assumption) ?_
      case yt02 => intro w hSw; (try dsimp only at hSw); go_simp <;> with_reducible rfl
      try simp only [List.getElem_toArray, List.getElem_cons_succ, List.getElem_cons_zero, Act.put, List.setIfInBounds_toArray, List.set_cons_zero, List.set_cons_succ]
      refine wpAnyH_take (i := 3) (v := undef) rfl (by kernel_rfl) (by kernel_rfl) (by kernel_rfl) (fun _ _ _ h => h) (Or.inr ⟨by rfl, rfl⟩) (by assumption) ?_
      try simp only [List.getElem_toArray, List.getElem_cons_succ, List.getElem_cons_zero, Act.put, List.setIfInBounds_toArray, List.set_cons_zero, List.set_cons_succ]
      refine wpAnyH_take (i := 4) (v := undef) rfl (by kernel_rfl) (by kernel_rfl) (by kernel_rfl) (fun _ _ _ h => h) (Or.inr ⟨by rfl, rfl⟩) (by assumption) ?_
      try simp only [List.getElem_toArray, List.getElem_cons_succ, List.getElem_cons_zero, Act.put, List.setIfInBounds_toArray, List.set_cons_zero, List.set_cons_succ]
      refine wpAnyH_take (i := 5) (v := undef) rfl (by kernel_rfl) (by kernel_rfl) (by kernel_rfl) (fun _ _ _ h => h) (Or.inr ⟨by rfl, rfl⟩) (by assumption) ?_
      try simp only [List.getElem_toArray, List.getElem_cons_succ, List.getElem_cons_zero, Act.put, List.setIfInBounds_toArray, List.set_cons_zero, List.set_cons_succ]
      refine wpAnyH_take (i := 6) (v := undef) rfl (by kernel_rfl) (by kernel_rfl) (by kernel_rfl) (fun _ _ _ h => h) (Or.inr ⟨by rfl, rfl⟩) (by assumption) ?_
      try simp only [List.getElem_toArray, List.getElem_cons_succ, List.getElem_cons_zero, Act.put, List.setIfInBounds_toArray, List.set_cons_zero, List.set_cons_succ]
      refine wpAnyH_take (i := 7) (v := undef) rfl (by kernel_rfl) (by kernel_rfl) (by kernel_rfl) (fun _ _ _ h => h) (Or.inr ⟨by rfl, rfl⟩) (by assumption) ?_
      try simp only [List.getElem_toArray, List.getElem_cons_succ, List.getElem_cons_zero, Act.put, List.setIfInBounds_toArray, List.set_cons_zero, List.set_cons_succ]
      refine wpAnyH_take (i := 8) (v := undef) rfl (by kernel_rfl) (by kernel_rfl) (by kernel_rfl) (fun _ _ _ h => h) (Or.inr ⟨by rfl, rfl⟩) (by assumption) ?_
      try simp only [List.getElem_toArray, List.getElem_cons_succ, List.getElem_cons_zero, Act.put, List.setIfInBounds_toArray, List.set_cons_zero, List.set_cons_succ]
      refine wpAnyH_take (i := 9) (v := undef) rfl (by kernel_rfl) (by kernel_rfl) (by kernel_rfl) (fun _ _ _ h => h) (Or.inr ⟨by rfl, rfl⟩) (by assumption) ?_
      try simp only [List.getElem_toArray, List.getElem_cons_succ, List.getElem_cons_zero, Act.put, List.setIfInBounds_toArray, List.set_cons_zero, List.set_cons_succ]
      refine wpAnyH_take (i := 10) (v := undef) rfl (by kernel_rfl) (by kernel_rfl) (by kernel_rfl) (fun _ _ _ h => h) (Or.inr ⟨by rfl, rfl⟩) (by assumption) ?_
      try simp only [List.getElem_toArray, List.getElem_cons_succ, List.getElem_cons_zero, Act.put, List.setIfInBounds_toArray, List.set_cons_zero, List.set_cons_succ]
      refine wpAnyH_take (i := 11) (v := undef) rfl (by kernel_rfl) (by kernel_rfl) (by kernel_rfl) (fun _ _ _ h => h) (Or.inr ⟨by rfl, rfl⟩) (by assumption) ?_
      try simp only [List.getElem_toArray, List.getElem_cons_succ, List.getElem_cons_zero, Act.put, List.setIfInBounds_toArray, List.set_cons_zero, List.set_cons_succ]
      refine wpAnyH_take (i := 12) (v := undef) rfl (by kernel_rfl) (by kernel_rfl) (by kernel_rfl) (fun _ _ _ h => h) (Or.inr ⟨by rfl, rfl⟩) (by assumption) ?_
      try simp only [List.getElem_toArray, List.getElem_cons_succ, List.getElem_cons_zero, Act.put, List.setIfInBounds_toArray, List.set_cons_zero, List.set_cons_succ]
      refine wpAnyH_take (i := 13) (v := undef) rfl (by kernel_rfl) (by kernel_rfl) (by kernel_rfl) (fun _ _ _ h => h) (Or.inr ⟨by rfl, rfl⟩) (by assumption) ?_
      try simp only [List.getElem_toArray, List.getElem_cons_succ, List.getElem_cons_zero, Act.put, List.setIfInBounds_toArray, List.set_cons_zero, List.set_cons_succ]
      refine wpAnyH_take (i := 14) (v := undef) rfl (by kernel_rfl) (by kernel_rfl) (by kernel_rfl) (fun _ _ _ h => h) (Or.inr ⟨by rfl, rfl⟩) (by assumption) ?_
      try simp only [List.getElem_toArray, List.getElem_cons_succ, List.getElem_cons_zero, Act.put, List.setIfInBounds_toArray, List.set_cons_zero, List.set_cons_succ]
      refine wpAnyH_take (i := 15) (v := ?vt015) rfl (by kernel_rfl) (by kernel_rfl) (by kernel_rfl) (fun _ _ _ h => h) (Or.inl ⟨by rfl, ?yt015⟩) (by assumption) ?_
      case yt015 => intro w hSw; (try dsimp only at hSw); go_simp <;> with_reducible rfl
      try simp only [List.getElem_toArray, List.getElem_cons_succ, List.getElem_cons_zero, Act.put, List.setIfInBounds_toArray, List.set_cons_zero, List.set_cons_succ]
      refine wpAnyH_take (i := 16) (v := ?vt016) rfl (by kernel_rfl) (by kernel_rfl) (by kernel_rfl) (fun _ _ _ h => h) (Or.inl ⟨by rfl, ?yt016⟩) (by assumption) ?_
      case yt016 => intro w hSw; (try dsimp only at hSw); go_simp <;> with_reducible rfl
      try simp only [List.getElem_toArray, List.getElem_cons_succ, List.getElem_cons_zero, Act.put, List.setIfInBounds_toArray, List.set_cons_zero, List.set_cons_succ]
      refine wpAnyH_done (by kernel_rfl) ?_ _
      go_wp2_with fail
      go_meet
      exact ⟨rfl, Lib.hid hHeld.1⟩
    · rcases ha with _ | _
      · by_cases e1 : it = jt
        · subst e1
          by_cases e2 : ir = jr
          · subst e2
            obtain rfl : qp = true := by rw [hqp]; simp
            clear hqp EP EJ ED
            refine wp_region_held_drew (S := fun w' => Below wr.heap.size wr w' ∧ w'.cell? ⟨w.heap.size, 0, none⟩ = some (.int .u32 (it : Int)) ∧ w'.cell? ⟨w.heap.size, 1, none⟩ = some (.int .u8 (ir : Int)) ∧ w'.cell? ⟨w.heap.size + 1, 0, none⟩ = some (.int .u32 (it : Int)) ∧ w'.cell? ⟨w.heap.size + 1, 1, none⟩ = some (.int .u8 (ir : Int))) (by kernel_rfl) (⟨drew1 _, PD.out.1, PD.out.2.1, PD.out.2.2.1, PD.out.2.2.2⟩) (fun hHeld => ?_)
            refine wpAnyH_take (i := 0) (v := ?vt10) rfl (by kernel_rfl) (by kernel_rfl) (by kernel_rfl) (fun _ _ _ h => h) (Or.inl ⟨by rfl, ?yt10⟩) (by assumption) ?_
            case yt10 => intro w hSw; (try dsimp only at hSw); go_simp <;> with_reducible rfl
            try simp only [List.getElem_toArray, List.getElem_cons_zero, Act.put, List.setIfInBounds_toArray, List.set_cons_zero, List.set_cons_succ]
            refine wpAnyH_take (i := 1) (v := ?vt11) rfl (by kernel_rfl) (by kernel_rfl) (by kernel_rfl) (fun _ _ _ h => h) (Or.inl ⟨by rfl, ?yt11⟩) (by assumption) ?_
            case yt11 => intro w hSw; (try dsimp only at hSw); go_simp <;> with_reducible rfl
            try simp only [List.getElem_toArray, List.getElem_cons_succ, List.getElem_cons_zero, Act.put, List.setIfInBounds_toArray, List.set_cons_zero, List.set_cons_succ]
            refine wpAnyH_take (i := 2) (v := ?vt12) rfl (by kernel_rfl) (by kernel_rfl) (by kernel_rfl) (fun _ _ _ h => h) (Or.inl ⟨by rfl, ?yt12⟩) (by assumption) ?_
            case yt12 => intro w hSw; (try dsimp only at hSw); go_simp <;> with_reducible rfl
            try simp only [List.getElem_toArray, List.getElem_cons_succ, List.getElem_cons_zero, Act.put, List.setIfInBounds_toArray, List.set_cons_zero, List.set_cons_succ]
            refine wpAnyH_take (i := 3) (v := ?vt13) rfl (by kernel_rfl) (by kernel_rfl) (by kernel_rfl) (fun _ _ _ h => h) (Or.inl ⟨by rfl, ?yt13⟩) (by assumption) ?_
            case yt13 => intro w hSw; (try dsimp only at hSw); go_simp <;> with_reducible rfl
            try simp only [List.getElem_toArray, List.getElem_cons_succ, List.getElem_cons_zero, Act.put, List.setIfInBounds_toArray, List.set_cons_zero, List.set_cons_succ]
            refine wpAnyH_take (i := 4) (v := ?vt14) rfl (by kernel_rfl) (by kernel_rfl) (by kernel_rfl) (fun _ _ _ h => h) (Or.inl ⟨by rfl, ?yt14⟩) (by assumption) ?_
            case yt14 => intro w hSw; (try dsimp only at hSw); go_simp <;> with_reducible rfl
            try simp only [List.getElem_toArray, List.getElem_cons_succ, List.getElem_cons_zero, Act.put, List.setIfInBounds_toArray, List.set_cons_zero, List.set_cons_succ]
            refine wpAnyH_take (i := 6) (v := ?vt16) rfl (by kernel_rfl) (by kernel_rfl) (by kernel_rfl) (fun _ _ _ h => h) (Or.inl ⟨by rfl, ?yt16⟩) (by assumption) ?_
            case yt16 => intro w hSw; (try dsimp only at hSw); go_simp <;> with_reducible rfl
            try simp only [List.getElem_toArray, List.getElem_cons_succ, List.getElem_cons_zero, Act.put, List.setIfInBounds_toArray, List.set_cons_zero, List.set_cons_succ]
            refine wpAnyH_take (i := 7) (v := ?vt17) rfl (by kernel_rfl) (by kernel_rfl) (by kernel_rfl) (fun _ _ _ h => h) (Or.inl ⟨by rfl, ?yt17⟩) (by assumption) ?_
            case yt17 => intro w hSw; (try dsimp only at hSw); go_simp <;> with_reducible rfl
            try simp only [List.getElem_toArray, List.getElem_cons_succ, List.getElem_cons_zero, Act.put, List.setIfInBounds_toArray, List.set_cons_zero, List.set_cons_succ]
            refine wpAnyH_ready (rs := [5]) (by kernel_rfl) (by simp) ?_
            refine AllReadyH.cons rfl (fun K hK => ?_) ?zt15
            case zt15 => exact AllReadyH.nil
            go_simp
            refine (HP'.out _ (bt hcw.out hHeld.1)).mono ?_
            rintro e w9 ⟨rfl, b9⟩
            refine hK.out _ _ (⟨hHeld.1.trans (b9.mono hHeld.1.size), keepC hHeld.2.1 b9, keepC hHeld.2.2.1 b9, keepC hHeld.2.2.2.1 b9, keepC hHeld.2.2.2.2 b9⟩) (fun hNew => ?_)
            clear hHeld b9
            have hHeld := hNew
            clear hNew hK K
            try simp only [List.getElem_toArray, List.getElem_cons_succ, List.getElem_cons_zero, Act.put, List.setIfInBounds_toArray, List.set_cons_zero, List.set_cons_succ]
            refine wpAnyH_ready (rs := [8]) (by kernel_rfl) (by simp) ?_
            refine AllReadyH.cons rfl (fun K hK => ?_) ?zt18
            case zt18 => exact AllReadyH.nil
            go_simp
            refine (HA'.out _ (bt hcw.out hHeld.1)).mono ?_
            rintro e w9 ⟨rfl, b9⟩
            refine hK.out _ _ (⟨hHeld.1.trans (b9.mono hHeld.1.size), keepC hHeld.2.1 b9, keepC hHeld.2.2.1 b9, keepC hHeld.2.2.2.1 b9, keepC hHeld.2.2.2.2 b9⟩) (fun hNew => ?_)
            clear hHeld b9
            have hHeld := hNew
            clear hNew hK K
            try simp only [List.getElem_toArray, List.getElem_cons_succ, List.getElem_cons_zero, Act.put, List.setIfInBounds_toArray, List.set_cons_zero, List.set_cons_succ]
            refine wpAnyH_take (i := 9) (v := ?vt19) rfl (by kernel_rfl) (by kernel_rfl) (by kernel_rfl) (fun _ _ _ h => h) (Or.inl ⟨by rfl, ?yt19⟩) (by assumption) ?_
            case yt19 => intro w hSw; (try dsimp only at hSw); go_simp <;> with_reducible rfl
            try simp only [List.getElem_toArray, List.getElem_cons_succ, List.getElem_cons_zero, Act.put, List.setIfInBounds_toArray, List.set_cons_zero, List.set_cons_succ]
            refine wpAnyH_take (i := 10) (v := ?vt110) rfl (by kernel_rfl) (by kernel_rfl) (by kernel_rfl) (fun _ _ _ h => h) (Or.inl ⟨by rfl, ?yt110⟩) (by assumption) ?_
            case yt110 => intro w hSw; (try dsimp only at hSw); go_simp <;> with_reducible rfl
            try simp only [List.getElem_toArray, List.getElem_cons_succ, List.getElem_cons_zero, Act.put, List.setIfInBounds_toArray, List.set_cons_zero, List.set_cons_succ]
            refine wpAnyH_take (i := 11) (v := ?vt111) rfl (by kernel_rfl) (by kernel_rfl) (by kernel_rfl) (fun _ _ _ h => h) (Or.inl ⟨by rfl, ?yt111⟩) (by assumption) ?_
            case yt111 => intro w hSw; (try dsimp only at hSw); go_simp <;> with_reducible rfl
            try simp only [List.getElem_toArray, List.getElem_cons_succ, List.getElem_cons_zero, Act.put, List.setIfInBounds_toArray, List.set_cons_zero, List.set_cons_succ]
            refine wpAnyH_take (i := 12) (v := ?vt112) rfl (by kernel_rfl) (by kernel_rfl) (by kernel_rfl) (fun _ _ _ h => h) (Or.inl ⟨by rfl, ?yt112⟩) (by assumption) ?_
            case yt112 => intro w hSw; (try dsimp only at hSw); go_simp <;> with_reducible rfl
            try simp only [List.getElem_toArray, List.getElem_cons_succ, List.getElem_cons_zero, Act.put, List.setIfInBounds_toArray, List.set_cons_zero, List.set_cons_succ]
            refine wpAnyH_take (i := 13) (v := ?vt113) rfl (by kernel_rfl) (by kernel_rfl) (by kernel_rfl) (fun _ _ _ h => h) (Or.inl ⟨by rfl, ?yt113⟩) (by assumption) ?_
            case yt113 => intro w hSw; (try dsimp only at hSw); go_simp <;> with_reducible rfl
            try simp only [List.getElem_toArray, List.getElem_cons_succ, List.getElem_cons_zero, Act.put, List.setIfInBounds_toArray, List.set_cons_zero, List.set_cons_succ]
            refine wpAnyH_take (i := 14) (v := ?vt114) rfl (by kernel_rfl) (by kernel_rfl) (by kernel_rfl) (fun _ _ _ h => h) (Or.inl ⟨by rfl, ?yt114⟩) (by assumption) ?_
            case yt114 => intro w hSw; (try dsimp only at hSw); go_simp <;> with_reducible rfl
            try simp only [List.getElem_toArray, List.getElem_cons_succ, List.getElem_cons_zero, Act.put, List.setIfInBounds_toArray, List.set_cons_zero, List.set_cons_succ]
            refine wpAnyH_take (i := 15) (v := ?vt115) rfl (by kernel_rfl) (by kernel_rfl) (by kernel_rfl) (fun _ _ _ h => h) (Or.inl ⟨by rfl, ?yt115⟩) (by assumption) ?_
            case yt115 => intro w hSw; (try dsimp only at hSw); go_simp <;> with_reducible rfl
            try simp only [List.getElem_toArray, List.getElem_cons_succ, List.getElem_cons_zero, Act.put, List.setIfInBounds_toArray, List.set_cons_zero, List.set_cons_succ]
            refine wpAnyH_take (i := 16) (v := ?vt116) rfl (by kernel_rfl) (by kernel_rfl) (by kernel_rfl) (fun _ _ _ h => h) (Or.inl ⟨by rfl, ?yt116⟩) (by assumption) ?_
            case yt116 => intro w hSw; (try dsimp only at hSw); go_simp <;> with_reducible rfl
            try simp only [List.getElem_toArray, List.getElem_cons_succ, List.getElem_cons_zero, Act.put, List.setIfInBounds_toArray, List.set_cons_zero, List.set_cons_succ]
            refine wpAnyH_done (by kernel_rfl) ?_ _
            go_wp2_with fail
            go_meet
            exact ⟨rfl, Lib.hid hHeld.1⟩
          · obtain rfl : qp = false := by rw [hqp]; simp [e2]
            have e3 : ((ir : Int) == (jr : Int)) = false := by simp; omega
            have e4 : decide ((ir : Int) = (jr : Int)) = false := decide_eq_false (by omega)
            have e5 : ¬ (ir : Int) = (jr : Int) := by omega
            clear hqp EP EJ ED
            refine wp_region_held_drew (S := fun w' => Below wr.heap.size wr w' ∧ w'.cell? ⟨w.heap.size, 0, none⟩ = some (.int .u32 (it : Int)) ∧ w'.cell? ⟨w.heap.size, 1, none⟩ = some (.int .u8 (ir : Int)) ∧ w'.cell? ⟨w.heap.size + 1, 0, none⟩ = some (.int .u32 (it : Int)) ∧ w'.cell? ⟨w.heap.size + 1, 1, none⟩ = some (.int .u8 (jr : Int))) (by kernel_rfl) (⟨drew1 _, PD.out.1, PD.out.2.1, PD.out.2.2.1, PD.out.2.2.2⟩) (fun hHeld => ?_)
            refine wpAnyH_take (i := 0) (v := ?vt20) rfl (by kernel_rfl) (by kernel_rfl) (by kernel_rfl) (fun _ _ _ h => h) (Or.inl ⟨by rfl, ?yt20⟩) (by assumption) ?_
            case yt20 => intro w hSw; (try dsimp only at hSw); go_simp <;> with_reducible rfl
            try simp only [List.getElem_toArray, List.getElem_cons_zero, Act.put, List.setIfInBounds_toArray, List.set_cons_zero, List.set_cons_succ]
            refine wpAnyH_take (i := 1) (v := ?vt21) rfl (by kernel_rfl) (by kernel_rfl) (by kernel_rfl) (fun _ _ _ h => h) (Or.inl ⟨by rfl, ?yt21⟩) (by assumption) ?_
            case yt21 => intro w hSw; (try dsimp only at hSw); go_simp <;> with_reducible rfl
            try simp only [List.getElem_toArray, List.getElem_cons_succ, List.getElem_cons_zero, Act.put, List.setIfInBounds_toArray, List.set_cons_zero, List.set_cons_succ]
            refine wpAnyH_take (i := 2) (v := ?vt22) rfl (by kernel_rfl) (by kernel_rfl) (by kernel_rfl) (fun _ _ _ h => h) (Or.inl ⟨by rfl, ?yt22⟩) (by assumption) ?_
            case yt22 => intro w hSw; (try dsimp only at hSw); go_simp <;> with_reducible rfl
            try simp only [List.getElem_toArray, List.getElem_cons_succ, List.getElem_cons_zero, Act.put, List.setIfInBounds_toArray, List.set_cons_zero, List.set_cons_succ]
            refine wpAnyH_take (i := 3) (v := ?vt23) rfl (by kernel_rfl) (by kernel_rfl) (by kernel_rfl) (fun _ _ _ h => h) (Or.inl ⟨by rfl, ?yt23⟩) (by assumption) ?_
            case yt23 => intro w hSw; (try dsimp only at hSw); go_simp <;> with_reducible rfl
            try simp only [List.getElem_toArray, List.getElem_cons_succ, List.getElem_cons_zero, Act.put, List.setIfInBounds_toArray, List.set_cons_zero, List.set_cons_succ]
            refine wpAnyH_take (i := 4) (v := ?vt24) rfl (by kernel_rfl) (by kernel_rfl) (by kernel_rfl) (fun _ _ _ h => h) (Or.inl ⟨by rfl, ?yt24⟩) (by assumption) ?_
            case yt24 => intro w hSw; (try dsimp only at hSw); go_simp <;> with_reducible rfl
            try simp only [List.getElem_toArray, List.getElem_cons_succ, List.getElem_cons_zero, Act.put, List.setIfInBounds_toArray, List.set_cons_zero, List.set_cons_succ]
            refine wpAnyH_take (i := 6) (v := ?vt26) rfl (by kernel_rfl) (by kernel_rfl) (by kernel_rfl) (fun _ _ _ h => h) (Or.inl ⟨by rfl, ?yt26⟩) (by assumption) ?_
            case yt26 => intro w hSw; (try dsimp only at hSw); go_simp <;> with_reducible rfl
            try simp only [List.getElem_toArray, List.getElem_cons_succ, List.getElem_cons_zero, Act.put, List.setIfInBounds_toArray, List.set_cons_zero, List.set_cons_succ]
            refine wpAnyH_take (i := 7) (v := ?vt27) rfl (by kernel_rfl) (by kernel_rfl) (by kernel_rfl) (fun _ _ _ h => h) (Or.inl ⟨by rfl, ?yt27⟩) (by assumption) ?_
            case yt27 => intro w hSw; (try dsimp only at hSw); go_simp <;> with_reducible rfl
            try simp only [List.getElem_toArray, List.getElem_cons_succ, List.getElem_cons_zero, Act.put, List.setIfInBounds_toArray, List.set_cons_zero, List.set_cons_succ]
            refine wpAnyH_ready (rs := [5]) (by kernel_rfl) (by simp) ?_
            refine AllReadyH.cons rfl (fun K hK => ?_) ?zt25
            case zt25 => exact AllReadyH.nil
            go_simp
            refine (HP'.out _ (bt hcw.out hHeld.1)).mono ?_
            rintro e w9 ⟨rfl, b9⟩
            refine hK.out _ _ (⟨hHeld.1.trans (b9.mono hHeld.1.size), keepC hHeld.2.1 b9, keepC hHeld.2.2.1 b9, keepC hHeld.2.2.2.1 b9, keepC hHeld.2.2.2.2 b9⟩) (fun hNew => ?_)
            clear hHeld b9
            have hHeld := hNew
            clear hNew hK K
            try simp only [List.getElem_toArray, List.getElem_cons_succ, List.getElem_cons_zero, Act.put, List.setIfInBounds_toArray, List.set_cons_zero, List.set_cons_succ]
            refine wpAnyH_ready (rs := [8]) (by kernel_rfl) (by simp) ?_
            refine AllReadyH.cons rfl (fun K hK => ?_) ?zt28
            case zt28 => exact AllReadyH.nil
            go_simp
            refine (HA'.out _ (bt hcw.out hHeld.1)).mono ?_
            rintro e w9 ⟨rfl, b9⟩
            refine hK.out _ _ (⟨hHeld.1.trans (b9.mono hHeld.1.size), keepC hHeld.2.1 b9, keepC hHeld.2.2.1 b9, keepC hHeld.2.2.2.1 b9, keepC hHeld.2.2.2.2 b9⟩) (fun hNew => ?_)
            clear hHeld b9
            have hHeld := hNew
            clear hNew hK K
            try simp only [List.getElem_toArray, List.getElem_cons_succ, List.getElem_cons_zero, Act.put, List.setIfInBounds_toArray, List.set_cons_zero, List.set_cons_succ]
            refine wpAnyH_take (i := 9) (v := ?vt29) rfl (by kernel_rfl) (by kernel_rfl) (by kernel_rfl) (fun _ _ _ h => h) (Or.inl ⟨by rfl, ?yt29⟩) (by assumption) ?_
            case yt29 => intro w hSw; (try dsimp only at hSw); go_simp <;> with_reducible rfl
            try simp only [List.getElem_toArray, List.getElem_cons_succ, List.getElem_cons_zero, Act.put, List.setIfInBounds_toArray, List.set_cons_zero, List.set_cons_succ]
            refine wpAnyH_take (i := 10) (v := ?vt210) rfl (by kernel_rfl) (by kernel_rfl) (by kernel_rfl) (fun _ _ _ h => h) (Or.inl ⟨by rfl, ?yt210⟩) (by assumption) ?_
            case yt210 => intro w hSw; (try dsimp only at hSw); go_simp <;> with_reducible rfl
            try simp only [List.getElem_toArray, List.getElem_cons_succ, List.getElem_cons_zero, Act.put, List.setIfInBounds_toArray, List.set_cons_zero, List.set_cons_succ]
            refine wpAnyH_take (i := 11) (v := ?vt211) rfl (by kernel_rfl) (by kernel_rfl) (by kernel_rfl) (fun _ _ _ h => h) (Or.inl ⟨by rfl, ?yt211⟩) (by assumption) ?_
            case yt211 => intro w hSw; (try dsimp only at hSw); go_simp <;> with_reducible rfl
            try simp only [List.getElem_toArray, List.getElem_cons_succ, List.getElem_cons_zero, Act.put, List.setIfInBounds_toArray, List.set_cons_zero, List.set_cons_succ]
            refine wpAnyH_take (i := 12) (v := ?vt212) rfl (by kernel_rfl) (by kernel_rfl) (by kernel_rfl) (fun _ _ _ h => h) (Or.inl ⟨by rfl, ?yt212⟩) (by assumption) ?_
            case yt212 => intro w hSw; (try dsimp only at hSw); go_simp <;> with_reducible rfl
            try simp only [List.getElem_toArray, List.getElem_cons_succ, List.getElem_cons_zero, Act.put, List.setIfInBounds_toArray, List.set_cons_zero, List.set_cons_succ]
            refine wpAnyH_take (i := 13) (v := ?vt213) rfl (by kernel_rfl) (by kernel_rfl) (by kernel_rfl) (fun _ _ _ h => h) (Or.inl ⟨by rfl, ?yt213⟩) (by assumption) ?_
            case yt213 => intro w hSw; (try dsimp only at hSw); go_simp <;> with_reducible rfl
            try simp only [List.getElem_toArray, List.getElem_cons_succ, List.getElem_cons_zero, Act.put, List.setIfInBounds_toArray, List.set_cons_zero, List.set_cons_succ]
            refine wpAnyH_take (i := 14) (v := ?vt214) rfl (by kernel_rfl) (by kernel_rfl) (by kernel_rfl) (fun _ _ _ h => h) (Or.inl ⟨by rfl, ?yt214⟩) (by assumption) ?_
            case yt214 => intro w hSw; (try dsimp only at hSw); go_simp <;> with_reducible rfl
            try simp only [List.getElem_toArray, List.getElem_cons_succ, List.getElem_cons_zero, Act.put, List.setIfInBounds_toArray, List.set_cons_zero, List.set_cons_succ]
            refine wpAnyH_take (i := 15) (v := ?vt215) rfl (by kernel_rfl) (by kernel_rfl) (by kernel_rfl) (fun _ _ _ h => h) (Or.inl ⟨by rfl, ?yt215⟩) (by assumption) ?_
            case yt215 => intro w hSw; (try dsimp only at hSw); go_simp <;> with_reducible rfl
            try simp only [List.getElem_toArray, List.getElem_cons_succ, List.getElem_cons_zero, Act.put, List.setIfInBounds_toArray, List.set_cons_zero, List.set_cons_succ]
            refine wpAnyH_take (i := 16) (v := ?vt216) rfl (by kernel_rfl) (by kernel_rfl) (by kernel_rfl) (fun _ _ _ h => h) (Or.inl ⟨by rfl, ?yt216⟩) (by assumption) ?_
            case yt216 => intro w hSw; (try dsimp only at hSw); go_simp <;> with_reducible rfl
            try simp only [List.getElem_toArray, List.getElem_cons_succ, List.getElem_cons_zero, Act.put, List.setIfInBounds_toArray, List.set_cons_zero, List.set_cons_succ]
            refine wpAnyH_done (by kernel_rfl) ?_ _
            go_wp2_with fail
            go_meet
            exact ⟨rfl, Lib.hid hHeld.1⟩
        · obtain rfl : qp = false := by rw [hqp]; simp [e1]
          have e3 : ((it : Int) == (jt : Int)) = false := by simp; omega
          have e4 : decide ((it : Int) = (jt : Int)) = false := decide_eq_false (by omega)
          have e5 : ¬ (it : Int) = (jt : Int) := by omega
          clear hqp EP EJ ED
          refine wp_region_held_drew (S := fun w' => Below wr.heap.size wr w' ∧ w'.cell? ⟨w.heap.size, 0, none⟩ = some (.int .u32 (it : Int)) ∧ w'.cell? ⟨w.heap.size, 1, none⟩ = some (.int .u8 (ir : Int)) ∧ w'.cell? ⟨w.heap.size + 1, 0, none⟩ = some (.int .u32 (jt : Int)) ∧ w'.cell? ⟨w.heap.size + 1, 1, none⟩ = some (.int .u8 (jr : Int))) (by kernel_rfl) (⟨drew1 _, PD.out.1, PD.out.2.1, PD.out.2.2.1, PD.out.2.2.2⟩) (fun hHeld => ?_)
          refine wpAnyH_take (i := 0) (v := ?vt30) rfl (by kernel_rfl) (by kernel_rfl) (by kernel_rfl) (fun _ _ _ h => h) (Or.inl ⟨by rfl, ?yt30⟩) (by assumption) ?_
          case yt30 => intro w hSw; (try dsimp only at hSw); go_simp <;> with_reducible rfl
          try simp only [List.getElem_toArray, List.getElem_cons_zero, Act.put, List.setIfInBounds_toArray, List.set_cons_zero, List.set_cons_succ]
          refine wpAnyH_take (i := 1) (v := ?vt31) rfl (by kernel_rfl) (by kernel_rfl) (by kernel_rfl) (fun _ _ _ h => h) (Or.inl ⟨by rfl, ?yt31⟩) (by assumption) ?_
          case yt31 => intro w hSw; (try dsimp only at hSw); go_simp <;> with_reducible rfl
          try simp only [List.getElem_toArray, List.getElem_cons_succ, List.getElem_cons_zero, Act.put, List.setIfInBounds_toArray, List.set_cons_zero, List.set_cons_succ]
          refine wpAnyH_take (i := 2) (v := ?vt32) rfl (by kernel_rfl) (by kernel_rfl) (by kernel_rfl) (fun _ _ _ h => h) (Or.inl ⟨by rfl, ?yt32⟩) (by assumption) ?_
          case yt32 => intro w hSw; (try dsimp only at hSw); go_simp <;> with_reducible rfl
          try simp only [List.getElem_toArray, List.getElem_cons_succ, List.getElem_cons_zero, Act.put, List.setIfInBounds_toArray, List.set_cons_zero, List.set_cons_succ]
          refine wpAnyH_take (i := 3) (v := ?vt33) rfl (by kernel_rfl) (by kernel_rfl) (by kernel_rfl) (fun _ _ _ h => h) (Or.inl ⟨by rfl, ?yt33⟩) (by assumption) ?_
          case yt33 => intro w hSw; (try dsimp only at hSw); go_simp <;> with_reducible rfl
          try simp only [List.getElem_toArray, List.getElem_cons_succ, List.getElem_cons_zero, Act.put, List.setIfInBounds_toArray, List.set_cons_zero, List.set_cons_succ]
          refine wpAnyH_take (i := 4) (v := ?vt34) rfl (by kernel_rfl) (by kernel_rfl) (by kernel_rfl) (fun _ _ _ h => h) (Or.inl ⟨by rfl, ?yt34⟩) (by assumption) ?_
          case yt34 => intro w hSw; (try dsimp only at hSw); go_simp <;> with_reducible rfl
          try simp only [List.getElem_toArray, List.getElem_cons_succ, List.getElem_cons_zero, Act.put, List.setIfInBounds_toArray, List.set_cons_zero, List.set_cons_succ]
          refine wpAnyH_take (i := 6) (v := ?vt36) rfl (by kernel_rfl) (by kernel_rfl) (by kernel_rfl) (fun _ _ _ h => h) (Or.inl ⟨by rfl, ?yt36⟩) (by assumption) ?_
          case yt36 => intro w hSw; (try dsimp only at hSw); go_simp <;> with_reducible rfl
          try simp only [List.getElem_toArray, List.getElem_cons_succ, List.getElem_cons_zero, Act.put, List.setIfInBounds_toArray, List.set_cons_zero, List.set_cons_succ]
          refine wpAnyH_take (i := 7) (v := ?vt37) rfl (by kernel_rfl) (by kernel_rfl) (by kernel_rfl) (fun _ _ _ h => h) (Or.inl ⟨by rfl, ?yt37⟩) (by assumption) ?_
          case yt37 => intro w hSw; (try dsimp only at hSw); go_simp <;> with_reducible rfl
          try simp only [List.getElem_toArray, List.getElem_cons_succ, List.getElem_cons_zero, Act.put, List.setIfInBounds_toArray, List.set_cons_zero, List.set_cons_succ]
          refine wpAnyH_ready (rs := [5]) (by kernel_rfl) (by simp) ?_
          refine AllReadyH.cons rfl (fun K hK => ?_) ?zt35
          case zt35 => exact AllReadyH.nil
          go_simp
          refine (HP'.out _ (bt hcw.out hHeld.1)).mono ?_
          rintro e w9 ⟨rfl, b9⟩
          refine hK.out _ _ (⟨hHeld.1.trans (b9.mono hHeld.1.size), keepC hHeld.2.1 b9, keepC hHeld.2.2.1 b9, keepC hHeld.2.2.2.1 b9, keepC hHeld.2.2.2.2 b9⟩) (fun hNew => ?_)
          clear hHeld b9
          have hHeld := hNew
          clear hNew hK K
          try simp only [List.getElem_toArray, List.getElem_cons_succ, List.getElem_cons_zero, Act.put, List.setIfInBounds_toArray, List.set_cons_zero, List.set_cons_succ]
          refine wpAnyH_ready (rs := [8]) (by kernel_rfl) (by simp) ?_
          refine AllReadyH.cons rfl (fun K hK => ?_) ?zt38
          case zt38 => exact AllReadyH.nil
          go_simp
          refine (HA'.out _ (bt hcw.out hHeld.1)).mono ?_
          rintro e w9 ⟨rfl, b9⟩
          refine hK.out _ _ (⟨hHeld.1.trans (b9.mono hHeld.1.size), keepC hHeld.2.1 b9, keepC hHeld.2.2.1 b9, keepC hHeld.2.2.2.1 b9, keepC hHeld.2.2.2.2 b9⟩) (fun hNew => ?_)
          clear hHeld b9
          have hHeld := hNew
          clear hNew hK K
          try simp only [List.getElem_toArray, List.getElem_cons_succ, List.getElem_cons_zero, Act.put, List.setIfInBounds_toArray, List.set_cons_zero, List.set_cons_succ]
          refine wpAnyH_take (i := 9) (v := ?vt39) rfl (by kernel_rfl) (by kernel_rfl) (by kernel_rfl) (fun _ _ _ h => h) (Or.inl ⟨by rfl, ?yt39⟩) (by assumption) ?_
          case yt39 => intro w hSw; (try dsimp only at hSw); go_simp <;> with_reducible rfl
          try simp only [List.getElem_toArray, List.getElem_cons_succ, List.getElem_cons_zero, Act.put, List.setIfInBounds_toArray, List.set_cons_zero, List.set_cons_succ]
          refine wpAnyH_take (i := 10) (v := ?vt310) rfl (by kernel_rfl) (by kernel_rfl) (by kernel_rfl) (fun _ _ _ h => h) (Or.inl ⟨by rfl, ?yt310⟩) (by assumption) ?_
          case yt310 => intro w hSw; (try dsimp only at hSw); go_simp <;> with_reducible rfl
          try simp only [List.getElem_toArray, List.getElem_cons_succ, List.getElem_cons_zero, Act.put, List.setIfInBounds_toArray, List.set_cons_zero, List.set_cons_succ]
          refine wpAnyH_take (i := 11) (v := ?vt311) rfl (by kernel_rfl) (by kernel_rfl) (by kernel_rfl) (fun _ _ _ h => h) (Or.inl ⟨by rfl, ?yt311⟩) (by assumption) ?_
          case yt311 => intro w hSw; (try dsimp only at hSw); go_simp <;> with_reducible rfl
          try simp only [List.getElem_toArray, List.getElem_cons_succ, List.getElem_cons_zero, Act.put, List.setIfInBounds_toArray, List.set_cons_zero, List.set_cons_succ]
          refine wpAnyH_take (i := 12) (v := ?vt312) rfl (by kernel_rfl) (by kernel_rfl) (by kernel_rfl) (fun _ _ _ h => h) (Or.inl ⟨by rfl, ?yt312⟩) (by assumption) ?_
          case yt312 => intro w hSw; (try dsimp only at hSw); go_simp <;> with_reducible rfl
          try simp only [List.getElem_toArray, List.getElem_cons_succ, List.getElem_cons_zero, Act.put, List.setIfInBounds_toArray, List.set_cons_zero, List.set_cons_succ]
          refine wpAnyH_take (i := 13) (v := ?vt313) rfl (by kernel_rfl) (by kernel_rfl) (by kernel_rfl) (fun _ _ _ h => h) (Or.inl ⟨by rfl, ?yt313⟩) (by assumption) ?_
          case yt313 => intro w hSw; (try dsimp only at hSw); go_simp <;> with_reducible rfl
          try simp only [List.getElem_toArray, List.getElem_cons_succ, List.getElem_cons_zero, Act.put, List.setIfInBounds_toArray, List.set_cons_zero, List.set_cons_succ]
          refine wpAnyH_take (i := 14) (v := ?vt314) rfl (by kernel_rfl) (by kernel_rfl) (by kernel_rfl) (fun _ _ _ h => h) (Or.inl ⟨by rfl, ?yt314⟩) (by assumption) ?_
          case yt314 => intro w hSw; (try dsimp only at hSw); go_simp <;> with_reducible rfl
          try simp only [List.getElem_toArray, List.getElem_cons_succ, List.getElem_cons_zero, Act.put, List.setIfInBounds_toArray, List.set_cons_zero, List.set_cons_succ]
          refine wpAnyH_take (i := 15) (v := ?vt315) rfl (by kernel_rfl) (by kernel_rfl) (by kernel_rfl) (fun _ _ _ h => h) (Or.inl ⟨by rfl, ?yt315⟩) (by assumption) ?_
          case yt315 => intro w hSw; (try dsimp only at hSw); go_simp <;> with_reducible rfl
          try simp only [List.getElem_toArray, List.getElem_cons_succ, List.getElem_cons_zero, Act.put, List.setIfInBounds_toArray, List.set_cons_zero, List.set_cons_succ]
          refine wpAnyH_take (i := 16) (v := ?vt316) rfl (by kernel_rfl) (by kernel_rfl) (by kernel_rfl) (fun _ _ _ h => h) (Or.inl ⟨by rfl, ?yt316⟩) (by assumption) ?_
          case yt316 => intro w hSw; (try dsimp only at hSw); go_simp <;> with_reducible rfl
          try simp only [List.getElem_toArray, List.getElem_cons_succ, List.getElem_cons_zero, Act.put, List.setIfInBounds_toArray, List.set_cons_zero, List.set_cons_succ]
          refine wpAnyH_done (by kernel_rfl) ?_ _
          go_wp2_with fail
          go_meet
          exact ⟨rfl, Lib.hid hHeld.1⟩
      · obtain rfl : qp = true := by rw [hqp]; simp
        clear hqp EP EJ ED
        refine wp_region_held_drew (S := fun w' => Below wr.heap.size wr w' ∧ w'.cell? ⟨w.heap.size, 0, none⟩ = some (.int .u32 (it : Int)) ∧ w'.cell? ⟨w.heap.size, 1, none⟩ = some (.int .u8 (ir : Int)) ∧ w'.cell? ⟨w.heap.size + 1, 0, none⟩ = some (.int .u32 (jt : Int)) ∧ w'.cell? ⟨w.heap.size + 1, 1, none⟩ = some (.int .u8 (jr : Int))) (by kernel_rfl) (⟨drew1 _, PD.out.1, PD.out.2.1, PD.out.2.2.1, PD.out.2.2.2⟩) (fun hHeld => ?_)
        refine wpAnyH_take (i := 0) (v := ?vt40) rfl (by kernel_rfl) (by kernel_rfl) (by kernel_rfl) (fun _ _ _ h => h) (Or.inl ⟨by rfl, ?yt40⟩) (by assumption) ?_
        case yt40 => intro w hSw; (try dsimp only at hSw); go_simp <;> with_reducible rfl
        try simp only [List.getElem_toArray, List.getElem_cons_zero, Act.put, List.setIfInBounds_toArray, List.set_cons_zero, List.set_cons_succ]
        refine wpAnyH_take (i := 1) (v := ?vt41) rfl (by kernel_rfl) (by kernel_rfl) (by kernel_rfl) (fun _ _ _ h => h) (Or.inl ⟨by rfl, ?yt41⟩) (by assumption) ?_
        case yt41 => intro w hSw; (try dsimp only at hSw); go_simp <;> with_reducible rfl
        try simp only [List.getElem_toArray, List.getElem_cons_succ, List.getElem_cons_zero, Act.put, List.setIfInBounds_toArray, List.set_cons_zero, List.set_cons_succ]
        refine wpAnyH_take (i := 2) (v := ?vt42) rfl (by kernel_rfl) (by kernel_rfl) (by kernel_rfl) (fun _ _ _ h => h) (Or.inl ⟨by rfl, ?yt42⟩) (by assumption) ?_
        case yt42 => intro w hSw; (try dsimp only at hSw); go_simp <;> with_reducible rfl
        try simp only [List.getElem_toArray, List.getElem_cons_succ, List.getElem_cons_zero, Act.put, List.setIfInBounds_toArray, List.set_cons_zero, List.set_cons_succ]
        refine wpAnyH_take (i := 3) (v := ?vt43) rfl (by kernel_rfl) (by kernel_rfl) (by kernel_rfl) (fun _ _ _ h => h) (Or.inl ⟨by rfl, ?yt43⟩) (by assumption) ?_
        case yt43 => intro w hSw; (try dsimp only at hSw); go_simp <;> with_reducible rfl
        try simp only [List.getElem_toArray, List.getElem_cons_succ, List.getElem_cons_zero, Act.put, List.setIfInBounds_toArray, List.set_cons_zero, List.set_cons_succ]
        refine wpAnyH_take (i := 4) (v := ?vt44) rfl (by kernel_rfl) (by kernel_rfl) (by kernel_rfl) (fun _ _ _ h => h) (Or.inl ⟨by rfl, ?yt44⟩) (by assumption) ?_
        case yt44 => intro w hSw; (try dsimp only at hSw); go_simp <;> with_reducible rfl
        try simp only [List.getElem_toArray, List.getElem_cons_succ, List.getElem_cons_zero, Act.put, List.setIfInBounds_toArray, List.set_cons_zero, List.set_cons_succ]
        refine wpAnyH_take (i := 6) (v := ?vt46) rfl (by kernel_rfl) (by kernel_rfl) (by kernel_rfl) (fun _ _ _ h => h) (Or.inl ⟨by rfl, ?yt46⟩) (by assumption) ?_
        case yt46 => intro w hSw; (try dsimp only at hSw); go_simp <;> with_reducible rfl
        try simp only [List.getElem_toArray, List.getElem_cons_succ, List.getElem_cons_zero, Act.put, List.setIfInBounds_toArray, List.set_cons_zero, List.set_cons_succ]
        refine wpAnyH_take (i := 7) (v := ?vt47) rfl (by kernel_rfl) (by kernel_rfl) (by kernel_rfl) (fun _ _ _ h => h) (Or.inl ⟨by rfl, ?yt47⟩) (by assumption) ?_
        case yt47 => intro w hSw; (try dsimp only at hSw); go_simp <;> with_reducible rfl
        try simp only [List.getElem_toArray, List.getElem_cons_succ, List.getElem_cons_zero, Act.put, List.setIfInBounds_toArray, List.set_cons_zero, List.set_cons_succ]
        refine wpAnyH_ready (rs := [5]) (by kernel_rfl) (by simp) ?_
        refine AllReadyH.cons rfl (fun K hK => ?_) ?zt45
        case zt45 => exact AllReadyH.nil
        go_simp
        refine (HP'.out _ (bt hcw.out hHeld.1)).mono ?_
        rintro e w9 ⟨rfl, b9⟩
        refine hK.out _ _ (⟨hHeld.1.trans (b9.mono hHeld.1.size), keepC hHeld.2.1 b9, keepC hHeld.2.2.1 b9, keepC hHeld.2.2.2.1 b9, keepC hHeld.2.2.2.2 b9⟩) (fun hNew => ?_)
        clear hHeld b9
        have hHeld := hNew
        clear hNew hK K
        try simp only [List.getElem_toArray, List.getElem_cons_succ, List.getElem_cons_zero, Act.put, List.setIfInBounds_toArray, List.set_cons_zero, List.set_cons_succ]
        refine wpAnyH_ready (rs := [8]) (by kernel_rfl) (by simp) ?_
        refine AllReadyH.cons rfl (fun K hK => ?_) ?zt48
        case zt48 => exact AllReadyH.nil
        go_simp
        refine (HA'.out _ (bt hcw.out hHeld.1)).mono ?_
        rintro e w9 ⟨rfl, b9⟩
        refine hK.out _ _ (⟨hHeld.1.trans (b9.mono hHeld.1.size), keepC hHeld.2.1 b9, keepC hHeld.2.2.1 b9, keepC hHeld.2.2.2.1 b9, keepC hHeld.2.2.2.2 b9⟩) (fun hNew => ?_)
        clear hHeld b9
        have hHeld := hNew
        clear hNew hK K
        try simp only [List.getElem_toArray, List.getElem_cons_succ, List.getElem_cons_zero, Act.put, List.setIfInBounds_toArray, List.set_cons_zero, List.set_cons_succ]
        refine wpAnyH_take (i := 9) (v := ?vt49) rfl (by kernel_rfl) (by kernel_rfl) (by kernel_rfl) (fun _ _ _ h => h) (Or.inl ⟨by rfl, ?yt49⟩) (by assumption) ?_
        case yt49 => intro w hSw; (try dsimp only at hSw); go_simp <;> with_reducible rfl
        try simp only [List.getElem_toArray, List.getElem_cons_succ, List.getElem_cons_zero, Act.put, List.setIfInBounds_toArray, List.set_cons_zero, List.set_cons_succ]
        refine wpAnyH_take (i := 10) (v := undef) rfl (by kernel_rfl) (by kernel_rfl) (by kernel_rfl) (fun _ _ _ h => h) (Or.inr ⟨by rfl, rfl⟩) (by assumption) ?_
        try simp only [List.getElem_toArray, List.getElem_cons_succ, List.getElem_cons_zero, Act.put, List.setIfInBounds_toArray, List.set_cons_zero, List.set_cons_succ]
        refine wpAnyH_take (i := 11) (v := undef) rfl (by kernel_rfl) (by kernel_rfl) (by kernel_rfl) (fun _ _ _ h => h) (Or.inr ⟨by rfl, rfl⟩) (by assumption) ?_
        try simp only [List.getElem_toArray, List.getElem_cons_succ, List.getElem_cons_zero, Act.put, List.setIfInBounds_toArray, List.set_cons_zero, List.set_cons_succ]
        refine wpAnyH_take (i := 12) (v := undef) rfl (by kernel_rfl) (by kernel_rfl) (by kernel_rfl) (fun _ _ _ h => h) (Or.inr ⟨by rfl, rfl⟩) (by assumption) ?_
        try simp only [List.getElem_toArray, List.getElem_cons_succ, List.getElem_cons_zero, Act.put, List.setIfInBounds_toArray, List.set_cons_zero, List.set_cons_succ]
        refine wpAnyH_take (i := 13) (v := ?vt413) rfl (by kernel_rfl) (by kernel_rfl) (by kernel_rfl) (fun _ _ _ h => h) (Or.inl ⟨by rfl, ?yt413⟩) (by assumption) ?_
        case yt413 => intro w hSw; (try dsimp only at hSw); go_simp <;> with_reducible rfl
        try simp only [List.getElem_toArray, List.getElem_cons_succ, List.getElem_cons_zero, Act.put, List.setIfInBounds_toArray, List.set_cons_zero, List.set_cons_succ]
        refine wpAnyH_take (i := 14) (v := ?vt414) rfl (by kernel_rfl) (by kernel_rfl) (by kernel_rfl) (fun _ _ _ h => h) (Or.inl ⟨by rfl, ?yt414⟩) (by assumption) ?_
        case yt414 => intro w hSw; (try dsimp only at hSw); go_simp <;> with_reducible rfl
        try simp only [List.getElem_toArray, List.getElem_cons_succ, List.getElem_cons_zero, Act.put, List.setIfInBounds_toArray, List.set_cons_zero, List.set_cons_succ]
        refine wpAnyH_take (i := 15) (v := ?vt415) rfl (by kernel_rfl) (by kernel_rfl) (by kernel_rfl) (fun _ _ _ h => h) (Or.inl ⟨by rfl, ?yt415⟩) (by assumption) ?_
        case yt415 => intro w hSw; (try dsimp only at hSw); go_simp <;> with_reducible rfl
        try simp only [List.getElem_toArray, List.getElem_cons_succ, List.getElem_cons_zero, Act.put, List.setIfInBounds_toArray, List.set_cons_zero, List.set_cons_succ]
        refine wpAnyH_take (i := 16) (v := ?vt416) rfl (by kernel_rfl) (by kernel_rfl) (by kernel_rfl) (fun _ _ _ h => h) (Or.inl ⟨by rfl, ?yt416⟩) (by assumption) ?_
        case yt416 => intro w hSw; (try dsimp only at hSw); go_simp <;> with_reducible rfl
        try simp only [List.getElem_toArray, List.getElem_cons_succ, List.getElem_cons_zero, Act.put, List.setIfInBounds_toArray, List.set_cons_zero, List.set_cons_succ]
        refine wpAnyH_done (by kernel_rfl) ?_ _
        go_wp2_with fail
        go_meet
        exact ⟨rfl, Lib.hid hHeld.1⟩
  obtain ⟨rfl, hcx⟩ := hcut
  have C5 := Lib.hid (bt hcw.out hcx.out)
  have B5 := Lib.hid (bt B4.out C5.out)
  clear hcw hcx HJ' HD' HP' HA' HB' PC PD EJ ED B4
  go_wp2_with fail
  refine (CJ'.out _ C5.out).mono ?_
  rintro e w6 ⟨rfl, b6⟩
  have C6 := Lib.hid (bt C5.out b6)
  have B6 := Lib.hid (bt B5.out b6)
  clear b6
  go_wp2_with fail
  refine (CD'.out _ C6.out).mono ?_
  rintro e w7 ⟨rfl, b7⟩
  have B7 := Lib.hid (bt B6.out b7)
  clear b7
  rcases EP.out with rfl | ⟨rfl, -⟩
  · go_wp2
    go_ret
    exact ⟨rfl, B7.out⟩
  · go_wp2
    go_ret
    exact ⟨rfl, B7.out⟩
end Go.Proofs.Ytinglfhndlklaaa.Clocks
