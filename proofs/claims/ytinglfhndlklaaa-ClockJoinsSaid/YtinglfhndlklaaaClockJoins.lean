/- The law ClockJoins: its walk. Conditions: the slices' cells are replicas' spans; no slice of spans takes more than 2^47 bytes. -/
import Derived.Test.YtinglfhndlklaaaClockAlive
import Derived.Test.YtinglfhndlklaaaClockCode5
import Derived.Test.YtinglfhndlklaaaClockCode6
namespace Go.Proofs.Ytinglfhndlklaaa.Clocks
open Go.RowKit Go.Proofs.Ytinglfhndlklaaa.Spans
attribute [local go_sem ↓] Go.wp_at_zero Go.wp_at_succ

theorem top_is {c : List Tm} {k : Int} (h : (topCC c : Int) = k) (W : World) (v : Value) (hv : Tms W v c) : Calls Try.prog 18 #[v] W fun e w' => e = .returned (.int .u32 k) ∧ Below W.heap.size W w' := by
  rw [← h]; exact cTop_any hv
theorem count_is {c : List Tm} {k : Int} (h : (countC c : Int) = k) (W : World) (v : Value) (hv : Tms W v c) : Calls Try.prog 19 #[v] W fun e w' => e = .returned (.int .i64 k) ∧ Below W.heap.size W w' := by
  rw [← h]; exact cCount_any hv
theorem same_lit {c : List Tm} (W : World) (v u : Value) (hv : Tms W v c) (hu : Tms W u c) : Calls Try.prog 36 #[v, u] W fun e w' => e = .returned (.bool true) ∧ Below W.heap.size W w' := by
  have := cSame_any hv hu
  rwa [decide_eq_true rfl] at this
theorem joinsC_yes {a b : List Tm} (ha : mayC a = true) (hb : mayC b = true) : joinsC a b = (bothC a b, 0) := if_pos ⟨ha, hb⟩
theorem leftsC_yes {a b : List Tm} (ha : mayC a = true) (hb : mayC b = true) : leftsC a b = (leftC a b, 0) := if_pos ⟨ha, hb⟩
theorem countC_yes {a : List Tm} (ha : mayC a = true) : countC a = manyC a := if_pos ha
theorem topCC_yes {a : List Tm} (ha : mayC a = true) : topCC a = topC a := if_pos ha
theorem few_both {a b : List Tm} (ha : Cok a) (hb : Cok b) (h0 : tot a ≤ 300) (h1 : tot b ≤ 300) : Few (bothC a b) b := fun r => by
  have h2 := both_tot ha hb r
  have h3 := spn_tot b r
  omega
theorem few_left {a b : List Tm} (ha : Cok a) (hb : Cok b) (h0 : tot a ≤ 300) (h1 : tot b ≤ 300) : Few (leftC a b) b := fun r => by
  have h2 := left_tot ha hb r
  have h3 := spn_tot b r
  omega
/-- All that the walk asks of two clocks that may be. -/
theorem joins_facts {a b : List Tm} (ha : mayC a = true) (hb : mayC b = true) (h0 : tot a ≤ 300) (h1 : tot b ≤ 300) : ∃ (J D : List Tm) (md mb ta tb : Nat), md ≤ 8589934600 ∧ mb ≤ 8589934600 ∧
    (∀ W v u, Tms W v a → Tms W u b → Calls Try.prog 9 #[v, u] W (DoneC J 0 W)) ∧ (∀ W v u, Tms W v b → Tms W u a → Calls Try.prog 9 #[v, u] W (DoneC J 0 W)) ∧
    (∀ W v u, Tms W v J → Tms W u b → Calls Try.prog 9 #[v, u] W (DoneC J 0 W)) ∧ (∀ W v u, Tms W v D → Tms W u b → Calls Try.prog 9 #[v, u] W (DoneC J 0 W)) ∧
    (∀ W v u, Tms W v a → Tms W u b → Calls Try.prog 11 #[v, u] W (DoneC D 0 W)) ∧
    (∀ W v, Tms W v J → Calls Try.prog 19 #[v] W fun e w' => e = .returned (.int .i64 ((md : Int) + (mb : Int))) ∧ Below W.heap.size W w') ∧
    (∀ W v, Tms W v D → Calls Try.prog 19 #[v] W fun e w' => e = .returned (.int .i64 (md : Int)) ∧ Below W.heap.size W w') ∧
    (∀ W v, Tms W v b → Calls Try.prog 19 #[v] W fun e w' => e = .returned (.int .i64 (mb : Int)) ∧ Below W.heap.size W w') ∧
    (∀ W v, Tms W v J → Calls Try.prog 18 #[v] W fun e w' => e = .returned (.int .u32 ((max ta tb : Nat) : Int)) ∧ Below W.heap.size W w') ∧
    (∀ W v, Tms W v a → Calls Try.prog 18 #[v] W fun e w' => e = .returned (.int .u32 (ta : Int)) ∧ Below W.heap.size W w') ∧
    (∀ W v, Tms W v b → Calls Try.prog 18 #[v] W fun e w' => e = .returned (.int .u32 (tb : Int)) ∧ Below W.heap.size W w') := by
  have ca := (mayC_iff a).1 ha
  have cb := (mayC_iff b).1 hb
  have cj := bothC_ok ca cb (few_two h0 h1)
  have cd := leftC_ok ca cb (few_two h0 h1)
  have mj := (mayC_iff _).2 cj
  have md := (mayC_iff _).2 cd
  refine ⟨bothC a b, leftC a b, manyC (leftC a b), manyC b, topC a, topC b, manyC_le cd, manyC_le cb, ?_, ?_, ?_, ?_, ?_, ?_, ?_, ?_, ?_, ?_, ?_⟩
  · exact join_lit (few_two h0 h1) (joinsC_yes ha hb)
  · exact join_lit (few_two h1 h0) (by rw [joinsC_yes hb ha, bothC_comm cb ca])
  · exact join_lit (few_both ca cb h0 h1) (by rw [joinsC_yes mj hb, bothC_twice ca cb])
  · exact join_lit (few_left ca cb h0 h1) (by rw [joinsC_yes md hb, bothC_left ca cb])
  · exact less_lit (few_two h0 h1) (leftsC_yes ha hb)
  · exact fun W v hv => count_is (by rw [countC_yes mj, manyC_parts ca cb]; rfl) W v hv
  · exact fun W v hv => count_is (by rw [countC_yes md]) W v hv
  · exact fun W v hv => count_is (by rw [countC_yes hb]) W v hv
  · exact fun W v hv => top_is (by rw [topCC_yes mj, topC_both ca cb]) W v hv
  · exact fun W v hv => top_is (by rw [topCC_yes ha]) W v hv
  · exact fun W v hv => top_is (by rw [topCC_yes hb]) W v hv

set_option maxRecDepth 100000 in
set_option maxHeartbeats 16000000 in
theorem joins_walk (ao0 : Option Addr) (cap0 : Nat) (l0 : List Tm) (ao1 : Option Addr) (cap1 : Nat) (l1 : List Tm) (w : World)
    (hr0 : Tms w (.slice ao0 l0.length cap0) l0) (hr1 : Tms w (.slice ao1 l1.length cap1) l1) (hz0 : ∀ x ∈ l0, x.2.length ≤ 17592186044416) (hz1 : ∀ x ∈ l1, x.2.length ≤ 17592186044416) :
    Calls Try.prog 7 #[.slice ao0 l0.length cap0, .slice ao1 l1.length cap1] w fun e w' => e = .returned (.bool true) ∧ Below w.heap.size w w' := by
  have G0 : Hid (∀ W : World, Below w.heap.size w W → Calls Try.prog 21 #[.slice ao0 l0.length cap0] W fun e w' => (∃ g, e = .returned (.bool g) ∧ (g = false → l0.length ≤ 300 ∧ tot l0 ≤ 300)) ∧ W = w') := fun W hW => great_sz (hr0.keeps hW) hz0
  have G1 : Hid (∀ W : World, Below w.heap.size w W → Calls Try.prog 21 #[.slice ao1 l1.length cap1] W fun e w' => (∃ g, e = .returned (.bool g) ∧ (g = false → l1.length ≤ 300 ∧ tot l1 ≤ 300)) ∧ W = w') := fun W hW => great_sz (hr1.keeps hW) hz1
  have CK0 : Hid (∀ W : World, Below w.heap.size w W → Calls Try.prog 20 #[.slice ao0 l0.length cap0] W fun e w' => e = .returned (.int .i64 (chkC l0)) ∧ Below W.heap.size W w') := fun W hW => cCheck_any (hr0.keeps hW)
  have CK1 : Hid (∀ W : World, Below w.heap.size w W → Calls Try.prog 20 #[.slice ao1 l1.length cap1] W fun e w' => e = .returned (.int .i64 (chkC l1)) ∧ Below W.heap.size W w') := fun W hW => cCheck_any (hr1.keeps hW)
  have AL := Lib.hid alive08_any
  have H0 := Lib.hid hr0
  have H1 := Lib.hid hr1
  obtain ⟨p0, hp0⟩ : ∃ p, mayC l0 = p := ⟨_, rfl⟩
  obtain ⟨p1, hp1⟩ : ∃ p, mayC l1 = p := ⟨_, rfl⟩
  unfold chkC at CK0 CK1
  rw [hp0] at CK0
  rw [hp1] at CK1
  have HP0 := Lib.hid hp0
  have HP1 := Lib.hid hp1
  clear hr0 hr1 hz0 hz1 hp0 hp1
  obtain ⟨n0, hn0⟩ : ∃ n, n = l0.length := ⟨_, rfl⟩
  obtain ⟨n1, hn1⟩ : ∃ n, n = l1.length := ⟨_, rfl⟩
  rw [← hn0] at G0 CK0 H0 ⊢
  rw [← hn1] at G1 CK1 H1 ⊢
  clear hn0 hn1
  go_enter Try.func7, Try.ntmps7
  go_wp2_with fail
  refine (AL.out _).mono ?_
  rintro e w1 ⟨rfl, b1⟩
  have B1 := Lib.hid b1
  clear b1
  go_wp2_with fail
  refine (G0.out _ B1.out).mono ?_
  rintro e wg0 ⟨⟨g0, rfl, hg0⟩, rfl⟩
  have HG0 := Lib.hid hg0
  clear hg0
  cases g0
  case true =>
    go_wp2
    go_ret
    exact ⟨rfl, B1.out⟩
  go_wp2_with fail
  refine (G1.out _ B1.out).mono ?_
  rintro e wg1 ⟨⟨g1, rfl, hg1⟩, rfl⟩
  have HG1 := Lib.hid hg1
  clear hg1
  cases g1
  case true =>
    go_wp2
    go_ret
    exact ⟨rfl, B1.out⟩
  cases p0
  case false =>
    go_wp2_with fail
    refine (CK0.out _ B1.out).mono ?_
    rintro e wk ⟨rfl, bk⟩
    have BK := Lib.hid (bt B1.out bk)
    clear bk
    go_wp2
    go_ret
    exact ⟨rfl, BK.out⟩
  go_wp2_with fail
  refine (CK0.out _ B1.out).mono ?_
  rintro e w2 ⟨rfl, b2⟩
  have B2 := Lib.hid (bt B1.out b2)
  clear b2
  cases p1
  case false =>
    go_wp2_with fail
    refine (CK1.out _ B2.out).mono ?_
    rintro e wk ⟨rfl, bk⟩
    have BK := Lib.hid (bt B2.out bk)
    clear bk
    go_wp2
    go_ret
    exact ⟨rfl, BK.out⟩
  go_wp2_with fail
  refine (CK1.out _ B2.out).mono ?_
  rintro e w3 ⟨rfl, b3⟩
  have B3 := Lib.hid (bt B2.out b3)
  clear b3
  obtain ⟨s0, z0⟩ := HG0.out (by trivial)
  obtain ⟨s1, z1⟩ := HG1.out (by trivial)
  obtain ⟨J, D, md, mb, ta, tb, hmd, hmb, j1, j2, j3, j4, l1', c1, c2, c3, t1, t2, t3⟩ := joins_facts HP0.out HP1.out z0 z1
  obtain ⟨tj, htj⟩ : ∃ t, t = max ta tb := ⟨_, rfl⟩
  rw [← htj] at t1
  have HTJ := Lib.hid htj
  clear htj
  have Kj1 := Lib.hid j1
  have Kj2 := Lib.hid j2
  have Kj3 := Lib.hid j3
  have Kj4 := Lib.hid j4
  have Kl1' := Lib.hid l1'
  have Kc1 := Lib.hid c1
  have Kc2 := Lib.hid c2
  have Kc3 := Lib.hid c3
  have Kt1 := Lib.hid t1
  have Kt2 := Lib.hid t2
  have Kt3 := Lib.hid t3
  clear j1 j2 j3 j4 l1' c1 c2 c3 t1 t2 t3 G0 G1 CK0 CK1 HG0 HG1 HP0 HP1 s0 z0 s1 z1 AL
  go_wp2_with fail
  refine (Kj1.out _ _ _ (H0.out.keeps B3.out) (H1.out.keeps B3.out)).mono ?_
  rintro e w4 ⟨v4, rfl, o4, b4⟩
  have B4 := Lib.hid (bt B3.out b4)
  clear B3 b4
  have LA4 := Lib.hid o4.tms
  obtain ⟨s4o, s4c, rfl⟩ := o4.tms.shape
  clear o4
  obtain ⟨q4, hq4⟩ : ∃ q, q = J.length := ⟨_, rfl⟩
  rw [← hq4] at LA4 ⊢
  clear hq4
  go_wp2_with fail
  refine (Kj2.out _ _ _ (H1.out.keeps B4.out) (H0.out.keeps B4.out)).mono ?_
  rintro e w5 ⟨v5, rfl, o5, b5⟩
  have LA5 := Lib.hid (LA4.out.keeps b5)
  clear LA4
  have B5 := Lib.hid (bt B4.out b5)
  clear B4 b5
  have LB5 := Lib.hid o5.tms
  obtain ⟨s5o, s5c, rfl⟩ := o5.tms.shape
  clear o5
  obtain ⟨q5, hq5⟩ : ∃ q, q = J.length := ⟨_, rfl⟩
  rw [← hq5] at LB5 ⊢
  clear hq5
  go_wp2_with fail
  refine (Kj3.out _ _ _ LA5.out (H1.out.keeps B5.out)).mono ?_
  rintro e w6 ⟨v6, rfl, o6, b6⟩
  have LA6 := Lib.hid (LA5.out.keeps b6)
  clear LA5
  have LB6 := Lib.hid (LB5.out.keeps b6)
  clear LB5
  have B6 := Lib.hid (bt B5.out b6)
  clear B5 b6
  have LC6 := Lib.hid o6.tms
  obtain ⟨s6o, s6c, rfl⟩ := o6.tms.shape
  clear o6
  obtain ⟨q6, hq6⟩ : ∃ q, q = J.length := ⟨_, rfl⟩
  rw [← hq6] at LC6 ⊢
  clear hq6
  go_wp2_with fail
  refine (Kl1'.out _ _ _ (H0.out.keeps B6.out) (H1.out.keeps B6.out)).mono ?_
  rintro e w7 ⟨v7, rfl, o7, b7⟩
  have LA7 := Lib.hid (LA6.out.keeps b7)
  clear LA6
  have LB7 := Lib.hid (LB6.out.keeps b7)
  clear LB6
  have LC7 := Lib.hid (LC6.out.keeps b7)
  clear LC6
  have B7 := Lib.hid (bt B6.out b7)
  clear B6 b7
  have LD7 := Lib.hid o7.tms
  obtain ⟨s7o, s7c, rfl⟩ := o7.tms.shape
  clear o7
  obtain ⟨q7, hq7⟩ : ∃ q, q = D.length := ⟨_, rfl⟩
  rw [← hq7] at LD7 ⊢
  clear hq7
  go_wp2_with fail
  refine (Kj4.out _ _ _ LD7.out (H1.out.keeps B7.out)).mono ?_
  rintro e w8 ⟨v8, rfl, o8, b8⟩
  have LA8 := Lib.hid (LA7.out.keeps b8)
  clear LA7
  have LB8 := Lib.hid (LB7.out.keeps b8)
  clear LB7
  have LC8 := Lib.hid (LC7.out.keeps b8)
  clear LC7
  have LD8 := Lib.hid (LD7.out.keeps b8)
  clear LD7
  have B8 := Lib.hid (bt B7.out b8)
  clear B7 b8
  have LE8 := Lib.hid o8.tms
  obtain ⟨s8o, s8c, rfl⟩ := o8.tms.shape
  clear o8
  obtain ⟨q8, hq8⟩ : ∃ q, q = J.length := ⟨_, rfl⟩
  rw [← hq8] at LE8 ⊢
  clear hq8
  go_wp2_with fail
  refine (same_lit _ _ _ LA8.out LB8.out).mono ?_
  rintro e w9 ⟨rfl, b9⟩
  have LA9 := Lib.hid (LA8.out.keeps b9)
  clear LA8
  have LB9 := Lib.hid (LB8.out.keeps b9)
  clear LB8
  have LC9 := Lib.hid (LC8.out.keeps b9)
  clear LC8
  have LD9 := Lib.hid (LD8.out.keeps b9)
  clear LD8
  have LE9 := Lib.hid (LE8.out.keeps b9)
  clear LE8
  have B9 := Lib.hid (bt B8.out b9)
  clear B8 b9
  go_wp2_with fail
  refine (same_lit _ _ _ LA9.out LC9.out).mono ?_
  rintro e w10 ⟨rfl, b10⟩
  have LA10 := Lib.hid (LA9.out.keeps b10)
  clear LA9
  have LB10 := Lib.hid (LB9.out.keeps b10)
  clear LB9
  have LC10 := Lib.hid (LC9.out.keeps b10)
  clear LC9
  have LD10 := Lib.hid (LD9.out.keeps b10)
  clear LD9
  have LE10 := Lib.hid (LE9.out.keeps b10)
  clear LE9
  have B10 := Lib.hid (bt B9.out b10)
  clear B9 b10
  go_wp2_with fail
  refine (same_lit _ _ _ LE10.out LA10.out).mono ?_
  rintro e w11 ⟨rfl, b11⟩
  have LA11 := Lib.hid (LA10.out.keeps b11)
  clear LA10
  have LB11 := Lib.hid (LB10.out.keeps b11)
  clear LB10
  have LC11 := Lib.hid (LC10.out.keeps b11)
  clear LC10
  have LD11 := Lib.hid (LD10.out.keeps b11)
  clear LD10
  have LE11 := Lib.hid (LE10.out.keeps b11)
  clear LE10
  have B11 := Lib.hid (bt B10.out b11)
  clear B10 b11
  go_wp2_with fail
  refine (Kc1.out _ _ LA11.out).mono ?_
  rintro e w12 ⟨rfl, b12⟩
  have LA12 := Lib.hid (LA11.out.keeps b12)
  clear LA11
  have LB12 := Lib.hid (LB11.out.keeps b12)
  clear LB11
  have LC12 := Lib.hid (LC11.out.keeps b12)
  clear LC11
  have LD12 := Lib.hid (LD11.out.keeps b12)
  clear LD11
  have LE12 := Lib.hid (LE11.out.keeps b12)
  clear LE11
  have B12 := Lib.hid (bt B11.out b12)
  clear B11 b12
  go_wp2_with fail
  refine (Kc2.out _ _ LD12.out).mono ?_
  rintro e w13 ⟨rfl, b13⟩
  have LA13 := Lib.hid (LA12.out.keeps b13)
  clear LA12
  have LB13 := Lib.hid (LB12.out.keeps b13)
  clear LB12
  have LC13 := Lib.hid (LC12.out.keeps b13)
  clear LC12
  have LD13 := Lib.hid (LD12.out.keeps b13)
  clear LD12
  have LE13 := Lib.hid (LE12.out.keeps b13)
  clear LE12
  have B13 := Lib.hid (bt B12.out b13)
  clear B12 b13
  go_wp2_with fail
  refine (Kc3.out _ _ (H1.out.keeps B13.out)).mono ?_
  rintro e w14 ⟨rfl, b14⟩
  have LA14 := Lib.hid (LA13.out.keeps b14)
  clear LA13
  have LB14 := Lib.hid (LB13.out.keeps b14)
  clear LB13
  have LC14 := Lib.hid (LC13.out.keeps b14)
  clear LC13
  have LD14 := Lib.hid (LD13.out.keeps b14)
  clear LD13
  have LE14 := Lib.hid (LE13.out.keeps b14)
  clear LE13
  have B14 := Lib.hid (bt B13.out b14)
  clear B13 b14
  have hw1 : IntKind.i64.wrap ((md : Int) + (mb : Int)) = (md : Int) + (mb : Int) := IntWalk.i64_in _ (by omega)
  go_wp2_with fail
  refine (Kt1.out _ _ LA14.out).mono ?_
  rintro e w15 ⟨rfl, b15⟩
  have LA15 := Lib.hid (LA14.out.keeps b15)
  clear LA14
  have LB15 := Lib.hid (LB14.out.keeps b15)
  clear LB14
  have LC15 := Lib.hid (LC14.out.keeps b15)
  clear LC14
  have LD15 := Lib.hid (LD14.out.keeps b15)
  clear LD14
  have LE15 := Lib.hid (LE14.out.keeps b15)
  clear LE14
  have B15 := Lib.hid (bt B14.out b15)
  clear B14 b15
  go_wp2_with fail
  refine (Kt2.out _ _ (H0.out.keeps B15.out)).mono ?_
  rintro e w16 ⟨rfl, b16⟩
  have LA16 := Lib.hid (LA15.out.keeps b16)
  clear LA15
  have LB16 := Lib.hid (LB15.out.keeps b16)
  clear LB15
  have LC16 := Lib.hid (LC15.out.keeps b16)
  clear LC15
  have LD16 := Lib.hid (LD15.out.keeps b16)
  clear LD15
  have LE16 := Lib.hid (LE15.out.keeps b16)
  clear LE15
  have B16 := Lib.hid (bt B15.out b16)
  clear B15 b16
  go_wp2_with fail
  refine (Kt3.out _ _ (H1.out.keeps B16.out)).mono ?_
  rintro e w17 ⟨rfl, b17⟩
  have LA17 := Lib.hid (LA16.out.keeps b17)
  clear LA16
  have LB17 := Lib.hid (LB16.out.keeps b17)
  clear LB16
  have LC17 := Lib.hid (LC16.out.keeps b17)
  clear LC16
  have LD17 := Lib.hid (LD16.out.keeps b17)
  clear LD16
  have LE17 := Lib.hid (LE16.out.keeps b17)
  clear LE16
  have B17 := Lib.hid (bt B16.out b17)
  clear B16 b17
  clear LA17 LB17 LC17 LD17 LE17
  have hcase : (tb < ta ∧ tj = ta) ∨ (ta = tb ∧ tj = ta) ∨ (ta < tb ∧ tj = tb) := by have := HTJ.out; omega
  clear HTJ
  rcases hcase with ⟨hc, rfl⟩ | ⟨rfl, rfl⟩ | ⟨hc, rfl⟩
  · have g3 : ¬ tj < tb := by omega
    have g4 : ¬ tj ≤ tb := by omega
    go_wp2
    go_ret
    exact ⟨rfl, B17.out⟩
  · go_wp2
    go_ret
    exact ⟨rfl, B17.out⟩
  · have g3 : ¬ tj < ta := by omega
    have g4 : ¬ tj ≤ ta := by omega
    go_wp2
    go_ret
    exact ⟨rfl, B17.out⟩
end Go.Proofs.Ytinglfhndlklaaa.Clocks
