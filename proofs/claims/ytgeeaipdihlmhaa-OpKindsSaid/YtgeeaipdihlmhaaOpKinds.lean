/- OpKinds answers true, and changes nothing that was there. Conditions: none. -/
import Derived.Test.YtgeeaipdihlmhaaOpLaws
namespace Go.Proofs.Ytgeeaipdihlmhaa.Ops
open Go.RowKit Stamp Go.Proofs.Ytgeeaipdihlmhaa.Place
attribute [local go_sem ↓] Go.wp_at_zero Go.wp_at_succ

theorem last_may {l : List Run} {t r : Nat} (h : mayB l = true) (hl : lastV l = ((t : Int), (r : Int))) : may t r = true := by
  have hM := (mayB_iff l).1 h
  have ho := chain_one hM.2.2.1 (k := l.length - 1) (by have := hM.1; omega)
  unfold lastV at hl
  rw [if_pos h] at hl
  obtain ⟨x, hx⟩ : ∃ x, x = l.getD (l.length - 1) zrun := ⟨_, rfl⟩
  rw [← hx] at hl ho
  obtain ⟨h1, h2⟩ := Prod.mk.inj hl
  obtain ⟨o1, o2, o3, o4, o5, o6⟩ := ho
  rw [may_iff]
  omega
theorem last_pos {l : List Run} (h : mayB l = true) : 1 ≤ (lastV l).1 := by
  have hM := (mayB_iff l).1 h
  have ho := chain_one hM.2.2.1 (k := l.length - 1) (by have := hM.1; omega)
  unfold lastV
  rw [if_pos h]
  obtain ⟨x, hx⟩ : ∃ x, x = l.getD (l.length - 1) zrun := ⟨_, rfl⟩
  rw [← hx] at ho ⊢
  obtain ⟨o1, o2, o3, o4, o5, o6⟩ := ho
  simp only
  omega
theorem chk_at {k t r : Nat} {l : List Run} {p c : Int} (h : k < 256 ∧ t < 4294967296 ∧ r < 256) (hp : -9223372036854775808 ≤ p ∧ p ≤ 9223372036854775807) {K : Int} (hK : K = k) (hm : mayB l = true) (hc : (if (may t r && kindF k t r (lastV l).1 (lastV l).2 p) = true then 0 else 8 : Int) = c) {W : World} {v : Value} (hv : Runs W v l) :
    Calls Try.prog 18 #[.agg #[.int .u8 K, .int .u32 (t : Int), .int .u8 (r : Int), v, .int .i64 p]] W fun e w' => e = .returned (.int .i64 c) ∧ Below W.heap.size W w' := by
  subst hK
  have := oCheck_any (o := ⟨k, t, r, l, p, h.1, h.2.1, h.2.2, hp⟩) hv
  have e : chkO ⟨k, t, r, l, p, h.1, h.2.1, h.2.2, hp⟩ = c := by
    rw [← hc]
    unfold chkO mayO kindB
    simp only [hm, Bool.true_and]
  rw [e] at this
  exact this

set_option maxRecDepth 100000 in
set_option maxHeartbeats 8000000 in
theorem kinds_any {v : Value} {l : List Run} {a : Id} {w : World} (hv : Runs w v l) : Calls Try.prog 6 #[v, .agg #[.int .u32 (a.t : Int), .int .u8 (a.r : Int)]] w fun e w' => e = .returned (.bool true) ∧ Below w.heap.size w w' := by
  obtain ⟨ao, cap, rfl⟩ := hv.shape
  obtain ⟨n, hn⟩ : ∃ n, n = l.length := ⟨_, rfl⟩
  obtain ⟨t, r, ht, hr⟩ := a
  simp only
  have HV : Hid (Runs w (.slice ao n cap) l) := by rw [hn]; exact hv
  have HN := Lib.hid hn
  rw [← hn]
  have B0 : Hid (Below w.heap.size w (w.alloc (.cells #[.int .u32 (t : Int), .int .u8 (r : Int)] 27))) := (Below.refl _ _).alloc (Nat.le_refl _) _
  have P0 := Lib.hid (pair_new w (.int .u32 (t : Int)) (.int .u8 (r : Int)) 27)
  clear hv hn
  by_cases h64 : 64 < n
  · have t1 : decide ((64 : Int) < (n : Int)) = true := decide_eq_true (by omega)
    have t2 : decide (64 < n) = true := decide_eq_true h64
    go_enter Try.func6, Try.ntmps6
    go_wp2_with fail
    refine (alive09_any _).mono ?_
    rintro e w1 ⟨rfl, b1⟩
    have B1 := Lib.hid (bt B0.out b1)
    clear b1
    go_wp2
    go_ret
    exact ⟨rfl, B1.out⟩
  have t1 : decide ((64 : Int) < (n : Int)) = false := decide_eq_false (by omega)
  have t2 : decide (64 < n) = false := decide_eq_false h64
  cases hm : mayB l
  · have C : Hid (∀ W : World, Below w.heap.size w W → Calls Try.prog 25 #[.slice ao n cap] W fun e w' => e = .returned (.int .i64 8) ∧ Below W.heap.size W w') := fun W hW => check_is (HV.out.keeps hW) (by unfold Place.chk; rw [hm]; rfl)
    clear hm
    go_enter Try.func6, Try.ntmps6
    go_wp2_with fail
    refine (alive09_any _).mono ?_
    rintro e w1 ⟨rfl, b1⟩
    have B1 := Lib.hid (bt B0.out b1)
    clear b1
    go_wp2_with fail
    refine (C.out _ B1.out).mono ?_
    rintro e w2 ⟨rfl, b2⟩
    have B2 := Lib.hid (bt B1.out b2)
    clear b2
    go_wp2
    go_ret
    exact ⟨rfl, B2.out⟩
  have C : Hid (∀ W : World, Below w.heap.size w W → Calls Try.prog 25 #[.slice ao n cap] W fun e w' => e = .returned (.int .i64 0) ∧ Below W.heap.size W w') := fun W hW => check_is (HV.out.keeps hW) (by unfold Place.chk; rw [if_pos hm])
  have LA : Hid (∀ W : World, Below w.heap.size w W → Calls Try.prog 26 #[.slice ao n cap] W fun e w' => e = .returned (.agg #[.int .u32 (lastV l).1, .int .u8 (lastV l).2]) ∧ Below W.heap.size W w') := fun W hW => pLast_any (HV.out.keeps hW)
  have hcases : ∃ cm cc : Int,
      (if (may t r && kindF 2 t r (lastV l).1 (lastV l).2 0) = true then 0 else 8 : Int) = cm ∧ (if (may t r && kindF 1 t r (lastV l).1 (lastV l).2 65) = true then 0 else 8 : Int) = cm ∧
      (if (may t r && kindF 3 t r (lastV l).1 (lastV l).2 0) = true then 0 else 8 : Int) = cc ∧ (if (may t r && kindF 4 t r (lastV l).1 (lastV l).2 0) = true then 0 else 8 : Int) = cc ∧
      ((cm = 0 ∧ cc = 8 ∧ (lastV l).1 = (t : Int) ∧ (lastV l).2 = (r : Int)) ∨
       (cm = 8 ∧ (¬ (lastV l).1 = (t : Int) ∨ ((lastV l).1 = (t : Int) ∧ ¬ (lastV l).2 = (r : Int))) ∧
         ((cc = 0 ∧ (lastV l).1 < (t : Int) ∧ (t : Int) ≤ 1073741824 ∧ r < 8) ∨ (cc = 8 ∧ ¬ (lastV l).1 < (t : Int)) ∨ (cc = 8 ∧ (lastV l).1 < (t : Int) ∧ ¬ (t : Int) ≤ 1073741824) ∨ (cc = 8 ∧ (lastV l).1 < (t : Int) ∧ (t : Int) ≤ 1073741824 ∧ ¬ r < 8)))) := by
    have hp := last_pos hm
    have e1 : kindF 2 t r (lastV l).1 (lastV l).2 0 = decide (lastV l = ((t : Int), (r : Int))) := by unfold kindF; rw [if_neg (by decide), if_pos rfl, decide_eq_true rfl, Bool.and_true]
    have e2 : kindF 1 t r (lastV l).1 (lastV l).2 65 = decide (lastV l = ((t : Int), (r : Int))) := by unfold kindF; rw [if_pos rfl, show Pt.isB 65 = true by decide, Bool.and_true]
    have e3 : kindF 3 t r (lastV l).1 (lastV l).2 0 = decide ((lastV l).1 < (t : Int)) := by unfold kindF; rw [if_neg (by decide), if_neg (by decide), if_pos (by decide), decide_eq_true rfl, Bool.and_true]
    have e4 : kindF 4 t r (lastV l).1 (lastV l).2 0 = decide ((lastV l).1 < (t : Int)) := by unfold kindF; rw [if_neg (by decide), if_neg (by decide), if_pos (by decide), decide_eq_true rfl, Bool.and_true]
    rw [e1, e2, e3, e4]
    refine ⟨_, _, rfl, rfl, rfl, rfl, ?_⟩
    by_cases q : lastV l = ((t : Int), (r : Int))
    · left
      have hmay := last_may hm q
      have hq1 : (lastV l).1 = (t : Int) := by rw [q]
      have hq2 : (lastV l).2 = (r : Int) := by rw [q]
      refine ⟨?_, ?_, hq1, hq2⟩
      · rw [hmay, decide_eq_true q]; rfl
      · rw [hmay, decide_eq_false (by omega)]; rfl
    · right
      refine ⟨by rw [decide_eq_false q, Bool.and_false]; rfl, ?_, ?_⟩
      · by_cases q1 : (lastV l).1 = (t : Int)
        · exact .inr ⟨q1, fun q2 => q (Prod.ext q1 q2)⟩
        · exact .inl q1
      · by_cases q1 : (lastV l).1 < (t : Int)
        · by_cases q2 : (t : Int) ≤ 1073741824
          · by_cases q3 : r < 8
            · left
              exact ⟨by rw [may_iff.2 ⟨by omega, by omega, q3⟩, decide_eq_true q1]; rfl, q1, q2, q3⟩
            · exact .inr (.inr (.inr ⟨by rw [may_no.2 (by omega)]; rfl, q1, q2, q3⟩))
          · exact .inr (.inr (.inl ⟨by rw [may_no.2 (by omega)]; rfl, q1, q2⟩))
        · exact .inr (.inl ⟨by rw [decide_eq_false q1, Bool.and_false]; rfl, q1⟩)
  obtain ⟨cm, cc, g1, g2, g3, g4, hc⟩ := hcases
  have K2 : Hid (∀ W : World, Below w.heap.size w W → Calls Try.prog 18 #[.agg #[.int .u8 2, .int .u32 (t : Int), .int .u8 (r : Int), .slice ao n cap, .int .i64 0]] W fun e w' => e = .returned (.int .i64 cm) ∧ Below W.heap.size W w') := fun W hW => chk_at (k := 2) ⟨by decide, ht, hr⟩ (by decide) rfl hm g1 (HV.out.keeps hW)
  have K1 : Hid (∀ W : World, Below w.heap.size w W → Calls Try.prog 18 #[.agg #[.int .u8 1, .int .u32 (t : Int), .int .u8 (r : Int), .slice ao n cap, .int .i64 65]] W fun e w' => e = .returned (.int .i64 cm) ∧ Below W.heap.size W w') := fun W hW => chk_at (k := 1) ⟨by decide, ht, hr⟩ (by decide) rfl hm g2 (HV.out.keeps hW)
  have K3 : Hid (∀ W : World, Below w.heap.size w W → Calls Try.prog 18 #[.agg #[.int .u8 3, .int .u32 (t : Int), .int .u8 (r : Int), .slice ao n cap, .int .i64 0]] W fun e w' => e = .returned (.int .i64 cc) ∧ Below W.heap.size W w') := fun W hW => chk_at (k := 3) ⟨by decide, ht, hr⟩ (by decide) rfl hm g3 (HV.out.keeps hW)
  have K4 : Hid (∀ W : World, Below w.heap.size w W → Calls Try.prog 18 #[.agg #[.int .u8 4, .int .u32 (t : Int), .int .u8 (r : Int), .slice ao n cap, .int .i64 0]] W fun e w' => e = .returned (.int .i64 cc) ∧ Below W.heap.size W w') := fun W hW => chk_at (k := 4) ⟨by decide, ht, hr⟩ (by decide) rfl hm g4 (HV.out.keeps hW)
  obtain ⟨lt, hlt⟩ : ∃ x, x = (lastV l).1 := ⟨_, rfl⟩
  obtain ⟨lr, hlr⟩ : ∃ x, x = (lastV l).2 := ⟨_, rfl⟩
  rw [← hlt, ← hlr] at LA hc
  clear g1 g2 g3 g4 hm hlt hlr HV HN
  rcases hc with ⟨rfl, rfl, rfl, rfl⟩ | ⟨rfl, h1, h2⟩
  · have q1 : decide ((t : Int) < (t : Int)) = false := decide_eq_false (by omega)
    have q2 : decide (t < t) = false := decide_eq_false (by omega)
    go_enter Try.func6, Try.ntmps6
    go_wp2_with fail
    refine (alive09_any _).mono ?_
    rintro e w1 ⟨rfl, b1⟩
    have B1 := Lib.hid (bt B0.out b1)
    have P1 := Lib.hid (P0.out.keeps b1)
    clear b1
    go_wp2_with fail
    refine (C.out _ B1.out).mono ?_
    rintro e w2 ⟨rfl, b2⟩
    have B2 := Lib.hid (bt B1.out b2)
    have P2 := Lib.hid (P1.out.keeps b2)
    clear b2
    go_wp2_with fail
    refine (LA.out _ B2.out).mono ?_
    rintro e w3 ⟨rfl, b3⟩
    have B3 := Lib.hid (bt B2.out b3)
    have P3 := Lib.hid (P2.out.keeps b3)
    have P4 := Lib.hid (fun o : Obj => P3.out.alloc o)
    have B4 := Lib.hid (fun o : Obj => B3.out.alloc B3.out.size o)
    have L4 := Lib.hid (fun c0 c1 : Value => pair_new w3 c0 c1 27)
    clear b3
    obtain ⟨z0, c0, c1⟩ := P3.out
    go_wp2_with fail
    clear c0 c1
    refine (K2.out _ (B4.out _)).mono ?_
    rintro e w5 ⟨rfl, b5⟩
    have B5 := Lib.hid (bt (B4.out _) b5)
    have P5 := Lib.hid ((P4.out _).keeps b5)
    have L5 := Lib.hid ((L4.out _ _).keeps b5)
    clear b5
    obtain ⟨-, c0, c1⟩ := P5.out
    go_wp2_with fail
    clear c0 c1
    refine (K1.out _ B5.out).mono ?_
    rintro e w6 ⟨rfl, b6⟩
    have B6 := Lib.hid (bt B5.out b6)
    have P6 := Lib.hid (P5.out.keeps b6)
    have L6 := Lib.hid (L5.out.keeps b6)
    clear b6
    obtain ⟨-, c0, c1⟩ := P6.out
    go_wp2_with fail
    clear c0 c1
    refine (K3.out _ B6.out).mono ?_
    rintro e w7 ⟨rfl, b7⟩
    have B7 := Lib.hid (bt B6.out b7)
    have P7 := Lib.hid (P6.out.keeps b7)
    have L7 := Lib.hid (L6.out.keeps b7)
    clear b7
    obtain ⟨-, c0, c1⟩ := P7.out
    go_wp2_with fail
    clear c0 c1
    refine (K4.out _ B7.out).mono ?_
    rintro e w8 ⟨rfl, b8⟩
    have B8 := Lib.hid (bt B7.out b8)
    have P8 := Lib.hid (P7.out.keeps b8)
    have L8 := Lib.hid (L7.out.keeps b8)
    clear b8
    obtain ⟨-, c0, c1⟩ := P8.out
    obtain ⟨-, d0, d1⟩ := L8.out
    go_wp2
    go_ret
    exact ⟨rfl, B8.out⟩
  · rcases h2 with ⟨rfl, p1, p2, p3⟩ | ⟨rfl, p1⟩ | ⟨rfl, p1, p2⟩ | ⟨rfl, p1, p2, p3⟩
    · rcases h1 with h1 | ⟨h0, h1⟩
      · have n1 : ¬ (t : Int) = lt := fun e => h1 e.symm
        have n2 : ((t : Int) == lt) = false := by simp; omega
        have q1 : decide (lt < (t : Int)) = true := decide_eq_true p1
        have q2 : decide ((t : Int) ≤ 1073741824) = true := decide_eq_true p2
        have q2b : decide (t ≤ 1073741824) = true := decide_eq_true (by omega)
        have q3 : decide ((r : Int) < 8) = true := decide_eq_true (by omega)
        have q3b : decide (r < 8) = true := decide_eq_true (by omega)
        go_enter Try.func6, Try.ntmps6
        go_wp2_with fail
        refine (alive09_any _).mono ?_
        rintro e w1 ⟨rfl, b1⟩
        have B1 := Lib.hid (bt B0.out b1)
        have P1 := Lib.hid (P0.out.keeps b1)
        clear b1
        go_wp2_with fail
        refine (C.out _ B1.out).mono ?_
        rintro e w2 ⟨rfl, b2⟩
        have B2 := Lib.hid (bt B1.out b2)
        have P2 := Lib.hid (P1.out.keeps b2)
        clear b2
        go_wp2_with fail
        refine (LA.out _ B2.out).mono ?_
        rintro e w3 ⟨rfl, b3⟩
        have B3 := Lib.hid (bt B2.out b3)
        have P3 := Lib.hid (P2.out.keeps b3)
        have P4 := Lib.hid (fun o : Obj => P3.out.alloc o)
        have B4 := Lib.hid (fun o : Obj => B3.out.alloc B3.out.size o)
        have L4 := Lib.hid (fun c0 c1 : Value => pair_new w3 c0 c1 27)
        clear b3
        obtain ⟨z0, c0, c1⟩ := P3.out
        go_wp2_with fail
        clear c0 c1
        refine (K2.out _ (B4.out _)).mono ?_
        rintro e w5 ⟨rfl, b5⟩
        have B5 := Lib.hid (bt (B4.out _) b5)
        have P5 := Lib.hid ((P4.out _).keeps b5)
        have L5 := Lib.hid ((L4.out _ _).keeps b5)
        clear b5
        obtain ⟨-, c0, c1⟩ := P5.out
        go_wp2_with fail
        clear c0 c1
        refine (K1.out _ B5.out).mono ?_
        rintro e w6 ⟨rfl, b6⟩
        have B6 := Lib.hid (bt B5.out b6)
        have P6 := Lib.hid (P5.out.keeps b6)
        have L6 := Lib.hid (L5.out.keeps b6)
        clear b6
        obtain ⟨-, c0, c1⟩ := P6.out
        go_wp2_with fail
        clear c0 c1
        refine (K3.out _ B6.out).mono ?_
        rintro e w7 ⟨rfl, b7⟩
        have B7 := Lib.hid (bt B6.out b7)
        have P7 := Lib.hid (P6.out.keeps b7)
        have L7 := Lib.hid (L6.out.keeps b7)
        clear b7
        obtain ⟨-, c0, c1⟩ := P7.out
        go_wp2_with fail
        clear c0 c1
        refine (K4.out _ B7.out).mono ?_
        rintro e w8 ⟨rfl, b8⟩
        have B8 := Lib.hid (bt B7.out b8)
        have P8 := Lib.hid (P7.out.keeps b8)
        have L8 := Lib.hid (L7.out.keeps b8)
        clear b8
        obtain ⟨-, c0, c1⟩ := P8.out
        obtain ⟨-, d0, d1⟩ := L8.out
        go_wp2
        go_ret
        exact ⟨rfl, B8.out⟩
      · exfalso; omega
    · rcases h1 with h1 | ⟨h0, h1⟩
      · have n1 : ¬ (t : Int) = lt := fun e => h1 e.symm
        have n2 : ((t : Int) == lt) = false := by simp; omega
        have q1 : decide (lt < (t : Int)) = false := decide_eq_false p1
        go_enter Try.func6, Try.ntmps6
        go_wp2_with fail
        refine (alive09_any _).mono ?_
        rintro e w1 ⟨rfl, b1⟩
        have B1 := Lib.hid (bt B0.out b1)
        have P1 := Lib.hid (P0.out.keeps b1)
        clear b1
        go_wp2_with fail
        refine (C.out _ B1.out).mono ?_
        rintro e w2 ⟨rfl, b2⟩
        have B2 := Lib.hid (bt B1.out b2)
        have P2 := Lib.hid (P1.out.keeps b2)
        clear b2
        go_wp2_with fail
        refine (LA.out _ B2.out).mono ?_
        rintro e w3 ⟨rfl, b3⟩
        have B3 := Lib.hid (bt B2.out b3)
        have P3 := Lib.hid (P2.out.keeps b3)
        have P4 := Lib.hid (fun o : Obj => P3.out.alloc o)
        have B4 := Lib.hid (fun o : Obj => B3.out.alloc B3.out.size o)
        have L4 := Lib.hid (fun c0 c1 : Value => pair_new w3 c0 c1 27)
        clear b3
        obtain ⟨z0, c0, c1⟩ := P3.out
        go_wp2_with fail
        clear c0 c1
        refine (K2.out _ (B4.out _)).mono ?_
        rintro e w5 ⟨rfl, b5⟩
        have B5 := Lib.hid (bt (B4.out _) b5)
        have P5 := Lib.hid ((P4.out _).keeps b5)
        have L5 := Lib.hid ((L4.out _ _).keeps b5)
        clear b5
        obtain ⟨-, c0, c1⟩ := P5.out
        go_wp2_with fail
        clear c0 c1
        refine (K1.out _ B5.out).mono ?_
        rintro e w6 ⟨rfl, b6⟩
        have B6 := Lib.hid (bt B5.out b6)
        have P6 := Lib.hid (P5.out.keeps b6)
        have L6 := Lib.hid (L5.out.keeps b6)
        clear b6
        obtain ⟨-, c0, c1⟩ := P6.out
        go_wp2_with fail
        clear c0 c1
        refine (K3.out _ B6.out).mono ?_
        rintro e w7 ⟨rfl, b7⟩
        have B7 := Lib.hid (bt B6.out b7)
        have P7 := Lib.hid (P6.out.keeps b7)
        have L7 := Lib.hid (L6.out.keeps b7)
        clear b7
        obtain ⟨-, c0, c1⟩ := P7.out
        go_wp2_with fail
        clear c0 c1
        refine (K4.out _ B7.out).mono ?_
        rintro e w8 ⟨rfl, b8⟩
        have B8 := Lib.hid (bt B7.out b8)
        have P8 := Lib.hid (P7.out.keeps b8)
        have L8 := Lib.hid (L7.out.keeps b8)
        clear b8
        obtain ⟨-, c0, c1⟩ := P8.out
        obtain ⟨-, d0, d1⟩ := L8.out
        go_wp2
        go_ret
        exact ⟨rfl, B8.out⟩
      · subst h0
        have n1 : ¬ (r : Int) = lr := fun e => h1 e.symm
        have n2 : ((r : Int) == lr) = false := by simp; omega
        have q1 : decide ((t : Int) < (t : Int)) = false := decide_eq_false (by omega)
        have q2 : decide (t < t) = false := decide_eq_false (by omega)
        go_enter Try.func6, Try.ntmps6
        go_wp2_with fail
        refine (alive09_any _).mono ?_
        rintro e w1 ⟨rfl, b1⟩
        have B1 := Lib.hid (bt B0.out b1)
        have P1 := Lib.hid (P0.out.keeps b1)
        clear b1
        go_wp2_with fail
        refine (C.out _ B1.out).mono ?_
        rintro e w2 ⟨rfl, b2⟩
        have B2 := Lib.hid (bt B1.out b2)
        have P2 := Lib.hid (P1.out.keeps b2)
        clear b2
        go_wp2_with fail
        refine (LA.out _ B2.out).mono ?_
        rintro e w3 ⟨rfl, b3⟩
        have B3 := Lib.hid (bt B2.out b3)
        have P3 := Lib.hid (P2.out.keeps b3)
        have P4 := Lib.hid (fun o : Obj => P3.out.alloc o)
        have B4 := Lib.hid (fun o : Obj => B3.out.alloc B3.out.size o)
        have L4 := Lib.hid (fun c0 c1 : Value => pair_new w3 c0 c1 27)
        clear b3
        obtain ⟨z0, c0, c1⟩ := P3.out
        go_wp2_with fail
        clear c0 c1
        refine (K2.out _ (B4.out _)).mono ?_
        rintro e w5 ⟨rfl, b5⟩
        have B5 := Lib.hid (bt (B4.out _) b5)
        have P5 := Lib.hid ((P4.out _).keeps b5)
        have L5 := Lib.hid ((L4.out _ _).keeps b5)
        clear b5
        obtain ⟨-, c0, c1⟩ := P5.out
        go_wp2_with fail
        clear c0 c1
        refine (K1.out _ B5.out).mono ?_
        rintro e w6 ⟨rfl, b6⟩
        have B6 := Lib.hid (bt B5.out b6)
        have P6 := Lib.hid (P5.out.keeps b6)
        have L6 := Lib.hid (L5.out.keeps b6)
        clear b6
        obtain ⟨-, c0, c1⟩ := P6.out
        go_wp2_with fail
        clear c0 c1
        refine (K3.out _ B6.out).mono ?_
        rintro e w7 ⟨rfl, b7⟩
        have B7 := Lib.hid (bt B6.out b7)
        have P7 := Lib.hid (P6.out.keeps b7)
        have L7 := Lib.hid (L6.out.keeps b7)
        clear b7
        obtain ⟨-, c0, c1⟩ := P7.out
        go_wp2_with fail
        clear c0 c1
        refine (K4.out _ B7.out).mono ?_
        rintro e w8 ⟨rfl, b8⟩
        have B8 := Lib.hid (bt B7.out b8)
        have P8 := Lib.hid (P7.out.keeps b8)
        have L8 := Lib.hid (L7.out.keeps b8)
        clear b8
        obtain ⟨-, c0, c1⟩ := P8.out
        obtain ⟨-, d0, d1⟩ := L8.out
        go_wp2
        go_ret
        exact ⟨rfl, B8.out⟩
    · rcases h1 with h1 | ⟨h0, h1⟩
      · have n1 : ¬ (t : Int) = lt := fun e => h1 e.symm
        have n2 : ((t : Int) == lt) = false := by simp; omega
        have q1 : decide (lt < (t : Int)) = true := decide_eq_true p1
        have q2 : decide ((t : Int) ≤ 1073741824) = false := decide_eq_false p2
        have q2b : decide (t ≤ 1073741824) = false := decide_eq_false (by omega)
        go_enter Try.func6, Try.ntmps6
        go_wp2_with fail
        refine (alive09_any _).mono ?_
        rintro e w1 ⟨rfl, b1⟩
        have B1 := Lib.hid (bt B0.out b1)
        have P1 := Lib.hid (P0.out.keeps b1)
        clear b1
        go_wp2_with fail
        refine (C.out _ B1.out).mono ?_
        rintro e w2 ⟨rfl, b2⟩
        have B2 := Lib.hid (bt B1.out b2)
        have P2 := Lib.hid (P1.out.keeps b2)
        clear b2
        go_wp2_with fail
        refine (LA.out _ B2.out).mono ?_
        rintro e w3 ⟨rfl, b3⟩
        have B3 := Lib.hid (bt B2.out b3)
        have P3 := Lib.hid (P2.out.keeps b3)
        have P4 := Lib.hid (fun o : Obj => P3.out.alloc o)
        have B4 := Lib.hid (fun o : Obj => B3.out.alloc B3.out.size o)
        have L4 := Lib.hid (fun c0 c1 : Value => pair_new w3 c0 c1 27)
        clear b3
        obtain ⟨z0, c0, c1⟩ := P3.out
        go_wp2_with fail
        clear c0 c1
        refine (K2.out _ (B4.out _)).mono ?_
        rintro e w5 ⟨rfl, b5⟩
        have B5 := Lib.hid (bt (B4.out _) b5)
        have P5 := Lib.hid ((P4.out _).keeps b5)
        have L5 := Lib.hid ((L4.out _ _).keeps b5)
        clear b5
        obtain ⟨-, c0, c1⟩ := P5.out
        go_wp2_with fail
        clear c0 c1
        refine (K1.out _ B5.out).mono ?_
        rintro e w6 ⟨rfl, b6⟩
        have B6 := Lib.hid (bt B5.out b6)
        have P6 := Lib.hid (P5.out.keeps b6)
        have L6 := Lib.hid (L5.out.keeps b6)
        clear b6
        obtain ⟨-, c0, c1⟩ := P6.out
        go_wp2_with fail
        clear c0 c1
        refine (K3.out _ B6.out).mono ?_
        rintro e w7 ⟨rfl, b7⟩
        have B7 := Lib.hid (bt B6.out b7)
        have P7 := Lib.hid (P6.out.keeps b7)
        have L7 := Lib.hid (L6.out.keeps b7)
        clear b7
        obtain ⟨-, c0, c1⟩ := P7.out
        go_wp2_with fail
        clear c0 c1
        refine (K4.out _ B7.out).mono ?_
        rintro e w8 ⟨rfl, b8⟩
        have B8 := Lib.hid (bt B7.out b8)
        have P8 := Lib.hid (P7.out.keeps b8)
        have L8 := Lib.hid (L7.out.keeps b8)
        clear b8
        obtain ⟨-, c0, c1⟩ := P8.out
        obtain ⟨-, d0, d1⟩ := L8.out
        go_wp2
        go_ret
        exact ⟨rfl, B8.out⟩
      · exfalso; omega
    · rcases h1 with h1 | ⟨h0, h1⟩
      · have n1 : ¬ (t : Int) = lt := fun e => h1 e.symm
        have n2 : ((t : Int) == lt) = false := by simp; omega
        have q1 : decide (lt < (t : Int)) = true := decide_eq_true p1
        have q2 : decide ((t : Int) ≤ 1073741824) = true := decide_eq_true p2
        have q2b : decide (t ≤ 1073741824) = true := decide_eq_true (by omega)
        have q3 : decide ((r : Int) < 8) = false := decide_eq_false (by omega)
        have q3b : decide (r < 8) = false := decide_eq_false (by omega)
        go_enter Try.func6, Try.ntmps6
        go_wp2_with fail
        refine (alive09_any _).mono ?_
        rintro e w1 ⟨rfl, b1⟩
        have B1 := Lib.hid (bt B0.out b1)
        have P1 := Lib.hid (P0.out.keeps b1)
        clear b1
        go_wp2_with fail
        refine (C.out _ B1.out).mono ?_
        rintro e w2 ⟨rfl, b2⟩
        have B2 := Lib.hid (bt B1.out b2)
        have P2 := Lib.hid (P1.out.keeps b2)
        clear b2
        go_wp2_with fail
        refine (LA.out _ B2.out).mono ?_
        rintro e w3 ⟨rfl, b3⟩
        have B3 := Lib.hid (bt B2.out b3)
        have P3 := Lib.hid (P2.out.keeps b3)
        have P4 := Lib.hid (fun o : Obj => P3.out.alloc o)
        have B4 := Lib.hid (fun o : Obj => B3.out.alloc B3.out.size o)
        have L4 := Lib.hid (fun c0 c1 : Value => pair_new w3 c0 c1 27)
        clear b3
        obtain ⟨z0, c0, c1⟩ := P3.out
        go_wp2_with fail
        clear c0 c1
        refine (K2.out _ (B4.out _)).mono ?_
        rintro e w5 ⟨rfl, b5⟩
        have B5 := Lib.hid (bt (B4.out _) b5)
        have P5 := Lib.hid ((P4.out _).keeps b5)
        have L5 := Lib.hid ((L4.out _ _).keeps b5)
        clear b5
        obtain ⟨-, c0, c1⟩ := P5.out
        go_wp2_with fail
        clear c0 c1
        refine (K1.out _ B5.out).mono ?_
        rintro e w6 ⟨rfl, b6⟩
        have B6 := Lib.hid (bt B5.out b6)
        have P6 := Lib.hid (P5.out.keeps b6)
        have L6 := Lib.hid (L5.out.keeps b6)
        clear b6
        obtain ⟨-, c0, c1⟩ := P6.out
        go_wp2_with fail
        clear c0 c1
        refine (K3.out _ B6.out).mono ?_
        rintro e w7 ⟨rfl, b7⟩
        have B7 := Lib.hid (bt B6.out b7)
        have P7 := Lib.hid (P6.out.keeps b7)
        have L7 := Lib.hid (L6.out.keeps b7)
        clear b7
        obtain ⟨-, c0, c1⟩ := P7.out
        go_wp2_with fail
        clear c0 c1
        refine (K4.out _ B7.out).mono ?_
        rintro e w8 ⟨rfl, b8⟩
        have B8 := Lib.hid (bt B7.out b8)
        have P8 := Lib.hid (P7.out.keeps b8)
        have L8 := Lib.hid (L7.out.keeps b8)
        clear b8
        obtain ⟨-, c0, c1⟩ := P8.out
        obtain ⟨-, d0, d1⟩ := L8.out
        go_wp2
        go_ret
        exact ⟨rfl, B8.out⟩
      · exfalso; omega

end Go.Proofs.Ytgeeaipdihlmhaa.Ops
