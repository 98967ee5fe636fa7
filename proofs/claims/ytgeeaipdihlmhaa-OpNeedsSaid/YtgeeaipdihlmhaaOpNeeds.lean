/- octavo/op.Needs, octavoref09: May, Check, Many, Stands, Needs: what each answers. Conditions: the places' cells are runs. -/
import Derived.Test.YtgeeaipdihlmhaaOpFn
import Derived.Test.YtgeeaipdihlmhaaPlaceMath3
namespace Go.Proofs.Ytgeeaipdihlmhaa.Ops
open Go.RowKit Stamp Go.Proofs.Ytgeeaipdihlmhaa.Place
attribute [local go_sem ↓] Go.wp_at_zero Go.wp_at_succ

theorem ids_take' : ∀ (l : List Id) (m : Nat), ids (l.take m) = (ids l).take (m * 2)
  | [], m => by simp [ids, List.take_nil]
  | a :: l, 0 => by simp [ids]
  | a :: l, m + 1 => by
    rw [show (m + 1) * 2 = m * 2 + 1 + 1 by omega]
    simp [ids, ids_take' l m]
theorem idsTake {w : World} {ao : Option Addr} {n cap : Nat} {l : List Id} (h : Ids w (.slice ao n cap) l) {m : Nat} (hm : m ≤ l.length) : Ids w (.slice ao m cap) (l.take m) := by
  obtain ⟨h1, ao', cap', he, h2, h3, h4, h5⟩ := h
  obtain ⟨rfl, rfl, rfl⟩ := Value.slice.inj he
  have hl : (l.take m).length = m := by rw [List.length_take]; omega
  refine ⟨by rw [ids_len], ao, cap, by rw [hl], by omega, h3, h4, ?_⟩
  rcases h5 with h5 | ⟨b, off, rfl, hb, hc⟩
  · left; rw [ids_take', h5]; simp
  · right
    refine ⟨b, off, rfl, hb, fun j u hj => hc j u ?_⟩
    rw [ids_take', List.getElem?_take] at hj
    split at hj
    · exact hj
    · cases hj

/-- How many of the stamps of its place it doesn't stand on. -/
def offs (o : Opn) : Nat := if ownB o = true then 1 else 0
/-- What it stands on. -/
def standsL (o : Opn) : List Id := (all o.pl).take ((all o.pl).length - offs o)
def needsL (o : Opn) : List Id := if mayO o = true then standsL o else []
theorem all_pos {l : List Run} (h : mayB l = true) : 1 ≤ (all l).length ∧ (all l).length ≤ 4096 ∧ ((all l).length : Int) = long l := by
  have hM := (mayB_iff l).1 h
  have h1 := long_len hM.2.2.1
  have h2 := hM.2.2.2
  refine ⟨?_, by omega, h1⟩
  rcases Nat.lt_or_ge 0 (all l).length with h3 | h3
  · exact h3
  · exfalso
    have h4 : all l = [] := List.length_eq_zero_iff.1 (by omega)
    have h5 := (all_nil hM.2.2.1).1 h4
    have := hM.1
    rw [h5] at this
    simp at this
theorem mayO_parts {o : Opn} (h : mayO o = true) : may o.t o.r = true ∧ mayB o.pl = true ∧ kindB o = true := by
  unfold mayO at h
  simp only [Bool.and_eq_true] at h
  exact ⟨h.1, h.2.1, h.2.2⟩
/-- A slice of stamps, and a code. -/
def Told (L : List Id) (c : Int) (w : World) (e : Ending) (w' : World) : Prop := ∃ ao cap, e = .returned (.tuple #[.slice ao L.length cap, .int .i64 c]) ∧ Ids w' (.slice ao L.length cap) L ∧ Below w.heap.size w w'

theorem told_of {S L : List Id} {ao : Option Addr} {n m cap : Nat} {c : Int} {w w2 : World} (hS : S = L.take m) (hm : m ≤ L.length) (I : Ids w2 (.slice ao n cap) L) (B : Below w.heap.size w w2) :
    Told S c w (.returned (.tuple #[.slice ao m cap, .int .i64 c])) w2 := by
  have hl : S.length = m := by rw [hS, List.length_take]; omega
  refine ⟨ao, cap, by rw [hl], ?_, B⟩
  rw [hl, hS]
  exact idsTake I hm

set_option maxHeartbeats 4000000 in
theorem oNeeds_any {v : Value} {o : Opn} {w : World} (hv : Runs w v o.pl) :
    Calls Try.prog 14 #[opv o v] w (Told (needsL o) (chkO o) w) := by
  have C : Hid (∀ W : World, Below w.heap.size w W → Calls Try.prog 18 #[opv o v] W fun e w' => e = .returned (.int .i64 (chkO o)) ∧ Below W.heap.size W w') := fun W hW => oCheck_any (hv.keeps hW)
  cases hm : mayO o
  · have h1 : chkO o = 8 := by unfold chkO; rw [hm]; rfl
    have h2 : needsL o = [] := by unfold needsL; rw [hm]; rfl
    rw [h1] at C ⊢
    rw [h2]
    obtain ⟨k, t, r, l, p, hk, ht, hr, hp⟩ := o
    unfold opv at C ⊢
    simp only at hv C ⊢
    have B0 : Hid (Below w.heap.size w (w.alloc (.cells #[.int .u8 (k : Int), .int .u32 (t : Int), .int .u8 (r : Int), v, .int .i64 p] 30))) := (Below.refl _ _).alloc (Nat.le_refl _) _
    clear hv hm h1 h2
    go_enter Try.func14, Try.ntmps14
    go_wp2_with fail
    refine (C.out _ B0.out).mono ?_
    rintro e w1 ⟨rfl, b1⟩
    have B1 := Lib.hid (bt B0.out b1)
    clear b1
    go_wp2
    go_ret2
    exact ⟨none, 0, rfl, Ids.nil _, B1.out⟩
  · have h1 : chkO o = 0 := by unfold chkO; rw [if_pos hm]
    have h2 : needsL o = standsL o := by unfold needsL; rw [if_pos hm]
    rw [h1] at C ⊢
    rw [h2]
    have hp := mayO_parts hm
    have hpos := all_pos hp.2.1
    have P : Hid (∀ W : World, Below w.heap.size w W → Calls Try.prog 28 #[v] W fun e w' => ∃ ao cap, e = .returned (.tuple #[.slice ao (all o.pl).length cap, .int .i64 0]) ∧ Ids w' (.slice ao (all o.pl).length cap) (all o.pl) ∧ Below W.heap.size W w') := fun W hW => by
      have h := pIds_any (hv.keeps hW)
      rw [show idsOf o.pl = all o.pl by unfold idsOf; rw [if_pos hp.2.1], show idsE o.pl = 0 by unfold idsE; rw [if_pos hp.2.1]] at h
      exact h
    have hown : (ownB o = true ∧ (o.k = 1 ∨ o.k = 2)) ∨ (ownB o = false ∧ ((o.k : Int) == 1) = false ∧ ((o.k : Int) == 2) = false) := by
      unfold ownB
      by_cases a : o.k = 1
      · left; exact ⟨by rw [decide_eq_true a]; rfl, .inl a⟩
      · by_cases b : o.k = 2
        · left; exact ⟨by rw [decide_eq_true b, Bool.or_true], .inr b⟩
        · right; exact ⟨by rw [decide_eq_false a, decide_eq_false b]; rfl, by simp; omega, by simp; omega⟩
    have hst : standsL o = (all o.pl).take ((all o.pl).length - offs o) := rfl
    unfold offs at hst
    obtain ⟨S, hS⟩ : ∃ S, S = standsL o := ⟨_, rfl⟩
    rw [← hS] at hst ⊢
    obtain ⟨L, hL⟩ : ∃ L, L = all o.pl := ⟨_, rfl⟩
    rw [← hL] at P hpos hst
    obtain ⟨k, t, r, l, p, hk, ht, hr, hp'⟩ := o
    unfold opv at C
    simp only at hv C P hown ⊢
    obtain ⟨n, hn⟩ : ∃ n, n = L.length := ⟨_, rfl⟩
    obtain ⟨hp1, hp2, -⟩ := hpos
    rw [← hn] at P hp1 hp2 hst
    have B0 : Hid (Below w.heap.size w (w.alloc (.cells #[.int .u8 (k : Int), .int .u32 (t : Int), .int .u8 (r : Int), v, .int .i64 p] 30))) := (Below.refl _ _).alloc (Nat.le_refl _) _
    have HN := Lib.hid hn
    have HST := Lib.hid hst
    have e1 : IntKind.i64.wrap ((n : Int) - 1) = (n : Int) - 1 := IntWalk.i64_in _ (by omega)
    have e2 : ((n : Int) - 1).toNat = n - 1 := by omega
    clear hv hm h1 h2 hp hst hS hL hn
    unfold opv
    simp only
    rcases hown with ⟨hw, rfl | rfl⟩ | ⟨hw, q1, q2⟩
    all_goals
      have HW := Lib.hid hw
      clear hw
      go_enter Try.func14, Try.ntmps14
      go_wp2_with fail
      refine (C.out _ B0.out).mono ?_
      rintro e w1 ⟨rfl, b1⟩
      obtain ⟨c0, c1, c2, c3, c4⟩ := five_cells b1
      have B1 := Lib.hid (bt B0.out b1)
      have C1 := Lib.hid b1
      clear b1
      go_wp2_with fail
      refine (P.out _ B1.out).mono ?_
      rintro e w2 ⟨ao, cap, rfl, i2, b2⟩
      have B2 := Lib.hid (bt B1.out b2)
      have C2 := Lib.hid (bt C1.out b2)
      have I2 := Lib.hid i2
      have hcap := i2.cap
      clear b2 c0 c1 c2 c3 c4 i2
      obtain ⟨c0, c1, c2, c3, c4⟩ := five_cells C2.out
      have k1 : n ≤ cap := by have := hcap.2.1; have := HN.out; omega
      clear hcap
      go_wp2
      go_ret2
      first
      | exact told_of (by rw [HST.out, if_pos HW.out]) (by have := HN.out; omega) I2.out B2.out
      | exact told_of (by rw [HST.out, if_neg (by rw [HW.out]; simp)]; rfl) (by have := HN.out; omega) I2.out B2.out

set_option maxHeartbeats 8000000 in
theorem refMayO_any {v : Value} {o : Opn} {w : World} (hv : Runs w v o.pl) :
    Calls Try.prog 29 #[opv o v] w fun e w' => e = .returned (.bool (mayO o)) ∧ Below w.heap.size w w' := by
  obtain ⟨k, t, r, l, p, hk, ht, hr, hp⟩ := o
  unfold opv
  simp only at hv ⊢
  obtain ⟨b, hb⟩ : ∃ b, mayO ⟨k, t, r, l, p, hk, ht, hr, hp⟩ = b := ⟨_, rfl⟩
  rw [hb]
  have hb2 : (may t r && (mayB l && kindF k t r (lastV l).1 (lastV l).2 p)) = b := hb
  clear hb
  have HB := Lib.hid hb2
  have HV := Lib.hid hv
  have B0 : Hid (Below w.heap.size w (w.alloc (.cells #[.int .u8 (k : Int), .int .u32 (t : Int), .int .u8 (r : Int), v, .int .i64 p] 30))) := (Below.refl _ _).alloc (Nat.le_refl _) _
  clear hb2 hv
  have q1 : decide ((k : Int) < 1) = decide (k < 1) := by simp; omega
  by_cases k0 : k = 0
  · subst k0
    obtain rfl : false = b := by rw [← HB.out]; simp [kindF]
    go_enter Try.func29, Try.ntmps29
    go_wp2
    go_ret
    exact ⟨rfl, B0.out⟩
  by_cases k5 : 4 < k
  · obtain rfl : false = b := by rw [← HB.out]; unfold kindF; rw [if_neg (by omega), if_neg (by omega), if_neg (by omega)]; simp
    have s1 : decide ((k : Int) < 1) = false := decide_eq_false (by omega)
    have s2 : decide ((4 : Int) < (k : Int)) = true := decide_eq_true (by omega)
    clear q1
    go_enter Try.func29, Try.ntmps29
    go_wp2
    go_ret
    exact ⟨rfl, B0.out⟩
  have s1 : decide ((k : Int) < 1) = false := decide_eq_false (by omega)
  have s2 : decide ((4 : Int) < (k : Int)) = false := decide_eq_false (by omega)
  have M : Hid (∀ W : World, Calls Try.prog 46 #[.agg #[.int .u32 (t : Int), .int .u8 (r : Int)]] W fun e w' => e = .returned (.bool (may t r)) ∧ Below W.heap.size W w') := fun W => refMay_any t r W
  clear q1
  cases h1 : may t r
  · obtain rfl : false = b := by rw [← HB.out, h1]; rfl
    rw [h1] at M
    clear h1
    go_enter Try.func29, Try.ntmps29
    go_wp2_with fail
    refine (M.out _).mono ?_
    rintro e w1 ⟨rfl, b1⟩
    have B1 := Lib.hid (bt B0.out b1)
    clear b1
    go_wp2
    go_ret
    exact ⟨rfl, B1.out⟩
  rw [h1] at M
  cases h2 : mayB l
  · obtain rfl : false = b := by rw [← HB.out, h1, h2]; rfl
    have M2 : Hid (∀ W : World, Below w.heap.size w W → Calls Try.prog 47 #[v] W fun e w' => e = .returned (.bool false) ∧ Below W.heap.size W w') := fun W hW => refMay_is (HV.out.keeps hW) h2
    clear h1 h2
    go_enter Try.func29, Try.ntmps29
    go_wp2_with fail
    refine (M.out _).mono ?_
    rintro e w1 ⟨rfl, b1⟩
    obtain ⟨c0, c1, c2, c3, c4⟩ := five_cells b1
    have B1 := Lib.hid (bt B0.out b1)
    clear b1
    go_wp2_with fail
    refine (M2.out _ B1.out).mono ?_
    rintro e w2 ⟨rfl, b2⟩
    have B2 := Lib.hid (bt B1.out b2)
    clear b2 c0 c1 c2 c3 c4
    go_wp2
    go_ret
    exact ⟨rfl, B2.out⟩
  have M2 : Hid (∀ W : World, Below w.heap.size w W → Calls Try.prog 47 #[v] W fun e w' => e = .returned (.bool true) ∧ Below W.heap.size W w') := fun W hW => refMay_is (HV.out.keeps hW) h2
  have hM := (mayB_iff l).1 h2
  have hkk : kindF k t r (lastV l).1 (lastV l).2 p = b := by rw [← HB.out, h1, h2]; rfl
  obtain ⟨j, hj⟩ : ∃ j, l.length = j + 1 := ⟨l.length - 1, by have := hM.1; omega⟩
  have hlv : lastV l = (((l.getD j zrun).t : Int) + ((l.getD j zrun).m - 1), ((l.getD j zrun).r : Int)) := by unfold lastV; rw [if_pos h2, hj, Nat.add_sub_cancel]
  have FI : Hid (∀ W : World, Below w.heap.size w W → Calls Try.prog 48 #[v] W fun e w' => e = .returned (.agg #[.int .u32 (lastV l).1, .int .u8 (lastV l).2]) ∧ Below W.heap.size W w') := fun W hW => by
    rw [hlv]
    exact final_any (HV.out.keeps hW) hj rfl (chain_one hM.2.2.1 (by omega)) (by have := hM.2.1; omega)
  obtain ⟨lt, hlt⟩ : ∃ x, x = (lastV l).1 := ⟨_, rfl⟩
  obtain ⟨lr, hlr⟩ : ∃ x, x = (lastV l).2 := ⟨_, rfl⟩
  rw [← hlt, ← hlr] at FI hkk
  have HK := Lib.hid hkk
  have OW : Hid (∀ W : World, Calls Try.prog 49 #[.agg #[.int .u8 (k : Int), .int .u32 (t : Int), .int .u8 (r : Int), v, .int .i64 p]] W fun e w' => e = .returned (.bool (decide (k = 1) || decide (k = 2))) ∧ Below W.heap.size W w') := fun W => refOwn_any (v := v) (o := ⟨k, t, r, l, p, hk, ht, hr, hp⟩) W
  have IS : Hid (∀ W : World, Calls Try.prog 50 #[.int .i64 p] W fun e w' => e = .returned (.bool (Pt.isB p)) ∧ W = w') := fun W => Pt.refIs_any p W
  clear h1 h2 hM hkk hj hlv hlt hlr HB
  have kk : k = 1 ∨ k = 2 ∨ (k = 3 ∨ k = 4) := by omega
  clear k0 k5
  rcases kk with rfl | rfl | hk3
  · have ho : (decide (1 = 1) || decide (1 = 2)) = true := rfl
    have hq : (decide ((lt, lr) = ((t : Int), (r : Int))) && Pt.isB p) = b := HK.out
    rw [ho] at OW
    clear ho HK
    have pair : (lt = (t : Int) ∧ lr = (r : Int)) ∨ (¬ lt = (t : Int)) ∨ (lt = (t : Int) ∧ ¬ lr = (r : Int)) := by omega
    rcases pair with ⟨rfl, rfl⟩ | h | ⟨rfl, h⟩
    · rw [decide_eq_true rfl, Bool.true_and] at hq
      rw [hq] at IS
      clear hq
      cases b
      all_goals
        go_enter Try.func29, Try.ntmps29
        go_wp2_with fail
        refine (M.out _).mono ?_
        rintro e w1 ⟨rfl, b1⟩
        obtain ⟨c0, c1, c2, c3, c4⟩ := five_cells b1
        have B1 := Lib.hid (bt B0.out b1)
        have C1 := Lib.hid b1
        clear b1
        go_wp2_with fail
        refine (M2.out _ B1.out).mono ?_
        rintro e w2 ⟨rfl, b2⟩
        have B2 := Lib.hid (bt B1.out b2)
        have C2 := Lib.hid (bt C1.out b2)
        clear b2 c0 c1 c2 c3 c4
        obtain ⟨c0, c1, c2, c3, c4⟩ := five_cells C2.out
        go_wp2_with fail
        refine (FI.out _ B2.out).mono ?_
        rintro e w3 ⟨rfl, b3⟩
        have B3 := Lib.hid (bt B2.out b3)
        have C3 := Lib.hid (bt C2.out b3)
        clear b3 c0 c1 c2 c3 c4
        obtain ⟨c0, c1, c2, c3, c4⟩ := five_cells C3.out
        have z3 : w.heap.size < w3.heap.size := by have := C3.out.size; simp at this; omega
        have B3' := Lib.hid (fun o : Obj => B3.out.alloc B3.out.size o)
        have C3' := Lib.hid (fun o : Obj => C3.out.alloc C3.out.size o)
        go_wp2_with fail
        refine (OW.out _).mono ?_
        rintro e w4 ⟨rfl, b4⟩
        have B4 := Lib.hid (bt (B3'.out _) b4)
        have C4 := Lib.hid (bt (C3'.out _) b4)
        have D4 := Lib.hid b4
        clear b4 c0 c1 c2 c3 c4
        obtain ⟨c0, c1, c2, c3, c4⟩ := five_cells C4.out
        obtain ⟨d0, d1, -, -⟩ := two_cells D4.out
        go_wp2_with fail
        refine (OW.out _).mono ?_
        rintro e w5 ⟨rfl, b5⟩
        have B5 := Lib.hid (bt B4.out b5)
        have C5 := Lib.hid (bt C4.out b5)
        have D5 := Lib.hid (bt D4.out b5)
        clear b5 c0 c1 c2 c3 c4 d0 d1
        obtain ⟨c0, c1, c2, c3, c4⟩ := five_cells C5.out
        obtain ⟨d0, d1, -, -⟩ := two_cells D5.out
        go_wp2_with fail
        refine (IS.out _).mono ?_
        rintro e w6 ⟨rfl, rfl⟩
        go_wp2
        go_ret
        exact ⟨rfl, B5.out⟩
    · rw [decide_eq_false (fun e => h (Prod.mk.inj e).1), Bool.false_and] at hq
      subst hq
      have q8 : (lt == (t : Int)) = false := by simp; omega
      have q7 : ¬ (t : Int) = lt := fun e => h e.symm
      go_enter Try.func29, Try.ntmps29
      go_wp2_with fail
      refine (M.out _).mono ?_
      rintro e w1 ⟨rfl, b1⟩
      obtain ⟨c0, c1, c2, c3, c4⟩ := five_cells b1
      have B1 := Lib.hid (bt B0.out b1)
      have C1 := Lib.hid b1
      clear b1
      go_wp2_with fail
      refine (M2.out _ B1.out).mono ?_
      rintro e w2 ⟨rfl, b2⟩
      have B2 := Lib.hid (bt B1.out b2)
      have C2 := Lib.hid (bt C1.out b2)
      clear b2 c0 c1 c2 c3 c4
      obtain ⟨c0, c1, c2, c3, c4⟩ := five_cells C2.out
      go_wp2_with fail
      refine (FI.out _ B2.out).mono ?_
      rintro e w3 ⟨rfl, b3⟩
      have B3 := Lib.hid (bt B2.out b3)
      have C3 := Lib.hid (bt C2.out b3)
      clear b3 c0 c1 c2 c3 c4
      obtain ⟨c0, c1, c2, c3, c4⟩ := five_cells C3.out
      have z3 : w.heap.size < w3.heap.size := by have := C3.out.size; simp at this; omega
      have B3' := Lib.hid (fun o : Obj => B3.out.alloc B3.out.size o)
      have C3' := Lib.hid (fun o : Obj => C3.out.alloc C3.out.size o)
      go_wp2_with fail
      refine (OW.out _).mono ?_
      rintro e w4 ⟨rfl, b4⟩
      have B4 := Lib.hid (bt (B3'.out _) b4)
      have C4 := Lib.hid (bt (C3'.out _) b4)
      have D4 := Lib.hid b4
      clear b4 c0 c1 c2 c3 c4
      obtain ⟨c0, c1, c2, c3, c4⟩ := five_cells C4.out
      obtain ⟨d0, d1, -, -⟩ := two_cells D4.out
      go_wp2
      go_ret
      exact ⟨rfl, B4.out⟩
    · rw [decide_eq_false (fun e => h (Prod.mk.inj e).2), Bool.false_and] at hq
      subst hq
      have q8 : (lr == (r : Int)) = false := by simp; omega
      have q7 : ¬ (r : Int) = lr := fun e => h e.symm
      go_enter Try.func29, Try.ntmps29
      go_wp2_with fail
      refine (M.out _).mono ?_
      rintro e w1 ⟨rfl, b1⟩
      obtain ⟨c0, c1, c2, c3, c4⟩ := five_cells b1
      have B1 := Lib.hid (bt B0.out b1)
      have C1 := Lib.hid b1
      clear b1
      go_wp2_with fail
      refine (M2.out _ B1.out).mono ?_
      rintro e w2 ⟨rfl, b2⟩
      have B2 := Lib.hid (bt B1.out b2)
      have C2 := Lib.hid (bt C1.out b2)
      clear b2 c0 c1 c2 c3 c4
      obtain ⟨c0, c1, c2, c3, c4⟩ := five_cells C2.out
      go_wp2_with fail
      refine (FI.out _ B2.out).mono ?_
      rintro e w3 ⟨rfl, b3⟩
      have B3 := Lib.hid (bt B2.out b3)
      have C3 := Lib.hid (bt C2.out b3)
      clear b3 c0 c1 c2 c3 c4
      obtain ⟨c0, c1, c2, c3, c4⟩ := five_cells C3.out
      have z3 : w.heap.size < w3.heap.size := by have := C3.out.size; simp at this; omega
      have B3' := Lib.hid (fun o : Obj => B3.out.alloc B3.out.size o)
      have C3' := Lib.hid (fun o : Obj => C3.out.alloc C3.out.size o)
      go_wp2_with fail
      refine (OW.out _).mono ?_
      rintro e w4 ⟨rfl, b4⟩
      have B4 := Lib.hid (bt (B3'.out _) b4)
      have C4 := Lib.hid (bt (C3'.out _) b4)
      have D4 := Lib.hid b4
      clear b4 c0 c1 c2 c3 c4
      obtain ⟨c0, c1, c2, c3, c4⟩ := five_cells C4.out
      obtain ⟨d0, d1, -, -⟩ := two_cells D4.out
      go_wp2
      go_ret
      exact ⟨rfl, B4.out⟩
  · have ho : (decide (2 = 1) || decide (2 = 2)) = true := rfl
    have hq : (decide ((lt, lr) = ((t : Int), (r : Int))) && decide (p = 0)) = b := HK.out
    rw [ho] at OW
    clear ho HK
    have pair : (lt = (t : Int) ∧ lr = (r : Int)) ∨ (¬ lt = (t : Int)) ∨ (lt = (t : Int) ∧ ¬ lr = (r : Int)) := by omega
    rcases pair with ⟨rfl, rfl⟩ | h | ⟨rfl, h⟩
    · rw [decide_eq_true rfl, Bool.true_and] at hq
      have q9 : (p == 0) = b := by rw [← hq]; simp [BEq.beq]
      clear hq
      cases b
      all_goals
        go_enter Try.func29, Try.ntmps29
        go_wp2_with fail
        refine (M.out _).mono ?_
        rintro e w1 ⟨rfl, b1⟩
        obtain ⟨c0, c1, c2, c3, c4⟩ := five_cells b1
        have B1 := Lib.hid (bt B0.out b1)
        have C1 := Lib.hid b1
        clear b1
        go_wp2_with fail
        refine (M2.out _ B1.out).mono ?_
        rintro e w2 ⟨rfl, b2⟩
        have B2 := Lib.hid (bt B1.out b2)
        have C2 := Lib.hid (bt C1.out b2)
        clear b2 c0 c1 c2 c3 c4
        obtain ⟨c0, c1, c2, c3, c4⟩ := five_cells C2.out
        go_wp2_with fail
        refine (FI.out _ B2.out).mono ?_
        rintro e w3 ⟨rfl, b3⟩
        have B3 := Lib.hid (bt B2.out b3)
        have C3 := Lib.hid (bt C2.out b3)
        clear b3 c0 c1 c2 c3 c4
        obtain ⟨c0, c1, c2, c3, c4⟩ := five_cells C3.out
        have z3 : w.heap.size < w3.heap.size := by have := C3.out.size; simp at this; omega
        have B3' := Lib.hid (fun o : Obj => B3.out.alloc B3.out.size o)
        have C3' := Lib.hid (fun o : Obj => C3.out.alloc C3.out.size o)
        go_wp2_with fail
        refine (OW.out _).mono ?_
        rintro e w4 ⟨rfl, b4⟩
        have B4 := Lib.hid (bt (B3'.out _) b4)
        have C4 := Lib.hid (bt (C3'.out _) b4)
        have D4 := Lib.hid b4
        clear b4 c0 c1 c2 c3 c4
        obtain ⟨c0, c1, c2, c3, c4⟩ := five_cells C4.out
        obtain ⟨d0, d1, -, -⟩ := two_cells D4.out
        go_wp2_with fail
        refine (OW.out _).mono ?_
        rintro e w5 ⟨rfl, b5⟩
        have B5 := Lib.hid (bt B4.out b5)
        have C5 := Lib.hid (bt C4.out b5)
        have D5 := Lib.hid (bt D4.out b5)
        clear b5 c0 c1 c2 c3 c4 d0 d1
        obtain ⟨c0, c1, c2, c3, c4⟩ := five_cells C5.out
        obtain ⟨d0, d1, -, -⟩ := two_cells D5.out
        go_wp2
        go_ret
        exact ⟨rfl, B5.out⟩
    · rw [decide_eq_false (fun e => h (Prod.mk.inj e).1), Bool.false_and] at hq
      subst hq
      have q8 : (lt == (t : Int)) = false := by simp; omega
      have q7 : ¬ (t : Int) = lt := fun e => h e.symm
      go_enter Try.func29, Try.ntmps29
      go_wp2_with fail
      refine (M.out _).mono ?_
      rintro e w1 ⟨rfl, b1⟩
      obtain ⟨c0, c1, c2, c3, c4⟩ := five_cells b1
      have B1 := Lib.hid (bt B0.out b1)
      have C1 := Lib.hid b1
      clear b1
      go_wp2_with fail
      refine (M2.out _ B1.out).mono ?_
      rintro e w2 ⟨rfl, b2⟩
      have B2 := Lib.hid (bt B1.out b2)
      have C2 := Lib.hid (bt C1.out b2)
      clear b2 c0 c1 c2 c3 c4
      obtain ⟨c0, c1, c2, c3, c4⟩ := five_cells C2.out
      go_wp2_with fail
      refine (FI.out _ B2.out).mono ?_
      rintro e w3 ⟨rfl, b3⟩
      have B3 := Lib.hid (bt B2.out b3)
      have C3 := Lib.hid (bt C2.out b3)
      clear b3 c0 c1 c2 c3 c4
      obtain ⟨c0, c1, c2, c3, c4⟩ := five_cells C3.out
      have z3 : w.heap.size < w3.heap.size := by have := C3.out.size; simp at this; omega
      have B3' := Lib.hid (fun o : Obj => B3.out.alloc B3.out.size o)
      have C3' := Lib.hid (fun o : Obj => C3.out.alloc C3.out.size o)
      go_wp2_with fail
      refine (OW.out _).mono ?_
      rintro e w4 ⟨rfl, b4⟩
      have B4 := Lib.hid (bt (B3'.out _) b4)
      have C4 := Lib.hid (bt (C3'.out _) b4)
      have D4 := Lib.hid b4
      clear b4 c0 c1 c2 c3 c4
      obtain ⟨c0, c1, c2, c3, c4⟩ := five_cells C4.out
      obtain ⟨d0, d1, -, -⟩ := two_cells D4.out
      go_wp2
      go_ret
      exact ⟨rfl, B4.out⟩
    · rw [decide_eq_false (fun e => h (Prod.mk.inj e).2), Bool.false_and] at hq
      subst hq
      have q8 : (lr == (r : Int)) = false := by simp; omega
      have q7 : ¬ (r : Int) = lr := fun e => h e.symm
      go_enter Try.func29, Try.ntmps29
      go_wp2_with fail
      refine (M.out _).mono ?_
      rintro e w1 ⟨rfl, b1⟩
      obtain ⟨c0, c1, c2, c3, c4⟩ := five_cells b1
      have B1 := Lib.hid (bt B0.out b1)
      have C1 := Lib.hid b1
      clear b1
      go_wp2_with fail
      refine (M2.out _ B1.out).mono ?_
      rintro e w2 ⟨rfl, b2⟩
      have B2 := Lib.hid (bt B1.out b2)
      have C2 := Lib.hid (bt C1.out b2)
      clear b2 c0 c1 c2 c3 c4
      obtain ⟨c0, c1, c2, c3, c4⟩ := five_cells C2.out
      go_wp2_with fail
      refine (FI.out _ B2.out).mono ?_
      rintro e w3 ⟨rfl, b3⟩
      have B3 := Lib.hid (bt B2.out b3)
      have C3 := Lib.hid (bt C2.out b3)
      clear b3 c0 c1 c2 c3 c4
      obtain ⟨c0, c1, c2, c3, c4⟩ := five_cells C3.out
      have z3 : w.heap.size < w3.heap.size := by have := C3.out.size; simp at this; omega
      have B3' := Lib.hid (fun o : Obj => B3.out.alloc B3.out.size o)
      have C3' := Lib.hid (fun o : Obj => C3.out.alloc C3.out.size o)
      go_wp2_with fail
      refine (OW.out _).mono ?_
      rintro e w4 ⟨rfl, b4⟩
      have B4 := Lib.hid (bt (B3'.out _) b4)
      have C4 := Lib.hid (bt (C3'.out _) b4)
      have D4 := Lib.hid b4
      clear b4 c0 c1 c2 c3 c4
      obtain ⟨c0, c1, c2, c3, c4⟩ := five_cells C4.out
      obtain ⟨d0, d1, -, -⟩ := two_cells D4.out
      go_wp2
      go_ret
      exact ⟨rfl, B4.out⟩
  · have ho : (decide (k = 1) || decide (k = 2)) = false := by rw [decide_eq_false (by omega), decide_eq_false (by omega)]; rfl
    have hq : (decide (lt < (t : Int)) && decide (p = 0)) = b := by rw [← HK.out]; unfold kindF; rw [if_neg (by omega), if_neg (by omega), if_pos hk3]
    have s5 : ((k : Int) == 1) = false := by simp; omega
    rw [ho] at OW
    clear ho HK
    by_cases h : lt < (t : Int)
    · have s3 : decide ((t : Int) ≤ lt) = false := decide_eq_false (by omega)
      rw [decide_eq_true h, Bool.true_and] at hq
      have q9 : (p == 0) = b := by rw [← hq]; simp [BEq.beq]
      clear hq
      cases b
      all_goals
        go_enter Try.func29, Try.ntmps29
        go_wp2_with fail
        refine (M.out _).mono ?_
        rintro e w1 ⟨rfl, b1⟩
        obtain ⟨c0, c1, c2, c3, c4⟩ := five_cells b1
        have B1 := Lib.hid (bt B0.out b1)
        have C1 := Lib.hid b1
        clear b1
        go_wp2_with fail
        refine (M2.out _ B1.out).mono ?_
        rintro e w2 ⟨rfl, b2⟩
        have B2 := Lib.hid (bt B1.out b2)
        have C2 := Lib.hid (bt C1.out b2)
        clear b2 c0 c1 c2 c3 c4
        obtain ⟨c0, c1, c2, c3, c4⟩ := five_cells C2.out
        go_wp2_with fail
        refine (FI.out _ B2.out).mono ?_
        rintro e w3 ⟨rfl, b3⟩
        have B3 := Lib.hid (bt B2.out b3)
        have C3 := Lib.hid (bt C2.out b3)
        clear b3 c0 c1 c2 c3 c4
        obtain ⟨c0, c1, c2, c3, c4⟩ := five_cells C3.out
        have z3 : w.heap.size < w3.heap.size := by have := C3.out.size; simp at this; omega
        have B3' := Lib.hid (fun o : Obj => B3.out.alloc B3.out.size o)
        have C3' := Lib.hid (fun o : Obj => C3.out.alloc C3.out.size o)
        go_wp2_with fail
        refine (OW.out _).mono ?_
        rintro e w4 ⟨rfl, b4⟩
        have B4 := Lib.hid (bt (B3'.out _) b4)
        have C4 := Lib.hid (bt (C3'.out _) b4)
        have D4 := Lib.hid b4
        clear b4 c0 c1 c2 c3 c4
        obtain ⟨c0, c1, c2, c3, c4⟩ := five_cells C4.out
        obtain ⟨d0, d1, -, -⟩ := two_cells D4.out
        go_wp2_with fail
        refine (OW.out _).mono ?_
        rintro e w5 ⟨rfl, b5⟩
        have B5 := Lib.hid (bt B4.out b5)
        have C5 := Lib.hid (bt C4.out b5)
        have D5 := Lib.hid (bt D4.out b5)
        clear b5 c0 c1 c2 c3 c4 d0 d1
        obtain ⟨c0, c1, c2, c3, c4⟩ := five_cells C5.out
        obtain ⟨d0, d1, -, -⟩ := two_cells D5.out
        go_wp2
        go_ret
        exact ⟨rfl, B5.out⟩
    · have s3 : decide ((t : Int) ≤ lt) = true := decide_eq_true (by omega)
      rw [decide_eq_false h, Bool.false_and] at hq
      subst hq
      go_enter Try.func29, Try.ntmps29
      go_wp2_with fail
      refine (M.out _).mono ?_
      rintro e w1 ⟨rfl, b1⟩
      obtain ⟨c0, c1, c2, c3, c4⟩ := five_cells b1
      have B1 := Lib.hid (bt B0.out b1)
      have C1 := Lib.hid b1
      clear b1
      go_wp2_with fail
      refine (M2.out _ B1.out).mono ?_
      rintro e w2 ⟨rfl, b2⟩
      have B2 := Lib.hid (bt B1.out b2)
      have C2 := Lib.hid (bt C1.out b2)
      clear b2 c0 c1 c2 c3 c4
      obtain ⟨c0, c1, c2, c3, c4⟩ := five_cells C2.out
      go_wp2_with fail
      refine (FI.out _ B2.out).mono ?_
      rintro e w3 ⟨rfl, b3⟩
      have B3 := Lib.hid (bt B2.out b3)
      have C3 := Lib.hid (bt C2.out b3)
      clear b3 c0 c1 c2 c3 c4
      obtain ⟨c0, c1, c2, c3, c4⟩ := five_cells C3.out
      have z3 : w.heap.size < w3.heap.size := by have := C3.out.size; simp at this; omega
      have B3' := Lib.hid (fun o : Obj => B3.out.alloc B3.out.size o)
      have C3' := Lib.hid (fun o : Obj => C3.out.alloc C3.out.size o)
      go_wp2_with fail
      refine (OW.out _).mono ?_
      rintro e w4 ⟨rfl, b4⟩
      have B4 := Lib.hid (bt (B3'.out _) b4)
      have C4 := Lib.hid (bt (C3'.out _) b4)
      have D4 := Lib.hid b4
      clear b4 c0 c1 c2 c3 c4
      obtain ⟨c0, c1, c2, c3, c4⟩ := five_cells C4.out
      obtain ⟨d0, d1, -, -⟩ := two_cells D4.out
      go_wp2_with fail
      refine (OW.out _).mono ?_
      rintro e w5 ⟨rfl, b5⟩
      have B5 := Lib.hid (bt B4.out b5)
      have C5 := Lib.hid (bt C4.out b5)
      have D5 := Lib.hid (bt D4.out b5)
      clear b5 c0 c1 c2 c3 c4 d0 d1
      obtain ⟨c0, c1, c2, c3, c4⟩ := five_cells C5.out
      obtain ⟨d0, d1, -, -⟩ := two_cells D5.out
      go_wp2
      go_ret
      exact ⟨rfl, B5.out⟩
end Go.Proofs.Ytgeeaipdihlmhaa.Ops
