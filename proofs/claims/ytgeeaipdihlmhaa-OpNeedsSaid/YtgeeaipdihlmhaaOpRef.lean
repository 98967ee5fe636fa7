/- octavoref09: Check, Many, Stands, Needs: what each answers. Conditions: the places' cells are runs. -/
import Derived.Test.YtgeeaipdihlmhaaOpNeeds
namespace Go.Proofs.Ytgeeaipdihlmhaa.Ops
open Go.RowKit Stamp Go.Proofs.Ytgeeaipdihlmhaa.Place
attribute [local go_sem ↓] Go.wp_at_zero Go.wp_at_succ

theorem refCheckO_any {v : Value} {o : Opn} {w : World} (hv : Runs w v o.pl) :
    Calls Try.prog 19 #[opv o v] w fun e w' => e = .returned (.int .i64 (chkO o)) ∧ Below w.heap.size w w' := by
  have C : Hid (∀ W : World, Below w.heap.size w W → Calls Try.prog 29 #[opv o v] W fun e w' => e = .returned (.bool (mayO o)) ∧ Below W.heap.size W w') := fun W hW => refMayO_any (hv.keeps hW)
  obtain ⟨b, hb⟩ : ∃ b, mayO o = b := ⟨_, rfl⟩
  have hc : chkO o = if b = true then 0 else 8 := by unfold chkO; rw [hb]
  rw [hb] at C
  rw [hc]
  obtain ⟨k, t, r, l, p, hk, ht, hr, hp⟩ := o
  unfold opv at C ⊢
  simp only at hv C ⊢
  have B0 : Hid (Below w.heap.size w (w.alloc (.cells #[.int .u8 (k : Int), .int .u32 (t : Int), .int .u8 (r : Int), v, .int .i64 p] 30))) := (Below.refl _ _).alloc (Nat.le_refl _) _
  clear hv hb hc
  cases b
  all_goals
    simp only [Bool.false_eq_true, if_false, if_true]
    go_enter Try.func19, Try.ntmps19
    go_wp2_with fail
    refine (C.out _ B0.out).mono ?_
    rintro e w1 ⟨rfl, b1⟩
    have B1 := Lib.hid (bt B0.out b1)
    clear b1
    go_wp2
    go_ret
    exact ⟨rfl, B1.out⟩

theorem refMany_any {v : Value} {o : Opn} {w : World} (hv : Runs w v o.pl) (hm : mayB o.pl = true) :
    Calls Try.prog 52 #[opv o v] w fun e w' => e = .returned (.int .i64 (((all o.pl).length - offs o : Nat) : Int)) ∧ Below w.heap.size w w' := by
  have hM := (mayB_iff o.pl).1 hm
  have hpos := all_pos hm
  have L : Hid (∀ W : World, Below w.heap.size w W → Calls Try.prog 59 #[v] W fun e w' => e = .returned (.int .i64 ((all o.pl).length : Int)) ∧ W = w') := fun W hW => by
    rw [hpos.2.2]
    exact long_any (hv.keeps hW) (by have := hM.2.1; omega) (fun j hj => by have := chain_one hM.2.2.1 hj; unfold Place.One at this; omega)
  have O : Hid (∀ W : World, Calls Try.prog 49 #[opv o v] W fun e w' => e = .returned (.bool (ownB o)) ∧ Below W.heap.size W w') := fun W => refOwn_any W
  obtain ⟨n, hn⟩ : ∃ n, n = (all o.pl).length := ⟨_, rfl⟩
  obtain ⟨hp1, hp2, -⟩ := hpos
  obtain ⟨b, hb⟩ : ∃ b, ownB o = b := ⟨_, rfl⟩
  have hof : offs o = if b = true then 1 else 0 := by unfold offs; rw [hb]
  rw [← hn] at hp1 hp2 L ⊢
  rw [hb] at O
  rw [hof]
  obtain ⟨k, t, r, l, p, hk, ht, hr, hp⟩ := o
  unfold opv at O ⊢
  simp only at hv O ⊢
  have B0 : Hid (Below w.heap.size w (w.alloc (.cells #[.int .u8 (k : Int), .int .u32 (t : Int), .int .u8 (r : Int), v, .int .i64 p] 30))) := (Below.refl _ _).alloc (Nat.le_refl _) _
  clear hv hm hM hn hb hof
  cases b
  · simp only [Bool.false_eq_true, if_false, Nat.sub_zero]
    go_enter Try.func52, Try.ntmps52
    go_wp2_with fail
    refine (L.out _ B0.out).mono ?_
    rintro e w1 ⟨rfl, rfl⟩
    go_wp2_with fail
    refine (O.out _).mono ?_
    rintro e w2 ⟨rfl, b2⟩
    have B2 := Lib.hid (bt B0.out b2)
    clear b2
    go_wp2
    go_ret
    exact ⟨rfl, B2.out⟩
  · simp only [if_true]
    have e1 : IntKind.i64.wrap ((n : Int) - 1) = (n : Int) - 1 := IntWalk.i64_in _ (by omega)
    have e2 : ((n - 1 : Nat) : Int) = (n : Int) - 1 := by omega
    rw [e2]
    clear e2
    go_enter Try.func52, Try.ntmps52
    go_wp2_with fail
    refine (L.out _ B0.out).mono ?_
    rintro e w1 ⟨rfl, rfl⟩
    go_wp2_with fail
    refine (O.out _).mono ?_
    rintro e w2 ⟨rfl, b2⟩
    have B2 := Lib.hid (bt B0.out b2)
    clear b2
    go_wp2
    go_ret
    exact ⟨rfl, B2.out⟩

/-- A slice of stamps. -/
def Told1 (L : List Id) (w : World) (e : Ending) (w' : World) : Prop := ∃ ao cap, e = .returned (.slice ao L.length cap) ∧ Ids w' (.slice ao L.length cap) L ∧ Below w.heap.size w w'
theorem told1_of {S L : List Id} {ao : Option Addr} {n m cap : Nat} {w w2 : World} (hS : S = L.take m) (hm : m ≤ L.length) (I : Ids w2 (.slice ao n cap) L) (B : Below w.heap.size w w2) :
    Told1 S w (.returned (.slice ao m cap)) w2 := by
  have hl : S.length = m := by rw [hS, List.length_take]; omega
  refine ⟨ao, cap, by rw [hl], ?_, B⟩
  rw [hl, hS]
  exact idsTake I hm

set_option maxHeartbeats 2000000 in
theorem refStands_any {v : Value} {o : Opn} {w : World} (hv : Runs w v o.pl) (hm : mayB o.pl = true) :
    Calls Try.prog 30 #[opv o v] w (Told1 (standsL o) w) := by
  have hM := (mayB_iff o.pl).1 hm
  have hpos := all_pos hm
  have A : Hid (∀ W : World, Below w.heap.size w W → Calls Try.prog 51 #[v] W fun e w' => ∃ v', e = .returned v' ∧ w'.ownsRow W.heap.size 27 2 v' (all o.pl).length (ids (all o.pl)) ∧ Below W.heap.size W w') := fun W hW => all_any (hv.keeps hW) hM.2.2.1 (by have := hM.2.1; omega)
  have MY : Hid (∀ W : World, Below w.heap.size w W → Calls Try.prog 52 #[opv o v] W fun e w' => e = .returned (.int .i64 (((all o.pl).length - offs o : Nat) : Int)) ∧ Below W.heap.size W w') := fun W hW => refMany_any (hv.keeps hW) hm
  obtain ⟨S, hS⟩ : ∃ S, S = standsL o := ⟨_, rfl⟩
  rw [← hS]
  have hst : S = (all o.pl).take ((all o.pl).length - offs o) := hS
  obtain ⟨L, hL⟩ : ∃ L, L = all o.pl := ⟨_, rfl⟩
  rw [← hL] at A MY hst hpos
  obtain ⟨m, hmm⟩ : ∃ m, m = L.length - offs o := ⟨_, rfl⟩
  rw [← hmm] at MY hst
  have hml : m ≤ L.length := by omega
  obtain ⟨n, hn⟩ : ∃ n, n = L.length := ⟨_, rfl⟩
  rw [← hn] at A hml hpos
  obtain ⟨hp1, hp2, -⟩ := hpos
  have HST := Lib.hid hst
  have HN := Lib.hid hn
  obtain ⟨k, t, r, l, p, hk, ht, hr, hp⟩ := o
  unfold opv at MY ⊢
  simp only at hv MY ⊢
  have B0 : Hid (Below w.heap.size w (w.alloc (.cells #[.int .u8 (k : Int), .int .u32 (t : Int), .int .u8 (r : Int), v, .int .i64 p] 30))) := (Below.refl _ _).alloc (Nat.le_refl _) _
  clear hv hm hM hS hst hL hmm hn
  go_enter Try.func30, Try.ntmps30
  go_wp2_with fail
  refine (A.out _ B0.out).mono ?_
  rintro e w1 ⟨v', rfl, o1, b1⟩
  obtain ⟨c0, c1, c2, c3, c4⟩ := five_cells b1
  have i1 : Ids w1 v' L := Ids.own o1
  obtain ⟨ao, cap, rfl⟩ := i1.shape
  rw [← HN.out] at i1
  have B1 := Lib.hid (bt B0.out b1)
  have hcap := i1.cap
  have k1 : n ≤ cap := by have := hcap.2.1; have := HN.out; omega
  have I1 := Lib.hid i1
  rw [← HN.out]
  clear o1 b1 i1 hcap
  go_wp2_with fail
  refine (MY.out _ B1.out).mono ?_
  rintro e w2 ⟨rfl, b2⟩
  have B2 := Lib.hid (bt B1.out b2)
  have I2 : Hid (Ids w2 (.slice ao n cap) L) := I1.out.keeps b2
  have k2 : m ≤ cap := by omega
  clear b2 c0 c1 c2 c3 c4
  go_wp2
  go_ret
  exact told1_of HST.out (by have := HN.out; omega) I2.out B2.out

theorem refNeeds_any {v : Value} {o : Opn} {w : World} (hv : Runs w v o.pl) :
    Calls Try.prog 15 #[opv o v] w (Told (needsL o) (chkO o) w) := by
  have C : Hid (∀ W : World, Below w.heap.size w W → Calls Try.prog 29 #[opv o v] W fun e w' => e = .returned (.bool (mayO o)) ∧ Below W.heap.size W w') := fun W hW => refMayO_any (hv.keeps hW)
  cases hm : mayO o
  · have h1 : chkO o = 8 := by unfold chkO; rw [hm]; rfl
    have h2 : needsL o = [] := by unfold needsL; rw [hm]; rfl
    rw [hm] at C
    rw [h1, h2]
    obtain ⟨k, t, r, l, p, hk, ht, hr, hp⟩ := o
    unfold opv at C ⊢
    simp only at hv C ⊢
    have B0 : Hid (Below w.heap.size w (w.alloc (.cells #[.int .u8 (k : Int), .int .u32 (t : Int), .int .u8 (r : Int), v, .int .i64 p] 30))) := (Below.refl _ _).alloc (Nat.le_refl _) _
    clear hv hm h1 h2
    go_enter Try.func15, Try.ntmps15
    go_wp2_with fail
    refine (C.out _ B0.out).mono ?_
    rintro e w1 ⟨rfl, b1⟩
    have B1 := Lib.hid (bt B0.out b1)
    clear b1
    go_wp2
    go_ret2
    exact ⟨none, 0, rfl, Ids.nil _, B1.out⟩
  · have h1 : chkO o = 0 := by unfold chkO; rw [if_pos hm]
    have h2 : needsL o = standsL o := by unfold needsL; rw [if_pos hm]
    have SA : Hid (∀ W : World, Below w.heap.size w W → Calls Try.prog 30 #[opv o v] W (Told1 (standsL o) W)) := fun W hW => refStands_any (hv.keeps hW) (mayO_parts hm).2.1
    rw [hm] at C
    rw [h1, h2]
    obtain ⟨S, hS⟩ : ∃ S, S = standsL o := ⟨_, rfl⟩
    rw [← hS] at SA ⊢
    obtain ⟨k, t, r, l, p, hk, ht, hr, hp⟩ := o
    unfold opv at C SA ⊢
    simp only at hv C SA ⊢
    have B0 : Hid (Below w.heap.size w (w.alloc (.cells #[.int .u8 (k : Int), .int .u32 (t : Int), .int .u8 (r : Int), v, .int .i64 p] 30))) := (Below.refl _ _).alloc (Nat.le_refl _) _
    clear hv hm h1 h2 hS
    go_enter Try.func15, Try.ntmps15
    go_wp2_with fail
    refine (C.out _ B0.out).mono ?_
    rintro e w1 ⟨rfl, b1⟩
    obtain ⟨c0, c1, c2, c3, c4⟩ := five_cells b1
    have B1 := Lib.hid (bt B0.out b1)
    clear b1
    go_wp2_with fail
    refine (SA.out _ B1.out).mono ?_
    rintro e w2 ⟨ao, cap, rfl, i2, b2⟩
    have I2 := Lib.hid i2
    have B2 := Lib.hid (bt B1.out b2)
    clear i2 b2 c0 c1 c2 c3 c4
    go_wp2
    go_ret2
    exact ⟨ao, cap, rfl, I2.out, B2.out⟩
end Go.Proofs.Ytgeeaipdihlmhaa.Ops
