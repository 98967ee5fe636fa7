/- octavo/code.told: what it answers, where the next number is the reader's. Conditions: the reader's cells lie in one block; its bytes read as such. -/
import Derived.RegionTactic
import Derived.Test.YtelilmhnfmojkaaPk11

namespace Go.Proofs.Ytelilmhnfmojkaa.Codes
open Go.RowKit Go.Shelf Go.WideShapes Num Go.Proofs.Ytelilmhnfmojkaa.Place Ops
attribute [local go_sem ↓] Go.wp_at_zero Go.wp_at_succ

theorem own_set_ne {w : World} {P sz n g o : Nat} {e : TypeId} {v d : Value} {cs : List Value} (h : w.ownsRow P e sz v n cs) (hne : v.ownBlock ≠ some g) : (w.setCell ⟨g, o, none⟩ d).ownsRow P e sz v n cs :=
  ⟨h.1, h.2.imp id fun ⟨g', cap, cur, h1, h2, h3, h4⟩ => ⟨g', cap, cur, h1, h2, (heap_setCell_other _ _ _ _ (by rintro rfl; exact hne (by rw [h1]; rfl))).trans h3, h4⟩⟩
theorem set_other {X : World} {g k o : Nat} (d : Value) {ob : Obj} (hk : k ≠ g) (h : X.heap[k]? = some ob) : (X.setCell ⟨g, o, none⟩ d).heap[k]? = some ob := (heap_setCell_other _ _ _ _ hk).trans h
/-- Two cells in the midst of a block stored. -/
def put2 (X : World) (g : Nat) (d1 d2 : Value) : World := (X.setCell ⟨g, 1, none⟩ d1).setCell ⟨g, 2, none⟩ d2
theorem put2_same {X : World} {g : Nat} {c0 c1 c2 c3 c4 : Value} (d1 d2 : Value) {e : TypeId} (h : X.heap[g]? = some (.cells #[c0, c1, c2, c3, c4] e)) : (put2 X g d1 d2).heap[g]? = some (.cells #[c0, d1, d2, c3, c4] e) := by
  have h0 := heap_setCell_same X g 1 _ _ d1 h
  have h1 := heap_setCell_same _ g 2 _ _ d2 h0
  exact h1
theorem put2_other {X : World} {g k : Nat} (d1 d2 : Value) {o : Obj} (hk : k ≠ g) (h : X.heap[k]? = some o) : (put2 X g d1 d2).heap[k]? = some o := by
  unfold put2
  rw [heap_setCell_other _ _ _ _ hk, heap_setCell_other _ _ _ _ hk]
  exact h
/-- Where all else is as it was, but for a block above. -/
theorem Only.fresh {G g : Nat} {w X Y : World} (h : Only G w X) (hg : w.heap.size ≤ g) (hG : G < w.heap.size) (hs : X.heap.size ≤ Y.heap.size) (hb : Below g X Y) : Only G w Y :=
  ⟨⟨hb.os.trans h.below.os, hb.tape.trans h.below.tape, hb.output.trans h.below.output, Nat.le_trans h.below.size hs, fun i hi => (hb.block i (by omega)).trans (h.below.block i hi)⟩, fun j hj hne => (hb.block j (by omega)).trans (h.rest j hj hne)⟩
theorem Rd.below {n : Nat} {w w' : World} {G B : Nat} {vb : Value} {q : Option Nat} (h : Rd n w G vb q) (hb : Below B w w') (hG : G < B) : Rd n w' G vb q := by
  obtain ⟨s, c, h1, h2⟩ := h
  exact ⟨s, c, (hb.block G hG).trans h1, h2⟩
theorem own_put2 {X : World} {P sz n g : Nat} {e : TypeId} {v : Value} {cs : List Value} (d1 d2 : Value) (h : X.ownsRow P e sz v n cs) (hne : v.ownBlock ≠ some g) : (put2 X g d1 d2).ownsRow P e sz v n cs := own_set_ne (own_set_ne h hne) hne
theorem own_put5 {X : World} {P sz n g : Nat} {e : TypeId} {v : Value} {cs : List Value} (d0 d1 d2 d3 d4 : Value) (h : X.ownsRow P e sz v n cs) (hne : v.ownBlock ≠ some g) : (put5 X g d0 d1 d2 d3 d4).ownsRow P e sz v n cs := own_set_ne (own_set_ne (own_set_ne (own_set_ne (own_set_ne h hne) hne) hne) hne) hne
theorem put2_below {B g : Nat} {W X : World} (d1 d2 : Value) (hg : B ≤ g) (h : Below B W X) : Below B W (put2 X g d1 d2) :=
  (h.setCell (p := ⟨g, 1, none⟩) hg _).setCell (p := ⟨g, 2, none⟩) hg _
theorem opv_mkO {k t r : Nat} {l : List Run} {p : Int} {v : Value} (h1 : k < 256) (h2 : t < 4294967296) (h3 : r < 256) (h4 : -9223372036854775808 ≤ p ∧ p ≤ 9223372036854775807) :
    opv (mkO k t r l p) v = .agg #[.int .u8 (k : Int), .int .u32 (t : Int), .int .u8 (r : Int), v, .int .i64 p] := by
  obtain ⟨e1, e2, e3, e4, e5⟩ := mkO_fine (l := l) h1 h2 h3 h4
  unfold opv
  rw [e1, e2, e3, e5]
theorem last_nat (l : List Run) : ∃ lt lr : Nat, (lastV l).1 = (lt : Int) ∧ (lastV l).2 = (lr : Int) ∧ lt ≤ 1073741824 ∧ lr < 8 := by
  by_cases h : mayB l = true
  · have := last_fin h
    exact ⟨(lastV l).1.toNat, (lastV l).2.toNat, by omega, by omega, by omega, by omega⟩
  · exact ⟨0, 0, by unfold lastV; rw [if_neg h]; rfl, by unfold lastV; rw [if_neg h]; rfl, by omega, by omega⟩
theorem keep_told {G : Nat} {W W' : World} {A B T : Nat} {a0 a1 a2 a3 a4 b0 b1 b2 b3 b4 d0 d1 : Value} {e1 e2 e3 : TypeId} (HA : W.heap[A]? = some (.cells #[a0, a1, a2, a3, a4] e1)) (HB : W.heap[B]? = some (.cells #[b0, b1, b2, b3, b4] e2)) (HT : W.heap[T]? = some (.cells #[d0, d1] e3))
    (ho : Only G W W') (nA : A ≠ G) (nB : B ≠ G) (nT : T ≠ G) :
    W'.heap[A]? = some (.cells #[a0, a1, a2, a3, a4] e1) ∧ W'.heap[B]? = some (.cells #[b0, b1, b2, b3, b4] e2) ∧
    (W'.cell? ⟨A, 0, none⟩ = some a0 ∧ W'.cell? ⟨A, 1, none⟩ = some a1 ∧ W'.cell? ⟨A, 2, none⟩ = some a2 ∧ W'.cell? ⟨A, 3, none⟩ = some a3 ∧ W'.cell? ⟨A, 4, none⟩ = some a4) ∧
    (W'.cell? ⟨B, 0, none⟩ = some b0 ∧ W'.cell? ⟨B, 1, none⟩ = some b1 ∧ W'.cell? ⟨B, 2, none⟩ = some b2 ∧ W'.cell? ⟨B, 3, none⟩ = some b3 ∧ W'.cell? ⟨B, 4, none⟩ = some b4) ∧
    (W'.cell? ⟨T, 0, none⟩ = some d0 ∧ W'.cell? ⟨T, 1, none⟩ = some d1) ∧ (∀ o, W'.frozen? ⟨A, o, none⟩ = false) ∧ (∀ o, W'.frozen? ⟨B, o, none⟩ = false) := by
  have h1 := ho.obj HA nA
  have h2 := ho.obj HB nB
  have h3 := ho.obj HT nT
  exact ⟨h1, h2, cells5 h1, cells5 h2, ⟨(cells_blk h3).1, (cells_blk h3).2.1⟩, fun o => free5 h1 o, fun o => free5 h2 o⟩

/-- What told answers. -/
def Told2 (n : Nat) (vb : Value) (G : Nat) (o : Opn) (q : Option Nat) (w : World) (e : Ending) (w' : World) : Prop :=
  ∃ ao cap, e = .returned (opv o (.slice ao o.pl.length cap)) ∧ w'.ownsRow w.heap.size 71 3 (.slice ao o.pl.length cap) o.pl.length (runs o.pl) ∧ Rd n w' G vb q ∧ Only G w w'

set_option maxRecDepth 100000 in
set_option maxHeartbeats 8000000 in
theorem told_any {xs : List UInt8} {n base : Nat} {vb : Value} {w0 w : World} {G : Nat} {q : Option Nat} (h : Src xs n vb w0 base) (hb : Below base w0 w) (hB : base ≤ G) (hr : Rd n w G vb q) :
    Calls Try.prog 45 #[nextV G] w (Told2 n vb G (toldF xs q).1 (toldF xs q).2 w) := by
  have hG : G < w.heap.size := by
    obtain ⟨_, _, h1, _⟩ := hr
    exact (Array.getElem?_eq_some_iff.1 h1).1
  have HGS := Lib.hid hG
  have SRC : Hid (∀ (W : World) (q : Option Nat) (m : Int), Only G w W → Rd n W G vb q → Calls Try.prog 26 #[.pointer (some ⟨G, 0, none⟩), .int .i64 m] W fun e w' => e = .returned (.int .i64 ((nextF xs m q).1 : Int)) ∧ Rd n w' G vb (nextF xs m q).2 ∧ Only G W w') := fun W q m ho hr => h.next (hb.trans (ho.below.mono hB)) hr m
  have TIM : Hid (∀ (W : World) (q : Option Nat) (a : Int), Only G w W → Rd n W G vb q → -2 ≤ a ∧ a ≤ 10000000000 → Calls Try.prog 64 #[.int .i64 a, .func (.func 26) #[.pointer (some ⟨G, 0, none⟩)] #[]] W fun e w' => e = .returned (.int .u32 ((timeF xs a q).1 : Int)) ∧ Rd n w' G vb (timeF xs a q).2 ∧ Only G W w') := fun W q a ho hr ha => timeBehind_any h (hb.trans (ho.below.mono hB)) hr a ha
  have RUNS : Hid (∀ (W : World) (q : Option Nat), Only G w W → Rd n W G vb q → Calls Try.prog 63 #[.func (.func 26) #[.pointer (some ⟨G, 0, none⟩)] #[]] W (Ran n vb G (runsF xs (nextF xs 64 q).1 0 (nextF xs 64 q).2).1 (runsF xs (nextF xs 64 q).1 0 (nextF xs 64 q).2).2 W)) := fun W q ho hr => runs_any h (hb.trans (ho.below.mono hB)) hB hr
  have A1 : Hid (Only G w (w.alloc (.cells #[.int .u8 0, .int .u32 0, .int .u8 0, .slice none 0 0, .int .i64 0] 35))) := Only.alloc G w _ (by omega)
  have X1 : Hid ((w.alloc (.cells #[.int .u8 0, .int .u32 0, .int .u8 0, .slice none 0 0, .int .i64 0] 35)).heap[w.heap.size]? = some (.cells #[.int .u8 0, .int .u32 0, .int .u8 0, .slice none 0 0, .int .i64 0] 35)) := heap_alloc_new w _
  have N := Lib.hid (SRC.out _ q 255 A1.out (hr.keeps ((Below.refl _ _).alloc (Nat.le_refl _) (.cells #[.int .u8 0, .int .u32 0, .int .u8 0, .slice none 0 0, .int .i64 0] 35))))
  unfold toldF
  have b1 := next_le xs 255 q
  obtain ⟨⟨k, qa⟩, hk⟩ : ∃ z, nextF xs 255 q = z := ⟨_, rfl⟩
  rw [hk] at N b1 ⊢
  simp only at N b1 ⊢
  have hk5 : k < 256 := by omega
  obtain ⟨⟨l, qb⟩, hl⟩ : ∃ z, runsF xs (nextF xs 64 qa).1 0 (nextF xs 64 qa).2 = z := ⟨_, rfl⟩
  rw [hl]
  have HL := Lib.hid hl
  simp only
  obtain ⟨⟨oo, qf⟩, hres⟩ : ∃ z, restF xs k l qb = z := ⟨_, rfl⟩
  rw [hres]
  have HRES := Lib.hid hres
  simp only
  have ek : IntKind.u8.wrap (k : Int) = (k : Int) := by rw [IntKind.wrap_u8]; omega
  obtain ⟨lt, lr, hlt, hlr, hlt2, hlr2⟩ := last_nat l
  have LA : Hid (∀ (W : World) (v : Value), Runs W v l → Calls Try.prog 56 #[v] W fun e w' => e = .returned (.agg #[.int .u32 (lt : Int), .int .u8 (lr : Int)]) ∧ Below W.heap.size W w') := fun W v h => by
    rw [← hlt, ← hlr]; exact pLast_any h
  have HLT : Hid ((lastV l).1.toNat = lt ∧ (lastV l).2.toNat = lr ∧ (lastV l).1 = (lt : Int)) := by unfold Hid; omega
  obtain ⟨ll, hll⟩ : ∃ ll, l.length = ll := ⟨_, rfl⟩
  have HLL := Lib.hid hll
  have eg := enters_of Try.func26 (by kernel_rfl) rfl
  have ez : IntKind.u8.wrap 0 = 0 := by rw [IntKind.wrap_u8]; omega
  unfold nextV
  clear hk b1 h hb hB hr hl hlt hlr hll hG hres
  go_enter Try.func45, Try.ntmps45
  go_wp2_with fail
  refine N.out.mono ?_
  rintro e w1 ⟨rfl, r1, o1⟩
  have R1 := Lib.hid r1
  have O1 := Lib.hid (A1.out.trans o1)
  have X2 : Hid (w1.heap[w.heap.size]? = some (.cells #[.int .u8 0, .int .u32 0, .int .u8 0, .slice none 0 0, .int .i64 0] 35)) := o1.obj X1.out (by have := HGS.out; omega)
  clear r1 o1 N X1 A1
  go_wp2_with fail
  refine (RUNS.out _ _ O1.out R1.out).mono ?_
  rintro e w2 ⟨v, rfl, hv, r2, o2⟩
  rw [HL.out] at hv r2
  simp only at hv r2
  rw [HLL.out] at hv
  obtain ⟨ao, cap, rfl⟩ : ∃ ao cap, v = .slice ao ll cap := Sees.shape (Sees.own hv)
  have hvlt := hv.lt
  have s12 : w.heap.size < w1.heap.size := (Array.getElem?_eq_some_iff.1 X2.out).1
  have NA : Hid ((Value.slice ao ll cap).ownBlock ≠ some w.heap.size) := fun e => by have := (hvlt _ e).1; omega
  have NB : Hid ((Value.slice ao ll cap).ownBlock ≠ some w2.heap.size) := fun e => by have := (hvlt _ e).2; omega
  have R2 := Lib.hid r2
  have O2 := Lib.hid (O1.out.trans o2)
  have X3 : Hid (w2.heap[w.heap.size]? = some (.cells #[.int .u8 0, .int .u32 0, .int .u8 0, .slice none 0 0, .int .i64 0] 35)) := o2.obj X2.out (by have := HGS.out; omega)
  have s2 : w.heap.size < w2.heap.size := by have := o2.size; omega
  have V2 : Hid (w2.ownsRow w.heap.size 71 3 (.slice ao ll cap) ll (runs l)) := op_base hv (by omega)
  have Y3 : Hid ((w2.alloc (.cells #[.int .u8 (k : Int), .int .u32 0, .int .u8 0, .slice ao ll cap, .int .i64 0] 35)).heap[w2.heap.size]? = some (.cells #[.int .u8 (k : Int), .int .u32 0, .int .u8 0, .slice ao ll cap, .int .i64 0] 35)) := heap_alloc_new _ _
  have bA : Below w2.heap.size w2 (w2.alloc (.cells #[.int .u8 (k : Int), .int .u32 0, .int .u8 0, .slice ao ll cap, .int .i64 0] 35)) := (Below.refl _ _).alloc (Nat.le_refl _) _
  have R3 := Lib.hid (R2.out.keeps bA)
  have O3 := Lib.hid (O2.out.trans (Only.of bA (by have := HGS.out; omega)))
  have V3 := Lib.hid (own_stays V2.out bA)
  have X4 : Hid ((w2.alloc (.cells #[.int .u8 (k : Int), .int .u32 0, .int .u8 0, .slice ao ll cap, .int .i64 0] 35)).heap[w.heap.size]? = some (.cells #[.int .u8 0, .int .u32 0, .int .u8 0, .slice none 0 0, .int .i64 0] 35)) := blk_old X3.out
  have LV : Hid (Runs (w2.alloc (.cells #[.int .u8 (k : Int), .int .u32 0, .int .u8 0, .slice ao ll cap, .int .i64 0] 35)) (.slice ao ll cap) l) := by have := V3.out; rw [← HLL.out] at this ⊢; exact Runs.own this
  have hS2 := Lib.hid s2
  clear hv hvlt r2 o2 O1 R1 X2 R2 O2 V2 bA X3 s12 s2
  go_wp2_with fail
  refine (LA.out _ _ LV.out).mono ?_
  rintro e w3 ⟨rfl, b3⟩
  have s3 : w2.heap.size < w3.heap.size := by have := b3.size; simp at this; omega
  have bB : Below (w2.alloc (.cells #[.int .u8 (k : Int), .int .u32 0, .int .u8 0, .slice ao ll cap, .int .i64 0] 35)).heap.size (w2.alloc (.cells #[.int .u8 (k : Int), .int .u32 0, .int .u8 0, .slice ao ll cap, .int .i64 0] 35)) (w3.alloc (.cells #[.int .u32 (lt : Int), .int .u8 (lr : Int)] 32)) := b3.alloc b3.size _
  have R4 := Lib.hid (R3.out.keeps bB)
  have O4 := Lib.hid (O3.out.trans (Only.of bB (by have := HGS.out; have := hS2.out; simp; omega)))
  have V4 := Lib.hid (own_stays V3.out bB)
  have X5 : Hid ((w3.alloc (.cells #[.int .u32 (lt : Int), .int .u8 (lr : Int)] 32)).heap[w.heap.size]? = some (.cells #[.int .u8 0, .int .u32 0, .int .u8 0, .slice none 0 0, .int .i64 0] 35)) := blk_below bB X4.out
  have y3 := blk_below b3 Y3.out
  have Y5 : Hid ((w3.alloc (.cells #[.int .u32 (lt : Int), .int .u8 (lr : Int)] 32)).heap[w2.heap.size]? = some (.cells #[.int .u8 (k : Int), .int .u32 0, .int .u8 0, .slice ao ll cap, .int .i64 0] 35)) := blk_below bB Y3.out
  have T5 : Hid ((w3.alloc (.cells #[.int .u32 (lt : Int), .int .u8 (lr : Int)] 32)).heap[w3.heap.size]? = some (.cells #[.int .u32 (lt : Int), .int .u8 (lr : Int)] 32)) := heap_alloc_new _ _
  obtain ⟨y0, y1, y2, y3', y4⟩ := cells5 y3
  have HS3 := Lib.hid s3
  clear b3 bB R3 O3 V3 X4 Y3 LV y3 s3
  go_upto_region 3 with fail
  generalize w3.alloc (.cells #[.int .u32 (lt : Int), .int .u8 (lr : Int)] 32) = Wq at R4 O4 V4 X5 Y5 T5 ⊢
  generalize w3.heap.size = T at T5 HS3 ⊢
  clear y0 y1 y2 y3' y4
  have hres := HRES.out
  unfold restF at hres
  clear HRES
  by_cases k1 : k = 1
  · rw [if_pos k1, HLT.out.1, HLT.out.2.1] at hres
    obtain ⟨z0, z1, z2, z3, z4⟩ := cells5 Y5.out
    have bp := next_le xs 1114111 qb
    obtain ⟨⟨pp, qd⟩, hpp⟩ : ∃ y, nextF xs 1114111 qb = y := ⟨_, rfl⟩
    rw [hpp] at hres bp
    simp only at hres bp
    obtain ⟨rfl, rfl⟩ := Prod.mk.inj hres
    have HPP := Lib.hid hpp
    have hp2 : pp ≤ 1114111 := by omega
    clear hpp bp hres
    obtain ⟨t0, t1, -, -⟩ := cells_blk T5.out
    go_wp2
    have NP := Lib.hid (SRC.out Wq.drew qb 1114111 (O4.out.trans ⟨(Below.refl _ _).drew, fun _ _ _ => rfl⟩) R4.out)
    rw [HPP.out] at NP
    have KT : Hid (∀ W' : World, Only G Wq.drew W' → _) := fun W' h => keep_told (W := Wq.drew) X5.out Y5.out T5.out h (by have := HGS.out; omega) (by have := HGS.out; have := hS2.out; omega) (by have := HGS.out; have := hS2.out; have := HS3.out; omega)
    have hne : ¬ w.heap.size = w2.heap.size := by have := hS2.out; omega
    have hne2 : ¬ w2.heap.size = w.heap.size := by have := hS2.out; omega
    have ep : pp ≤ 1114111 := hp2
    have V4' : Hid (Wq.drew.ownsRow w.heap.size 71 3 (.slice ao ll cap) ll (runs l)) := V4.out
    have O4' : Hid (Only G w Wq.drew) := O4.out.trans ⟨(Below.refl _ _).drew, fun _ _ _ => rfl⟩
    go_region_with (first | (go_at_call 26; refine (NP.out).mono ?_; rintro e w5 ⟨rfl, r5, o5⟩; have h9 := KT.out _ o5; obtain ⟨ha, hb, ⟨x0, x1, x2, x3, x4⟩, ⟨y0, y1, y2, y3, y4⟩, ⟨u0, u1⟩, f1, f2⟩ := h9; have R5 := Lib.hid r5; have O5 := Lib.hid (O4'.out.trans o5); have V5 := Lib.hid (own_only V4'.out o5 HGS.out); have X6 := Lib.hid ha; have Y6 := Lib.hid hb; clear r5 o5 ha hb))
    all_goals
      go_wp2_with fail
      obtain ⟨W2, hW⟩ : ∃ W2, W2 = (put2 w5 w2.heap.size (.int .u32 (lt : Int)) (.int .u8 (lr : Int))).setCell ⟨w2.heap.size, 4, none⟩ (.int .i64 (pp : Int)) := ⟨_, rfl⟩
      have OW : Hid (((put2 w5 w2.heap.size (.int .u32 (lt : Int)) (.int .u8 (lr : Int))).setCell ⟨w2.heap.size, 4, none⟩ (.int .i64 (pp : Int))).ownsRow w.heap.size 71 3 (.slice ao ll cap) ll (runs l)) := own_set_ne (own_put2 (.int .u32 (lt : Int)) (.int .u8 (lr : Int)) V5.out NB.out) NB.out
      have HA := Lib.hid (set_other (g := w2.heap.size) (o := 4) (.int .i64 (pp : Int)) hne (put2_other (g := w2.heap.size) (.int .u32 (lt : Int)) (.int .u8 (lr : Int)) hne X6.out))
      have BW : Below w2.heap.size w5 ((put2 w5 w2.heap.size (.int .u32 (lt : Int)) (.int .u8 (lr : Int))).setCell ⟨w2.heap.size, 4, none⟩ (.int .i64 (pp : Int))) := (put2_below (.int .u32 (lt : Int)) (.int .u8 (lr : Int)) (Nat.le_refl w2.heap.size) (Below.refl w2.heap.size w5)).setCell (p := ⟨w2.heap.size, 4, none⟩) (Nat.le_refl _) _
      have RD := Lib.hid (Rd.below (B := w2.heap.size) R5.out BW (by have := HGS.out; have := hS2.out; omega))
      have ON := Lib.hid (O5.out.fresh (by have := hS2.out; omega) HGS.out BW.size BW)
      rw [← hW] at OW HA RD ON
      unfold put2 at hW
      rw [← hW]
      obtain ⟨WF, hWF⟩ : ∃ WF, WF = put5 W2 w.heap.size (.int .u8 1) (.int .u32 (lt : Int)) (.int .u8 (lr : Int)) (.slice ao ll cap) (.int .i64 (pp : Int)) := ⟨_, rfl⟩
      have OF := own_put5 (.int .u8 1) (.int .u32 (lt : Int)) (.int .u8 (lr : Int)) (.slice ao ll cap) (.int .i64 (pp : Int)) OW.out NA.out
      have HF := put5_same (.int .u8 1) (.int .u32 (lt : Int)) (.int .u8 (lr : Int)) (.slice ao ll cap) (.int .i64 (pp : Int)) HA.out
      have BF := put5_below (.int .u8 1) (.int .u32 (lt : Int)) (.int .u8 (lr : Int)) (.slice ao ll cap) (.int .i64 (pp : Int)) (Nat.le_refl w.heap.size) (Below.refl w.heap.size W2)
      have RF := RD.out.below BF HGS.out
      have NF := ON.out.fresh (Nat.le_refl _) HGS.out BF.size BF
      rw [← hWF] at OF HF BF RF NF
      unfold put5 at hWF
      rw [← hWF]
      obtain ⟨e0, e1, e2, e3, e4⟩ := cells5 HF
      have OPV : opv (mkO 1 lt lr l (pp : Int)) (.slice ao ll cap) = .agg #[.int .u8 1, .int .u32 (lt : Int), .int .u8 (lr : Int), .slice ao ll cap, .int .i64 (pp : Int)] := by
        rw [opv_mkO (by omega) (by omega) (by omega) (by omega)]
        rfl
      have PL : (mkO 1 lt lr l (pp : Int)).pl.length = ll := HLL.out
      refine bodyPost_ret (v := .agg #[.int .u8 1, .int .u32 (lt : Int), .int .u8 (lr : Int), .slice ao ll cap, .int .i64 (pp : Int)]) (by simp [results, Try.results45, go_sem, e0, e1, e2, e3, e4]) rfl ⟨ao, cap, by rw [PL, OPV], ?_, RF, NF⟩
      rw [PL]
      exact OF
  · rw [if_neg k1] at hres
    have q5 : ((k : Int) == 1) = false := by simp; omega
    by_cases k2 : k = 2
    · rw [if_pos k2, HLT.out.1, HLT.out.2.1] at hres
      obtain ⟨rfl, rfl⟩ := Prod.mk.inj hres
      have q6 : ((k : Int) == 2) = true := by simp; omega
      obtain ⟨x0, x1, x2, x3, x4⟩ := cells5 X5.out
      have f1 : ∀ o, Wq.frozen? ⟨w.heap.size, o, none⟩ = false := fun o => free5 X5.out o
      have f2 : ∀ o, Wq.frozen? ⟨w2.heap.size, o, none⟩ = false := fun o => free5 Y5.out o
      obtain ⟨z0, z1, z2, z3, z4⟩ := cells5 Y5.out
      obtain ⟨t0, t1, -, -⟩ := cells_blk T5.out
      have hne : ¬ w.heap.size = w2.heap.size := by have := hS2.out; omega
      have hne2 : ¬ w2.heap.size = w.heap.size := by have := hS2.out; omega
      go_wp2_with fail
      obtain ⟨W2, hW⟩ : ∃ W2, W2 = put2 Wq w2.heap.size (.int .u32 (lt : Int)) (.int .u8 (lr : Int)) := ⟨_, rfl⟩
      have OW := Lib.hid (own_put2 (.int .u32 (lt : Int)) (.int .u8 (lr : Int)) V4.out NB.out)
      have HA := Lib.hid (put2_other (.int .u32 (lt : Int)) (.int .u8 (lr : Int)) hne X5.out)
      have BW := put2_below (.int .u32 (lt : Int)) (.int .u8 (lr : Int)) (Nat.le_refl w2.heap.size) (Below.refl w2.heap.size Wq)
      have RD := Lib.hid (Rd.below (B := w2.heap.size) R4.out BW (by have := HGS.out; have := hS2.out; omega))
      have ON := Lib.hid (O4.out.fresh (by have := hS2.out; omega) HGS.out BW.size BW)
      rw [← hW] at OW HA RD ON
      unfold put2 at hW
      rw [← hW]
      obtain ⟨WF, hWF⟩ : ∃ WF, WF = put5 W2 w.heap.size (.int .u8 2) (.int .u32 (lt : Int)) (.int .u8 (lr : Int)) (.slice ao ll cap) (.int .i64 0) := ⟨_, rfl⟩
      have OF := own_put5 (.int .u8 2) (.int .u32 (lt : Int)) (.int .u8 (lr : Int)) (.slice ao ll cap) (.int .i64 0) OW.out NA.out
      have HF := put5_same (.int .u8 2) (.int .u32 (lt : Int)) (.int .u8 (lr : Int)) (.slice ao ll cap) (.int .i64 0) HA.out
      have BF := put5_below (.int .u8 2) (.int .u32 (lt : Int)) (.int .u8 (lr : Int)) (.slice ao ll cap) (.int .i64 0) (Nat.le_refl w.heap.size) (Below.refl w.heap.size W2)
      have RF := RD.out.below BF HGS.out
      have NF := ON.out.fresh (Nat.le_refl _) HGS.out BF.size BF
      rw [← hWF] at OF HF BF RF NF
      unfold put5 at hWF
      rw [← hWF]
      obtain ⟨e0, e1, e2, e3, e4⟩ := cells5 HF
      have OPV : opv (mkO 2 lt lr l 0) (.slice ao ll cap) = .agg #[.int .u8 2, .int .u32 (lt : Int), .int .u8 (lr : Int), .slice ao ll cap, .int .i64 0] := by
        rw [opv_mkO (by omega) (by omega) (by omega) (by omega)]
        rfl
      have PL : (mkO 2 lt lr l 0).pl.length = ll := HLL.out
      refine bodyPost_ret (v := .agg #[.int .u8 2, .int .u32 (lt : Int), .int .u8 (lr : Int), .slice ao ll cap, .int .i64 0]) (by simp [results, Try.results45, go_sem, e0, e1, e2, e3, e4]) rfl ⟨ao, cap, by rw [PL, OPV], ?_, RF, NF⟩
      rw [PL]
      exact OF
    · rw [if_neg k2] at hres
      have q6 : ((k : Int) == 2) = false := by simp; omega
      by_cases k3 : k = 3 ∨ k = 4
      · rw [if_pos k3, HLT.out.2.2] at hres
        have TM := Lib.hid (TIM.out Wq qb lt O4.out R4.out (by omega))
        have bt := time_lt xs (lt : Int) qb
        obtain ⟨⟨u, qc⟩, hu⟩ : ∃ y, timeF xs (lt : Int) qb = y := ⟨_, rfl⟩
        rw [hu] at TM hres bt
        simp only at TM hres bt
        have br := next_le xs 255 qc
        obtain ⟨⟨rr, qd⟩, hrr⟩ : ∃ y, nextF xs 255 qc = y := ⟨_, rfl⟩
        rw [hrr] at hres br
        simp only at hres br
        obtain ⟨rfl, rfl⟩ := Prod.mk.inj hres
        have HRR := Lib.hid hrr
        have hr8 : rr < 256 := by omega
        have er : IntKind.u8.wrap (rr : Int) = (rr : Int) := by rw [IntKind.wrap_u8]; omega
        clear hu hrr br hres
        obtain ⟨z0, z1, z2, z3, z4⟩ := cells5 Y5.out
        obtain ⟨t0, t1, -, -⟩ := cells_blk T5.out
        rcases k3 with k3 | k3
        · have q7 : ((k : Int) == 3) = true := by simp; omega
          go_wp2_with fail
          refine TM.out.mono ?_
          rintro e w5 ⟨rfl, r5, o5⟩
          have R5 := Lib.hid r5
          have O5 := Lib.hid (O4.out.trans o5)
          have V5 := Lib.hid (own_only V4.out o5 HGS.out)
          have X6 : Hid (w5.heap[w.heap.size]? = some (.cells #[.int .u8 0, .int .u32 0, .int .u8 0, .slice none 0 0, .int .i64 0] 35)) := o5.obj X5.out (by have := HGS.out; omega)
          have Y6 : Hid (w5.heap[w2.heap.size]? = some (.cells #[.int .u8 (k : Int), .int .u32 0, .int .u8 0, .slice ao ll cap, .int .i64 0] 35)) := o5.obj Y5.out (by have := HGS.out; have := hS2.out; omega)
          clear r5 o5 O4 R4 V4 X5 Y5 T5 TM z0 z1 z2 z3 z4 t0 t1
          go_wp2_with fail
          refine (SRC.out _ _ _ O5.out R5.out).mono ?_
          rintro e w6 ⟨rfl, r6, o6⟩
          rw [HRR.out] at r6 ⊢
          simp only at r6 ⊢
          have R6 := Lib.hid r6
          have O6 := Lib.hid (O5.out.trans o6)
          have V6 := Lib.hid (own_only V5.out o6 HGS.out)
          have X7 : Hid (w6.heap[w.heap.size]? = some (.cells #[.int .u8 0, .int .u32 0, .int .u8 0, .slice none 0 0, .int .i64 0] 35)) := o6.obj X6.out (by have := HGS.out; omega)
          have Y7 : Hid (w6.heap[w2.heap.size]? = some (.cells #[.int .u8 (k : Int), .int .u32 0, .int .u8 0, .slice ao ll cap, .int .i64 0] 35)) := o6.obj Y6.out (by have := HGS.out; have := hS2.out; omega)
          clear r6 o6 O5 R5 V5 X6 Y6
          obtain ⟨x0, x1, x2, x3, x4⟩ := cells5 X7.out
          have f1 : ∀ o, w6.frozen? ⟨w.heap.size, o, none⟩ = false := fun o => free5 X7.out o
          have f2 : ∀ o, w6.frozen? ⟨w2.heap.size, o, none⟩ = false := fun o => free5 Y7.out o
          obtain ⟨z0, z1, z2, z3, z4⟩ := cells5 Y7.out
          have hne : ¬ w.heap.size = w2.heap.size := by have := hS2.out; omega
          have hne2 : ¬ w2.heap.size = w.heap.size := by have := hS2.out; omega
          go_wp2_with fail
          obtain ⟨W2, hW⟩ : ∃ W2, W2 = put2 w6 w2.heap.size (.int .u32 (u : Int)) (.int .u8 (rr : Int)) := ⟨_, rfl⟩
          have OW := Lib.hid (own_put2 (.int .u32 (u : Int)) (.int .u8 (rr : Int)) V6.out NB.out)
          have HA := Lib.hid (put2_other (.int .u32 (u : Int)) (.int .u8 (rr : Int)) hne X7.out)
          have BW := put2_below (.int .u32 (u : Int)) (.int .u8 (rr : Int)) (Nat.le_refl w2.heap.size) (Below.refl w2.heap.size w6)
          have RD := Lib.hid (Rd.below (B := w2.heap.size) R6.out BW (by have := HGS.out; have := hS2.out; omega))
          have ON := Lib.hid (O6.out.fresh (by have := hS2.out; omega) HGS.out BW.size BW)
          rw [← hW] at OW HA RD ON
          unfold put2 at hW
          rw [← hW]
          obtain ⟨WF, hWF⟩ : ∃ WF, WF = put5 W2 w.heap.size (.int .u8 3) (.int .u32 (u : Int)) (.int .u8 (rr : Int)) (.slice ao ll cap) (.int .i64 0) := ⟨_, rfl⟩
          have OF := own_put5 (.int .u8 3) (.int .u32 (u : Int)) (.int .u8 (rr : Int)) (.slice ao ll cap) (.int .i64 0) OW.out NA.out
          have HF := put5_same (.int .u8 3) (.int .u32 (u : Int)) (.int .u8 (rr : Int)) (.slice ao ll cap) (.int .i64 0) HA.out
          have BF := put5_below (.int .u8 3) (.int .u32 (u : Int)) (.int .u8 (rr : Int)) (.slice ao ll cap) (.int .i64 0) (Nat.le_refl w.heap.size) (Below.refl w.heap.size W2)
          have RF := RD.out.below BF HGS.out
          have NF := ON.out.fresh (Nat.le_refl _) HGS.out BF.size BF
          rw [← hWF] at OF HF BF RF NF
          unfold put5 at hWF
          rw [← hWF]
          obtain ⟨e0, e1, e2, e3, e4⟩ := cells5 HF
          have OPV : opv (mkO k u rr l 0) (.slice ao ll cap) = .agg #[.int .u8 3, .int .u32 (u : Int), .int .u8 (rr : Int), .slice ao ll cap, .int .i64 0] := by
            rw [opv_mkO (by omega) (by omega) (by omega) (by omega)]
            rw [k3]; rfl
          have PL : (mkO k u rr l 0).pl.length = ll := HLL.out
          refine bodyPost_ret (v := .agg #[.int .u8 3, .int .u32 (u : Int), .int .u8 (rr : Int), .slice ao ll cap, .int .i64 0]) (by simp [results, Try.results45, go_sem, e0, e1, e2, e3, e4]) rfl ⟨ao, cap, by rw [PL, OPV], ?_, RF, NF⟩
          rw [PL]
          exact OF
        · have q7 : ((k : Int) == 3) = false := by simp; omega
          have q8 : ((k : Int) == 4) = true := by simp; omega
          go_wp2_with fail
          refine TM.out.mono ?_
          rintro e w5 ⟨rfl, r5, o5⟩
          have R5 := Lib.hid r5
          have O5 := Lib.hid (O4.out.trans o5)
          have V5 := Lib.hid (own_only V4.out o5 HGS.out)
          have X6 : Hid (w5.heap[w.heap.size]? = some (.cells #[.int .u8 0, .int .u32 0, .int .u8 0, .slice none 0 0, .int .i64 0] 35)) := o5.obj X5.out (by have := HGS.out; omega)
          have Y6 : Hid (w5.heap[w2.heap.size]? = some (.cells #[.int .u8 (k : Int), .int .u32 0, .int .u8 0, .slice ao ll cap, .int .i64 0] 35)) := o5.obj Y5.out (by have := HGS.out; have := hS2.out; omega)
          clear r5 o5 O4 R4 V4 X5 Y5 T5 TM z0 z1 z2 z3 z4 t0 t1
          go_wp2_with fail
          refine (SRC.out _ _ _ O5.out R5.out).mono ?_
          rintro e w6 ⟨rfl, r6, o6⟩
          rw [HRR.out] at r6 ⊢
          simp only at r6 ⊢
          have R6 := Lib.hid r6
          have O6 := Lib.hid (O5.out.trans o6)
          have V6 := Lib.hid (own_only V5.out o6 HGS.out)
          have X7 : Hid (w6.heap[w.heap.size]? = some (.cells #[.int .u8 0, .int .u32 0, .int .u8 0, .slice none 0 0, .int .i64 0] 35)) := o6.obj X6.out (by have := HGS.out; omega)
          have Y7 : Hid (w6.heap[w2.heap.size]? = some (.cells #[.int .u8 (k : Int), .int .u32 0, .int .u8 0, .slice ao ll cap, .int .i64 0] 35)) := o6.obj Y6.out (by have := HGS.out; have := hS2.out; omega)
          clear r6 o6 O5 R5 V5 X6 Y6
          obtain ⟨x0, x1, x2, x3, x4⟩ := cells5 X7.out
          have f1 : ∀ o, w6.frozen? ⟨w.heap.size, o, none⟩ = false := fun o => free5 X7.out o
          have f2 : ∀ o, w6.frozen? ⟨w2.heap.size, o, none⟩ = false := fun o => free5 Y7.out o
          obtain ⟨z0, z1, z2, z3, z4⟩ := cells5 Y7.out
          have hne : ¬ w.heap.size = w2.heap.size := by have := hS2.out; omega
          have hne2 : ¬ w2.heap.size = w.heap.size := by have := hS2.out; omega
          go_wp2_with fail
          obtain ⟨W2, hW⟩ : ∃ W2, W2 = put2 w6 w2.heap.size (.int .u32 (u : Int)) (.int .u8 (rr : Int)) := ⟨_, rfl⟩
          have OW := Lib.hid (own_put2 (.int .u32 (u : Int)) (.int .u8 (rr : Int)) V6.out NB.out)
          have HA := Lib.hid (put2_other (.int .u32 (u : Int)) (.int .u8 (rr : Int)) hne X7.out)
          have BW := put2_below (.int .u32 (u : Int)) (.int .u8 (rr : Int)) (Nat.le_refl w2.heap.size) (Below.refl w2.heap.size w6)
          have RD := Lib.hid (Rd.below (B := w2.heap.size) R6.out BW (by have := HGS.out; have := hS2.out; omega))
          have ON := Lib.hid (O6.out.fresh (by have := hS2.out; omega) HGS.out BW.size BW)
          rw [← hW] at OW HA RD ON
          unfold put2 at hW
          rw [← hW]
          obtain ⟨WF, hWF⟩ : ∃ WF, WF = put5 W2 w.heap.size (.int .u8 4) (.int .u32 (u : Int)) (.int .u8 (rr : Int)) (.slice ao ll cap) (.int .i64 0) := ⟨_, rfl⟩
          have OF := own_put5 (.int .u8 4) (.int .u32 (u : Int)) (.int .u8 (rr : Int)) (.slice ao ll cap) (.int .i64 0) OW.out NA.out
          have HF := put5_same (.int .u8 4) (.int .u32 (u : Int)) (.int .u8 (rr : Int)) (.slice ao ll cap) (.int .i64 0) HA.out
          have BF := put5_below (.int .u8 4) (.int .u32 (u : Int)) (.int .u8 (rr : Int)) (.slice ao ll cap) (.int .i64 0) (Nat.le_refl w.heap.size) (Below.refl w.heap.size W2)
          have RF := RD.out.below BF HGS.out
          have NF := ON.out.fresh (Nat.le_refl _) HGS.out BF.size BF
          rw [← hWF] at OF HF BF RF NF
          unfold put5 at hWF
          rw [← hWF]
          obtain ⟨e0, e1, e2, e3, e4⟩ := cells5 HF
          have OPV : opv (mkO k u rr l 0) (.slice ao ll cap) = .agg #[.int .u8 4, .int .u32 (u : Int), .int .u8 (rr : Int), .slice ao ll cap, .int .i64 0] := by
            rw [opv_mkO (by omega) (by omega) (by omega) (by omega)]
            rw [k3]; rfl
          have PL : (mkO k u rr l 0).pl.length = ll := HLL.out
          refine bodyPost_ret (v := .agg #[.int .u8 4, .int .u32 (u : Int), .int .u8 (rr : Int), .slice ao ll cap, .int .i64 0]) (by simp [results, Try.results45, go_sem, e0, e1, e2, e3, e4]) rfl ⟨ao, cap, by rw [PL, OPV], ?_, RF, NF⟩
          rw [PL]
          exact OF
      · rw [if_neg k3] at hres
        obtain ⟨rfl, rfl⟩ := Prod.mk.inj hres
        have q7 : ((k : Int) == 3) = false := by simp; omega
        have q8 : ((k : Int) == 4) = false := by simp; omega
        obtain ⟨x0, x1, x2, x3, x4⟩ := cells5 X5.out
        have f1 : ∀ o, Wq.frozen? ⟨w.heap.size, o, none⟩ = false := fun o => free5 X5.out o
        obtain ⟨z0, z1, z2, z3, z4⟩ := cells5 Y5.out
        have OW := V4
        have HA := X5
        have RD := R4
        have ON := O4
        go_wp2_with fail
        obtain ⟨WF, hWF⟩ : ∃ WF, WF = put5 Wq w.heap.size (.int .u8 (k : Int)) (.int .u32 0) (.int .u8 0) (.slice ao ll cap) (.int .i64 0) := ⟨_, rfl⟩
        have OF := own_put5 (.int .u8 (k : Int)) (.int .u32 0) (.int .u8 0) (.slice ao ll cap) (.int .i64 0) OW.out NA.out
        have HF := put5_same (.int .u8 (k : Int)) (.int .u32 0) (.int .u8 0) (.slice ao ll cap) (.int .i64 0) HA.out
        have BF := put5_below (.int .u8 (k : Int)) (.int .u32 0) (.int .u8 0) (.slice ao ll cap) (.int .i64 0) (Nat.le_refl w.heap.size) (Below.refl w.heap.size Wq)
        have RF := RD.out.below BF HGS.out
        have NF := ON.out.fresh (Nat.le_refl _) HGS.out BF.size BF
        rw [← hWF] at OF HF BF RF NF
        unfold put5 at hWF
        rw [← hWF]
        obtain ⟨e0, e1, e2, e3, e4⟩ := cells5 HF
        have OPV : opv (mkO k 0 0 l 0) (.slice ao ll cap) = .agg #[.int .u8 (k : Int), .int .u32 0, .int .u8 0, .slice ao ll cap, .int .i64 0] := by
          rw [opv_mkO (by omega) (by omega) (by omega) (by omega)]
          rfl
        have PL : (mkO k 0 0 l 0).pl.length = ll := HLL.out
        refine bodyPost_ret (v := .agg #[.int .u8 (k : Int), .int .u32 0, .int .u8 0, .slice ao ll cap, .int .i64 0]) (by simp [results, Try.results45, go_sem, e0, e1, e2, e3, e4]) rfl ⟨ao, cap, by rw [PL, OPV], ?_, RF, NF⟩
        rw [PL]
        exact OF
end Go.Proofs.Ytelilmhnfmojkaa.Codes

/- octavo/code: (*reader).operation, Get: what each answers. Conditions: the bytes read as such; at most a million of them. -/
namespace Go.Proofs.Ytelilmhnfmojkaa.Codes
open Go.RowKit Go.Shelf Go.WideShapes Num Go.Proofs.Ytelilmhnfmojkaa.Place Ops
attribute [local go_sem ↓] Go.wp_at_zero Go.wp_at_succ

theorem chkO_cases (o : Opn) : (mayO o = true ∧ chkO o = 0) ∨ (mayO o = false ∧ chkO o = 8) := by
  unfold chkO
  cases h : mayO o
  · exact .inr ⟨rfl, rfl⟩
  · exact .inl ⟨rfl, rfl⟩

set_option maxRecDepth 100000 in
set_option maxHeartbeats 8000000 in
theorem oper_any {xs : List UInt8} {n base : Nat} {vb : Value} {w0 w : World} {G : Nat} {q : Option Nat} (h : Src xs n vb w0 base) (hb : Below base w0 w) (hB : base ≤ G) (hr : Rd n w G vb q) :
    Calls Try.prog 27 #[.pointer (some ⟨G, 0, none⟩)] w (Told2 n vb G (operF xs q).1 (operF xs q).2 w) := by
  have hG : G < w.heap.size := by
    obtain ⟨_, _, h1, _⟩ := hr
    exact (Array.getElem?_eq_some_iff.1 h1).1
  have HGS := Lib.hid hG
  have A1 : Hid (Only G w (w.alloc (.cells #[.int .u8 0, .int .u32 0, .int .u8 0, .slice none 0 0, .int .i64 0] 35))) := Only.alloc G w _ (by omega)
  have X1 : Hid ((w.alloc (.cells #[.int .u8 0, .int .u32 0, .int .u8 0, .slice none 0 0, .int .i64 0] 35)).heap[w.heap.size]? = some (.cells #[.int .u8 0, .int .u32 0, .int .u8 0, .slice none 0 0, .int .i64 0] 35)) := heap_alloc_new w _
  have T := Lib.hid (told_any h (hb.trans (A1.out.below.mono hB)) hB (hr.keeps ((Below.refl _ _).alloc (Nat.le_refl _) (.cells #[.int .u8 0, .int .u32 0, .int .u8 0, .slice none 0 0, .int .i64 0] 35))))
  unfold operF
  obtain ⟨⟨o, qa⟩, ho⟩ : ∃ z, toldF xs q = z := ⟨_, rfl⟩
  rw [ho] at T ⊢
  simp only at T ⊢
  have eg := enters_of Try.func26 (by kernel_rfl) rfl
  unfold nextV at T
  have CK : Hid (∀ (W : World) (v : Value), Runs W v o.pl → Calls Try.prog 42 #[opv o v] W fun e w' => e = .returned (.int .i64 (chkO o)) ∧ Below W.heap.size W w') := fun W v h => oCheck_any h
  have CC := Lib.hid (chkO_cases o)
  unfold Told2 at T ⊢
  obtain ⟨my, hmy⟩ : ∃ b, mayO o = b := ⟨_, rfl⟩
  obtain ⟨ck, hck⟩ : ∃ c, chkO o = c := ⟨_, rfl⟩
  rw [hmy, hck] at CC
  rw [hck] at CK
  rw [hmy]
  obtain ⟨qf, hqf⟩ : ∃ z, (if my = true then qa else none) = z := ⟨_, rfl⟩
  have HQ := Lib.hid hqf
  rw [hqf]
  have HO : Hid (∀ v : Value, opv o v = .agg #[.int .u8 (o.k : Int), .int .u32 (o.t : Int), .int .u8 (o.r : Int), v, .int .i64 o.p]) := fun v => rfl
  obtain ⟨k, hk⟩ : ∃ k, o.k = k := ⟨_, rfl⟩
  obtain ⟨t, ht⟩ : ∃ t, o.t = t := ⟨_, rfl⟩
  obtain ⟨r, hr2⟩ : ∃ r, o.r = r := ⟨_, rfl⟩
  obtain ⟨l, hl⟩ : ∃ l, o.pl = l := ⟨_, rfl⟩
  obtain ⟨p, hp⟩ : ∃ p, o.p = p := ⟨_, rfl⟩
  rw [hk, ht, hr2, hp] at HO
  rw [hl] at T CK ⊢
  simp only [HO.out] at T CK ⊢
  clear h hb hB hr hG ho hqf hmy hck hk ht hr2 hl hp HO
  go_enter Try.func27, Try.ntmps27
  go_wp2_with fail
  refine T.out.mono ?_
  rintro e w1 ⟨ao, cap, rfl, v1, r1, o1⟩
  have hvlt := v1.lt
  have s01 : w.heap.size < w1.heap.size := by have := o1.size; simp at this; omega
  have NA : Hid ((Value.slice ao l.length cap).ownBlock ≠ some w.heap.size) := fun e => by
    have h8 := (hvlt _ e).1
    have h9 : (w.alloc (.cells #[.int .u8 0, .int .u32 0, .int .u8 0, .slice none 0 0, .int .i64 0] 35)).heap.size = w.heap.size + 1 := by simp
    omega
  have NB : Hid ((Value.slice ao l.length cap).ownBlock ≠ some w1.heap.size) := fun e => by have := (hvlt _ e).2; omega
  have bA : Below w1.heap.size w1 (w1.alloc (.cells #[.int .u8 (k : Int), .int .u32 (t : Int), .int .u8 (r : Int), .slice ao l.length cap, .int .i64 p] 35)) := (Below.refl _ _).alloc (Nat.le_refl _) _
  have R2 := Lib.hid (r1.keeps bA)
  have O2 := Lib.hid ((A1.out.trans o1).trans (Only.of bA (by have := HGS.out; omega)))
  have V2 : Hid ((w1.alloc (.cells #[.int .u8 (k : Int), .int .u32 (t : Int), .int .u8 (r : Int), .slice ao l.length cap, .int .i64 p] 35)).ownsRow w.heap.size 71 3 (.slice ao l.length cap) l.length (runs l)) := own_stays (op_base v1 (by simp)) bA
  have X2 : Hid ((w1.alloc (.cells #[.int .u8 (k : Int), .int .u32 (t : Int), .int .u8 (r : Int), .slice ao l.length cap, .int .i64 p] 35)).heap[w.heap.size]? = some (.cells #[.int .u8 0, .int .u32 0, .int .u8 0, .slice none 0 0, .int .i64 0] 35)) := blk_old (o1.obj X1.out (by have := HGS.out; omega))
  have Y2 : Hid ((w1.alloc (.cells #[.int .u8 (k : Int), .int .u32 (t : Int), .int .u8 (r : Int), .slice ao l.length cap, .int .i64 p] 35)).heap[w1.heap.size]? = some (.cells #[.int .u8 (k : Int), .int .u32 (t : Int), .int .u8 (r : Int), .slice ao l.length cap, .int .i64 p] 35)) := heap_alloc_new _ _
  have LV : Hid (Runs (w1.alloc (.cells #[.int .u8 (k : Int), .int .u32 (t : Int), .int .u8 (r : Int), .slice ao l.length cap, .int .i64 p] 35)) (.slice ao l.length cap) l) := Runs.own V2.out
  have S01 := Lib.hid s01
  obtain ⟨ll, hll⟩ : ∃ ll, ll = l.length := ⟨_, rfl⟩
  have HLL := Lib.hid hll
  rw [← hll] at LV NA NB R2 O2 V2 X2 Y2 ⊢
  clear v1 r1 o1 hvlt bA X1 A1 T s01 hll
  go_upto_region 2 with fail
  generalize w1.alloc (.cells #[.int .u8 (k : Int), .int .u32 (t : Int), .int .u8 (r : Int), .slice ao ll cap, .int .i64 p] 35) = Wq at R2 O2 V2 X2 Y2 LV ⊢
  generalize w1.heap.size = B at S01 NB Y2 ⊢
  obtain ⟨s, c, g1, g2, g3⟩ := R2.out
  obtain ⟨i0, i1, i2, -, -⟩ := cells_blk3 g1
  obtain ⟨x0, x1, x2, x3, x4⟩ := cells5 X2.out
  obtain ⟨y0, y1, y2, y3, y4⟩ := cells5 Y2.out
  have f1 : ∀ o, Wq.frozen? ⟨w.heap.size, o, none⟩ = false := fun o => free5 X2.out o
  have n1 : ¬ G = w.heap.size := by have := HGS.out; omega
  have n2 : ¬ w.heap.size = G := by have := HGS.out; omega
  have n3 : ¬ B = G := by have := HGS.out; have := S01.out; omega
  have n4 : ¬ G = B := by have := HGS.out; have := S01.out; omega
  have n5 : ¬ B = w.heap.size := by have := S01.out; omega
  have n6 : ¬ w.heap.size = B := by have := S01.out; omega
  have G3 := Lib.hid g3
  clear g1 g2
  rcases g3 with ⟨h1, h2⟩ | ⟨h1, h2⟩
  · subst h2
    clear h1
    go_wp2_with fail
    refine (CK.out Wq _ LV.out).mono ?_
    rintro e w3 ⟨rfl, b3⟩
    have R3 := Lib.hid (R2.out.keeps b3)
    have O3 := Lib.hid (O2.out.trans (Only.of b3 (by have := O2.out.size; have := HGS.out; omega)))
    have V3 := Lib.hid (own_stays V2.out b3)
    have X3 : Hid (w3.heap[w.heap.size]? = some (.cells #[.int .u8 0, .int .u32 0, .int .u8 0, .slice none 0 0, .int .i64 0] 35)) := blk_below b3 X2.out
    have Y3 : Hid (w3.heap[B]? = some (.cells #[.int .u8 (k : Int), .int .u32 (t : Int), .int .u8 (r : Int), .slice ao ll cap, .int .i64 p] 35)) := blk_below b3 Y2.out
    obtain ⟨s', c', g1', g2', g3'⟩ := R3.out
    clear i0 i1 i2 x0 x1 x2 x3 x4 y0 y1 y2 y3 y4 b3 f1
    obtain ⟨i0, i1, i2, -, -⟩ := cells_blk3 g1'
    obtain ⟨x0, x1, x2, x3, x4⟩ := cells5 X3.out
    obtain ⟨y0, y1, y2, y3, y4⟩ := cells5 Y3.out
    have f1 : ∀ o, w3.frozen? ⟨w.heap.size, o, none⟩ = false := fun o => free5 X3.out o
    have f2 := free3 g1' 2
    have OW : Hid ((w3.setCell ⟨G, 2, none⟩ (.int .i64 ck)).ownsRow w.heap.size 71 3 (.slice ao ll cap) ll (runs l)) := op_set V3.out HGS.out
    have HA : Hid ((w3.setCell ⟨G, 2, none⟩ (.int .i64 ck)).heap[w.heap.size]? = some (.cells #[.int .u8 0, .int .u32 0, .int .u8 0, .slice none 0 0, .int .i64 0] 35)) := set_other _ n2 X3.out
    have ON : Hid (Only G w (w3.setCell ⟨G, 2, none⟩ (.int .i64 ck))) := O3.out.set _ _
    have RD : Hid (Rd n (w3.setCell ⟨G, 2, none⟩ (.int .i64 ck)) G vb qf) := by
      rw [← HQ.out]
      have gs := heap_setCell_same w3 G 2 _ _ (.int .i64 ck) g1'
      have hq : qa ≠ none := by rcases G3.out with ⟨h, _⟩ | ⟨_, h⟩ <;> simp_all
      rcases CC.out with ⟨rfl, rfl⟩ | ⟨rfl, rfl⟩
      · refine ⟨s', 0, gs, g2', .inl ⟨?_, rfl⟩⟩
        rcases g3' with ⟨h, _⟩ | ⟨h, _⟩
        · simpa using h
        · exact absurd h hq
      · exact ⟨s', 8, gs, g2', .inr ⟨rfl, rfl⟩⟩
    clear g1' g2' g3' X3 Y3 O3 V3 R3
    go_wp2_with fail
    obtain ⟨WF, hWF⟩ : ∃ WF, WF = put5 (w3.setCell ⟨G, 2, none⟩ (.int .i64 ck)) w.heap.size (.int .u8 (k : Int)) (.int .u32 (t : Int)) (.int .u8 (r : Int)) (.slice ao ll cap) (.int .i64 p) := ⟨_, rfl⟩
    have OF := own_put5 (.int .u8 (k : Int)) (.int .u32 (t : Int)) (.int .u8 (r : Int)) (.slice ao ll cap) (.int .i64 p) OW.out NA.out
    have HF := put5_same (.int .u8 (k : Int)) (.int .u32 (t : Int)) (.int .u8 (r : Int)) (.slice ao ll cap) (.int .i64 p) HA.out
    have BF := put5_below (.int .u8 (k : Int)) (.int .u32 (t : Int)) (.int .u8 (r : Int)) (.slice ao ll cap) (.int .i64 p) (Nat.le_refl w.heap.size) (Below.refl w.heap.size ((w3.setCell ⟨G, 2, none⟩ (.int .i64 ck))))
    have RF := RD.out.below BF HGS.out
    have NF := ON.out.fresh (Nat.le_refl _) HGS.out BF.size BF
    rw [← hWF] at OF HF BF RF NF
    unfold put5 at hWF
    rw [← hWF]
    obtain ⟨e0, e1, e2, e3, e4⟩ := cells5 HF
    rw [HLL.out] at OF e3 ⊢
    exact bodyPost_ret (v := .agg #[.int .u8 (k : Int), .int .u32 (t : Int), .int .u8 (r : Int), .slice ao l.length cap, .int .i64 p]) (by simp [results, Try.results27, go_sem, e0, e1, e2, e3, e4]) rfl ⟨ao, cap, rfl, OF, RF, NF⟩
  · subst h1 h2
    have OW := V2
    have HA := X2
    have ON := O2
    obtain rfl : none = qf := by rw [← HQ.out]; simp
    have RD := R2
    go_wp2_with fail
    obtain ⟨WF, hWF⟩ : ∃ WF, WF = put5 Wq w.heap.size (.int .u8 (k : Int)) (.int .u32 (t : Int)) (.int .u8 (r : Int)) (.slice ao ll cap) (.int .i64 p) := ⟨_, rfl⟩
    have OF := own_put5 (.int .u8 (k : Int)) (.int .u32 (t : Int)) (.int .u8 (r : Int)) (.slice ao ll cap) (.int .i64 p) OW.out NA.out
    have HF := put5_same (.int .u8 (k : Int)) (.int .u32 (t : Int)) (.int .u8 (r : Int)) (.slice ao ll cap) (.int .i64 p) HA.out
    have BF := put5_below (.int .u8 (k : Int)) (.int .u32 (t : Int)) (.int .u8 (r : Int)) (.slice ao ll cap) (.int .i64 p) (Nat.le_refl w.heap.size) (Below.refl w.heap.size (Wq))
    have RF := RD.out.below BF HGS.out
    have NF := ON.out.fresh (Nat.le_refl _) HGS.out BF.size BF
    rw [← hWF] at OF HF BF RF NF
    unfold put5 at hWF
    rw [← hWF]
    obtain ⟨e0, e1, e2, e3, e4⟩ := cells5 HF
    rw [HLL.out] at OF e3 ⊢
    exact bodyPost_ret (v := .agg #[.int .u8 (k : Int), .int .u32 (t : Int), .int .u8 (r : Int), .slice ao l.length cap, .int .i64 p]) (by simp [results, Try.results27, go_sem, e0, e1, e2, e3, e4]) rfl ⟨ao, cap, rfl, OF, RF, NF⟩

/-- No operation. -/
def zop : Opn := ⟨0, 0, 0, [], 0, by decide, by decide, by decide, by decide⟩
/-- What Get answers. -/
def ansO (xs : List UInt8) : Opn × Nat × Nat := match getO xs with
  | some (o, s) => (o, s, 0)
  | none => (zop, 0, 8)
theorem ansO_some {xs : List UInt8} {o : Opn} {s : Nat} (h : operF xs (some 0) = (o, some s)) : ansO xs = (o, s, 0) := by unfold ansO getO; rw [h]
theorem ansO_none {xs : List UInt8} {o : Opn} (h : operF xs (some 0) = (o, none)) : ansO xs = (zop, 0, 8) := by unfold ansO getO; rw [h]
def GotO (o : Opn) (s c : Nat) (w : World) (e : Ending) (w' : World) : Prop :=
  ∃ ao cap, e = .returned (.tuple #[opv o (.slice ao o.pl.length cap), .int .i64 (s : Int), .int .i64 (c : Int)]) ∧ w'.ownsRow w.heap.size 71 3 (.slice ao o.pl.length cap) o.pl.length (runs o.pl) ∧ Below w.heap.size w w'

set_option maxRecDepth 100000 in
set_option maxHeartbeats 8000000 in
theorem cGet_any {xs : List UInt8} {ao0 : Option Addr} {n cap0 : Nat} {w : World} (hn : n = xs.length) (hl : n ≤ 1000000) (hr : Reads w (.slice ao0 n cap0) xs) :
    Calls Try.prog 15 #[.slice ao0 n cap0] w (GotO (ansO xs).1 (ansO xs).2.1 (ansO xs).2.2 w) := by
  have SR : Src xs n (.slice ao0 n cap0) w w.heap.size := ⟨hl, hn, ⟨_, _, rfl⟩, fun W h => hr.keeps h⟩
  have B1 : Hid (Below w.heap.size w ((w.alloc (.cells #[.int .u8 0, .int .u32 0, .int .u8 0, .slice none 0 0, .int .i64 0] 35)).alloc (.cells #[.slice ao0 n cap0, .int .i64 0, .int .i64 0] 58))) := ((Below.refl _ _).alloc (Nat.le_refl _) _).alloc (by simp) _
  have R1 : Hid (Rd n ((w.alloc (.cells #[.int .u8 0, .int .u32 0, .int .u8 0, .slice none 0 0, .int .i64 0] 35)).alloc (.cells #[.slice ao0 n cap0, .int .i64 0, .int .i64 0] 58)) (w.heap.size + 1) (.slice ao0 n cap0) (some 0)) := ⟨0, 0, blk_new (by simp), by omega, .inl ⟨rfl, rfl⟩⟩
  have X1 : Hid (((w.alloc (.cells #[.int .u8 0, .int .u32 0, .int .u8 0, .slice none 0 0, .int .i64 0] 35)).alloc (.cells #[.slice ao0 n cap0, .int .i64 0, .int .i64 0] 58)).heap[w.heap.size]? = some (.cells #[.int .u8 0, .int .u32 0, .int .u8 0, .slice none 0 0, .int .i64 0] 35)) := blk_old (blk_new rfl)
  have T := Lib.hid (oper_any SR B1.out (by omega) R1.out)
  obtain ⟨⟨o, q⟩, ho⟩ : ∃ z, operF xs (some 0) = z := ⟨_, rfl⟩
  rw [ho] at T
  simp only at T
  have eg := enters_of Try.func26 (by kernel_rfl) rfl
  have HO : Hid (∀ v : Value, opv o v = .agg #[.int .u8 (o.k : Int), .int .u32 (o.t : Int), .int .u8 (o.r : Int), v, .int .i64 o.p]) := fun v => rfl
  unfold Told2 at T
  have HANS : Hid ((∃ s, q = some s ∧ ansO xs = (o, s, 0)) ∨ (q = none ∧ ansO xs = (zop, 0, 8))) := by
    cases q with
    | none => exact .inr ⟨rfl, ansO_none ho⟩
    | some s => exact .inl ⟨s, rfl, ansO_some ho⟩
  obtain ⟨⟨oa, sa, ca⟩, ha⟩ : ∃ z, ansO xs = z := ⟨_, rfl⟩
  rw [ha] at HANS ⊢
  simp only
  obtain ⟨k, hk⟩ : ∃ k, o.k = k := ⟨_, rfl⟩
  obtain ⟨t, ht⟩ : ∃ t, o.t = t := ⟨_, rfl⟩
  obtain ⟨r, hr2⟩ : ∃ r, o.r = r := ⟨_, rfl⟩
  obtain ⟨p, hp⟩ : ∃ p, o.p = p := ⟨_, rfl⟩
  rw [hk, ht, hr2, hp] at HO
  simp only [HO.out] at T
  clear hn hl hr SR ho ha hk ht hr2 hp
  go_enter Try.func15, Try.ntmps15
  go_wp2_with fail
  refine T.out.mono ?_
  rintro e w1 ⟨ao, cap, rfl, v1, r1, o1⟩
  have hvlt := v1.lt
  have NA : Hid ((Value.slice ao o.pl.length cap).ownBlock ≠ some w.heap.size) := fun e => by
    have h8 := (hvlt _ e).1
    have h9 : ((w.alloc (.cells #[.int .u8 0, .int .u32 0, .int .u8 0, .slice none 0 0, .int .i64 0] 35)).alloc (.cells #[.slice ao0 n cap0, .int .i64 0, .int .i64 0] 58)).heap.size = w.heap.size + 2 := by simp
    omega
  have X2 : Hid (w1.heap[w.heap.size]? = some (.cells #[.int .u8 0, .int .u32 0, .int .u8 0, .slice none 0 0, .int .i64 0] 35)) := o1.obj X1.out (by omega)
  have V2 : Hid (w1.ownsRow w.heap.size 71 3 (.slice ao o.pl.length cap) o.pl.length (runs o.pl)) := op_base v1 B1.out.size
  have B2 : Hid (Below w.heap.size w w1) := B1.out.trans (o1.below.mono (by omega))
  have R2 := Lib.hid r1
  obtain ⟨x0, x1, x2, x3, x4⟩ := cells5 X2.out
  have f1 : ∀ o, w1.frozen? ⟨w.heap.size, o, none⟩ = false := fun o => free5 X2.out o
  clear v1 r1 o1 hvlt X1 B1 R1 T
  go_upto_region 3 with fail
  obtain ⟨Wq, hW⟩ : ∃ W2, W2 = put5 w1 w.heap.size (.int .u8 (k : Int)) (.int .u32 (t : Int)) (.int .u8 (r : Int)) (.slice ao o.pl.length cap) (.int .i64 p) := ⟨_, rfl⟩
  have OW := Lib.hid (own_put5 (.int .u8 (k : Int)) (.int .u32 (t : Int)) (.int .u8 (r : Int)) (.slice ao o.pl.length cap) (.int .i64 p) V2.out NA.out)
  have HA := Lib.hid (put5_same (.int .u8 (k : Int)) (.int .u32 (t : Int)) (.int .u8 (r : Int)) (.slice ao o.pl.length cap) (.int .i64 p) X2.out)
  have BF := Lib.hid (put5_below (.int .u8 (k : Int)) (.int .u32 (t : Int)) (.int .u8 (r : Int)) (.slice ao o.pl.length cap) (.int .i64 p) (Nat.le_refl w.heap.size) B2.out)
  have RF : Hid (Rd n (put5 w1 w.heap.size (.int .u8 (k : Int)) (.int .u32 (t : Int)) (.int .u8 (r : Int)) (.slice ao o.pl.length cap) (.int .i64 p)) (w.heap.size + 1) (.slice ao0 n cap0) q) := by
    obtain ⟨s, c, h1, h2⟩ := R2.out
    exact ⟨s, c, put5_other _ _ _ _ _ (by omega) h1, h2⟩
  rw [← hW] at OW HA BF RF
  unfold put5 at hW
  rw [← hW]
  clear hW x0 x1 x2 x3 x4 f1 X2 V2 B2 R2
  obtain ⟨x0, x1, x2, x3, x4⟩ := cells5 HA.out
  have f1 : ∀ o, Wq.frozen? ⟨w.heap.size, o, none⟩ = false := fun o => free5 HA.out o
  obtain ⟨s, c, g1, g2, g3⟩ := RF.out
  obtain ⟨i0, i1, i2, -, -⟩ := cells_blk3 g1
  clear g1 g2
  rcases HANS.out with ⟨s', rfl, h2⟩ | ⟨rfl, h2⟩
  · obtain ⟨rfl, rfl⟩ : s' = s ∧ c = 0 := by simpa using g3
    obtain ⟨rfl, rfl, rfl⟩ : oa = o ∧ sa = s' ∧ ca = 0 := by simpa using h2
    clear h2 g3 HANS RF
    go_wp2
    go_region_with (fail)
    all_goals
      go_wp2
      obtain ⟨WF, hWF⟩ : ∃ WF, WF = put5 Wq w.heap.size (.int .u8 (k : Int)) (.int .u32 (t : Int)) (.int .u8 (r : Int)) (.slice ao oa.pl.length cap) (.int .i64 p) := ⟨_, rfl⟩
      have OF := own_put5 (.int .u8 (k : Int)) (.int .u32 (t : Int)) (.int .u8 (r : Int)) (.slice ao oa.pl.length cap) (.int .i64 p) OW.out NA.out
      have HF := put5_same (.int .u8 (k : Int)) (.int .u32 (t : Int)) (.int .u8 (r : Int)) (.slice ao oa.pl.length cap) (.int .i64 p) HA.out
      have BE := put5_below (.int .u8 (k : Int)) (.int .u32 (t : Int)) (.int .u8 (r : Int)) (.slice ao oa.pl.length cap) (.int .i64 p) (Nat.le_refl w.heap.size) BF.out
      rw [← hWF] at OF HF BE
      unfold put5 at hWF
      rw [← hWF]
      obtain ⟨e0, e1, e2, e3, e4⟩ := cells5 (X := WF.drew) HF
      exact bodyPost_ret (v := .tuple #[.agg #[.int .u8 (k : Int), .int .u32 (t : Int), .int .u8 (r : Int), .slice ao oa.pl.length cap, .int .i64 p], .int .i64 (sa : Int), .int .i64 0]) (by simp [results, Try.results15, go_sem, e0, e1, e2, e3, e4]) rfl ⟨ao, cap, by rw [HO.out]; rfl, OF, BE.drew⟩
  · obtain rfl : c = 8 := by simpa using g3
    obtain ⟨rfl, rfl, rfl⟩ : oa = zop ∧ sa = 0 ∧ ca = 8 := by simpa using h2
    clear h2 g3 HANS RF
    go_wp2
    go_region_with (fail)
    all_goals
      go_wp2
      obtain ⟨WF, hWF⟩ : ∃ WF, WF = put5 Wq w.heap.size (.int .u8 0) (.int .u32 0) (.int .u8 0) (.slice none 0 0) (.int .i64 0) := ⟨_, rfl⟩
      have OF : (put5 Wq w.heap.size (.int .u8 0) (.int .u32 0) (.int .u8 0) (.slice none 0 0) (.int .i64 0)).ownsRow w.heap.size 71 3 (.slice none 0 0) 0 [] := World.ownsRow_nil _ _ _ _
      have HF := put5_same (.int .u8 0) (.int .u32 0) (.int .u8 0) (.slice none 0 0) (.int .i64 0) HA.out
      have BE := put5_below (.int .u8 0) (.int .u32 0) (.int .u8 0) (.slice none 0 0) (.int .i64 0) (Nat.le_refl w.heap.size) BF.out
      rw [← hWF] at OF HF BE
      unfold put5 at hWF
      rw [← hWF]
      obtain ⟨e0, e1, e2, e3, e4⟩ := cells5 (X := WF.drew) HF
      exact bodyPost_ret (v := .tuple #[.agg #[.int .u8 0, .int .u32 0, .int .u8 0, .slice none 0 0, .int .i64 0], .int .i64 0, .int .i64 8]) (by simp [results, Try.results15, go_sem, e0, e1, e2, e3, e4]) rfl ⟨none, 0, rfl, OF, BE.drew⟩
end Go.Proofs.Ytelilmhnfmojkaa.Codes
