/- octavo/span.stretches, its iterator: what it hands to each round, and in which order. Conditions: the spans may be; the rounds leave the iterator's own block. -/
import Derived.Test.YtinglfhndlklaaaSpanCode3
import Derived.Test.YtinglfhndlklaaaRangeOwn
import Derived.RangeFuncNested
import Derived.RangeFuncBound
import Derived.RangeFuncCalls
import Derived.OwnWalkIn
import Derived.TacticsInMore
import Derived.LoopNIn
import Derived.LoopIn
namespace Go.Proofs.Ytinglfhndlklaaa.Spans
open Go.RowKit Go.Shelf
attribute [local go_sem ↓] Go.wp_at_zero Go.wp_at_succ

/-- Spans in memory that was there ahead. -/
def Low (B : Nat) (w : World) (v : Value) (l : List Sp) : Prop := Sps w v l ∧ (l = [] ∨ ∀ b, v.ownBlock = some b → b < B)
theorem Low.keeps {B : Nat} {w w' : World} {v : Value} {l : List Sp} (h : Low B w v l) (hb : Below B w w') : Low B w' v l := by
  refine ⟨?_, h.2⟩
  rcases h.2 with rfl | h2
  · obtain ⟨⟨h1, ao, cap, h3, h4, h5, h6, _⟩, _⟩ := h
    exact ⟨h1, ao, cap, h3, h4, h5, h6, .inl rfl⟩
  · exact Sees.stays h.1 hb.size (fun _ _ _ he => World.cell?_of_block (hb.block _ (h2 _ he)))
theorem low_of {w : World} {v : Value} {l : List Sp} (h : Sps w v l) : Low w.heap.size w v l := by
  refine ⟨h, ?_⟩
  obtain ⟨h1, ao, cap, rfl, h4, h5, h6, h7⟩ := h
  rcases h7 with h7 | ⟨b, off, rfl, h8, _⟩
  · left
    cases l with
    | nil => rfl
    | cons x l => simp [sps] at h7
  · right
    intro c hc
    cases hc
    exact h8
/-- What is handed to a round. -/
def encS (a b : List Sp) (s : Nat) : Array Value := #[.agg #[.int .u32 (s : Int), .int .u32 (til a b s : Int)], .agg #[.bool (nxt (fil a s) s).1, .bool (nxt (fil b s) s).1]]
/-- The three blocks of the iterator within a round. -/
def Mid (D G : Nat) (wo : World) (v u : Value) (x y : Bool) (e f : Nat) (w2 : World) : Prop :=
  wo.grownBy w2 (some D) ∧ w2.heap[D]? = some (.cells #[v, u] 100) ∧ w2.heap[G]? = some (.cells #[.bool x, .bool y] 90) ∧ w2.heap[G + 1]? = some (.cells #[.int .u32 (e : Int), .int .u32 (f : Int)] 110)
theorem Mid.cells {D G : Nat} {wo w2 : World} {v u : Value} {x y : Bool} {e f : Nat} (h : Mid D G wo v u x y e f w2) :
    (w2.cell? ⟨D, 0, none⟩ = some v ∧ w2.cell? ⟨D, 1, none⟩ = some u ∧ w2.frozen? ⟨D, 0, none⟩ = false ∧ w2.frozen? ⟨D, 1, none⟩ = false) ∧
    (w2.cell? ⟨G, 0, none⟩ = some (.bool x) ∧ w2.cell? ⟨G, 1, none⟩ = some (.bool y) ∧ w2.frozen? ⟨G, 0, none⟩ = false ∧ w2.frozen? ⟨G, 1, none⟩ = false) ∧
    w2.cell? ⟨G + 1, 0, none⟩ = some (.int .u32 (e : Int)) ∧ w2.cell? ⟨G + 1, 1, none⟩ = some (.int .u32 (f : Int)) ∧ w2.frozen? ⟨G + 1, 0, none⟩ = false ∧ w2.frozen? ⟨G + 1, 1, none⟩ = false :=
  ⟨⟨(two_blk h.2.1).1, (two_blk h.2.1).2, (two_free h.2.1).1, (two_free h.2.1).2⟩, ⟨(two_blk h.2.2.1).1, (two_blk h.2.2.1).2, (two_free h.2.2.1).1, (two_free h.2.2.1).2⟩,
    (two_blk h.2.2.2).1, (two_blk h.2.2.2).2, (two_free h.2.2.2).1, (two_free h.2.2.2).2⟩
theorem Mid.keeps {D G : Nat} {wo w2 w3 : World} {v u : Value} {x y : Bool} {e f : Nat} (h : Mid D G wo v u x y e f w2) (hb : Below w2.heap.size w2 w3) : Mid D G wo v u x y e f w3 := by
  have old : ∀ {k : Nat} {o : Obj}, w2.heap[k]? = some o → w3.heap[k]? = some o := fun hk => (hb.block _ (Array.getElem?_eq_some_iff.1 hk).1).trans hk
  exact ⟨grown_trans h.1 (grown_any hb), old h.2.1, old h.2.2.1, old h.2.2.2⟩
theorem grown_set {wo w2 : World} {D : Nat} {p : Addr} (d : Value) (h : wo.grownBy w2 (some D)) (hp : wo.heap.size ≤ p.block ∨ p.block = D) : wo.grownBy (w2.setCell p d) (some D) :=
  ⟨h.os, h.tape, h.output, by have := h.size; simpa [World.setCell] using this, fun k hk hr => (Below.heap_setCell _ _ _ _ (by
    intro e
    rcases hp with hp | hp
    · omega
    · exact hr (by rw [e, hp]))).trans (h.block k hk hr)⟩
theorem Mid.rest0 {D G : Nat} {wo w2 : World} {v u : Value} {x y : Bool} {e f : Nat} (h : Mid D G wo v u x y e f w2) (hDG : D < G) (v' : Value) : Mid D G wo v' u x y e f (w2.setCell ⟨D, 0, none⟩ v') := by
  refine ⟨grown_set _ h.1 (.inr rfl), heap_setCell_same w2 D 0 _ _ v' h.2.1, ?_, ?_⟩
  · rw [heap_setCell_other _ _ _ _ (show G ≠ D by omega)]; exact h.2.2.1
  · rw [heap_setCell_other _ _ _ _ (show G + 1 ≠ D by omega)]; exact h.2.2.2
theorem Mid.rest1 {D G : Nat} {wo w2 : World} {v u : Value} {x y : Bool} {e f : Nat} (h : Mid D G wo v u x y e f w2) (hDG : D < G) (v' : Value) : Mid D G wo v v' x y e f (w2.setCell ⟨D, 1, none⟩ v') := by
  refine ⟨grown_set _ h.1 (.inr rfl), heap_setCell_same w2 D 1 _ _ v' h.2.1, ?_, ?_⟩
  · rw [heap_setCell_other _ _ _ _ (show G ≠ D by omega)]; exact h.2.2.1
  · rw [heap_setCell_other _ _ _ _ (show G + 1 ≠ D by omega)]; exact h.2.2.2
theorem Mid.tell0 {D G : Nat} {wo w2 : World} {v u : Value} {x y : Bool} {e f : Nat} (h : Mid D G wo v u x y e f w2) (hDG : D < G) (hG : wo.heap.size = G) (x' : Bool) (e' : Nat) : Mid D G wo v u x' y e' f ((w2.setCell ⟨G, 0, none⟩ (.bool x')).setCell ⟨G + 1, 0, none⟩ (.int .u32 (e' : Int))) := by
  refine ⟨grown_set _ (grown_set _ h.1 (.inl (by simp; omega))) (.inl (by simp; omega)), ?_, ?_, ?_⟩
  · rw [heap_setCell_other _ _ _ _ (show D ≠ G + 1 by omega), heap_setCell_other _ _ _ _ (show D ≠ G by omega)]; exact h.2.1
  · rw [heap_setCell_other _ _ _ _ (show G ≠ G + 1 by omega)]; exact heap_setCell_same w2 G 0 _ _ _ h.2.2.1
  · exact heap_setCell_same _ (G + 1) 0 _ _ _ ((heap_setCell_other w2 ⟨G, 0, none⟩ (G + 1) _ (show G + 1 ≠ G by omega)).trans h.2.2.2)
theorem Mid.tell1 {D G : Nat} {wo w2 : World} {v u : Value} {x y : Bool} {e f : Nat} (h : Mid D G wo v u x y e f w2) (hDG : D < G) (hG : wo.heap.size = G) (x' : Bool) (e' : Nat) : Mid D G wo v u x x' e e' ((w2.setCell ⟨G, 1, none⟩ (.bool x')).setCell ⟨G + 1, 1, none⟩ (.int .u32 (e' : Int))) := by
  refine ⟨grown_set _ (grown_set _ h.1 (.inl (by simp; omega))) (.inl (by simp; omega)), ?_, ?_, ?_⟩
  · rw [heap_setCell_other _ _ _ _ (show D ≠ G + 1 by omega), heap_setCell_other _ _ _ _ (show D ≠ G by omega)]; exact h.2.1
  · rw [heap_setCell_other _ _ _ _ (show G ≠ G + 1 by omega)]; exact heap_setCell_same w2 G 1 _ _ _ h.2.2.1
  · exact heap_setCell_same _ (G + 1) 1 _ _ _ ((heap_setCell_other w2 ⟨G, 1, none⟩ (G + 1) _ (show G + 1 ≠ G by omega)).trans h.2.2.2)
theorem Mid.below {D G B : Nat} {wo w2 : World} {v u : Value} {x y : Bool} {e f : Nat} (h : Mid D G wo v u x y e f w2) (hB : B ≤ D) (hD : D < wo.heap.size) : Below B wo w2 :=
  (Below.refl B wo).grown h.1 (by omega) (fun k e => by cases e; exact hB)
theorem mid_new {D : Nat} {wo : World} {v u : Value} (h : wo.heap[D]? = some (.cells #[v, u] 100)) :
    Mid D wo.heap.size wo v u false false 0 0 ((wo.alloc (.cells #[.bool false, .bool false] 90)).alloc (.cells #[.int .u32 0, .int .u32 0] 110)) := by
  refine ⟨grown_any (((Below.refl _ _).alloc (Nat.le_refl _) _).alloc (by simp) _), kb_old (kb_old h), kb_old (kb_new rfl), kb_new (by simp)⟩
theorem upFrom_low {B : Nat} {v : Value} {p : List Sp} (n : Nat) {w : World} (hv : Low B w v p) :
    Calls Try.prog 90 #[v, .int .u32 (n : Int)] w fun e w' => ∃ v', e = .returned v' ∧ Low B w v' (upf p n) ∧ w = w' := by
  refine (upFrom_any n hv.1).mono ?_
  rintro e w' ⟨v', rfl, ⟨h1, h2⟩, rfl⟩
  refine ⟨v', rfl, ⟨h1, ?_⟩, rfl⟩
  rcases hv.2 with rfl | h3
  · exact .inl rfl
  · exact .inr (by rw [h2]; exact h3)

/-- Where the walk over the two lists stands. -/
def Turn2 (D G B : Nat) (wo : World) (pa pb : List Sp) (s : Nat) (i : Value) (w2 : World) : Prop :=
  ∃ va vb x y e f, Mid D G wo va vb x y e f w2 ∧
    ((i = .int .i64 0 ∧ Low B w2 va pa ∧ Low B w2 vb pb) ∨
     (i = .int .i64 1 ∧ Low B w2 va (upf pa s) ∧ Low B w2 vb pb ∧ x = (nxt (upf pa s) s).1 ∧ e = (nxt (upf pa s) s).2) ∨
     (i = .int .i64 2 ∧ Low B w2 va (upf pa s) ∧ Low B w2 vb (upf pb s) ∧ (x = (nxt (upf pa s) s).1 ∧ e = (nxt (upf pa s) s).2) ∧ y = (nxt (upf pb s) s).1 ∧ f = (nxt (upf pb s) s).2))

set_option maxRecDepth 100000 in
set_option maxHeartbeats 4000000 in
theorem stretches_go {n H B Bn : Nat} {a b : List Sp} {va vb : Value} {w : World} (hn : 1 ≤ n) (hB : B ≤ H) (ha : Fine a) (hb : Fine b) (hva : Low B w va a) (hvb : Low B w vb b)
    (hBn : w.heap[Bn]? = some (.cells #[va, vb] 100)) (hlt : Bn < H) :
    Goes n Try.prog 89 #[.pointer (some ⟨Bn, 0, none⟩)] (encS a b) (fun s => 1 ≤ s ∧ s ≤ 1073741824) (fun s => til a b s + 1) 1 1073741825 B H w := by
  intro J Jx W hW hbW hJ hJx hY h0
  rw [← hW] at hJ hJx
  simp only [← hW] at hY
  have hBW := (hbW.block Bn hlt).trans hBn
  obtain ⟨cn0, cn1⟩ := two_blk hBW
  have LA := Lib.hid (hva.keeps (hbW.mono hB))
  have LB := Lib.hid (hvb.keeps (hbW.mono hB))
  have HA := Lib.hid ha
  have HB := Lib.hid hb
  have HJ := Lib.hid hJ
  have HJX := Lib.hid hJx
  have HY := Lib.hid hY
  obtain ⟨Y, hYl⟩ : ∃ Y, Y = H + 1 := ⟨_, rfl⟩
  rw [← hYl] at HY ⊢
  have hBD : B ≤ W.heap.size := by omega
  have R0 : Hid (J 1 (W.alloc (.cells #[va, vb] 100)) ∧ Below B W (W.alloc (.cells #[va, vb] 100)) ∧ ∃ pa pb, (W.alloc (.cells #[va, vb] 100)).heap[W.heap.size]? = some (.cells #[va, vb] 100) ∧
      Low B (W.alloc (.cells #[va, vb] 100)) va pa ∧ Low B (W.alloc (.cells #[va, vb] 100)) vb pb ∧ upf pa 1 = fil a 1 ∧ upf pb 1 = fil b 1) := by
    have hx := (Below.refl B W).alloc hBD (.cells #[va, vb] 100)
    exact ⟨hJ 1 _ _ h0 (World.grownBy_alloc W _ _), hx, a, b, kb_new rfl, LA.out.keeps hx, LB.out.keeps hx, fil_start ha, fil_start hb⟩
  clear hva hvb hBn hlt hbW hBW ha hb hJ hJx hY h0 hYl hW hB
  obtain ⟨ao, cap, rfl⟩ := LA.out.1.shape
  obtain ⟨bo, cbp, rfl⟩ := LB.out.1.shape
  refine callsIn_of_wp Try.func89 rfl trivial ?_ rfl
  simp only [Try.ntmps89, List.size_toArray, List.length_cons, List.length_nil, Nat.reduceAdd, Nat.reduceSub, Array.replicate_succ, Array.replicate_zero, List.push_toArray, List.append_toArray, List.nil_append, List.cons_append]
  gi_wp2
  gi_loopw [4] (fun f wr => ∃ (s : Nat), 1 ≤ s ∧ s ≤ 1073741825 ∧ f = .int .u32 (s : Int) ∧ Hid (J s wr ∧ Below B W wr ∧ ∃ va vb pa pb, wr.heap[W.heap.size]? = some (.cells #[va, vb] 100) ∧ Low B wr va pa ∧ Low B wr vb pb ∧ upf pa s = fil a s ∧ upf pb s = fil b s)) (fun f _ => 1073741825 - (intOf f).toNat)
  case atStart => exact ⟨1, by omega, by omega, rfl, R0.out.1, R0.out.2.1, _, _, R0.out.2.2⟩
  case round =>
    clear R0 cn0 cn1 LA LB
    obtain ⟨s, hs1, hs2, rfl, hrel⟩ := hrel
    by_cases hs : s ≤ 1073741824
    · have t1 : decide (s ≤ 1073741824) = true := decide_eq_true hs
      have t2 : decide ((s : Int) ≤ 1073741824) = true := decide_eq_true (by omega)
      obtain ⟨wo, rfl⟩ : ∃ wo : World, wo = wr := ⟨_, rfl⟩
      obtain ⟨j0, hbel, va, vb, pa, pb, hD, la, lb, ea, eb⟩ := hrel
      have hDlt : W.heap.size < wo.heap.size := (Array.getElem?_eq_some_iff.1 hD).1
      have X0 := Lib.hid (mid_new (wo := wo) hD)
      have T0 : Hid (Turn2 W.heap.size wo.heap.size B wo pa pb s (.int .i64 0) ((wo.alloc (.cells #[.bool false, .bool false] 90)).alloc (.cells #[.int .u32 0, .int .u32 0] 110))) :=
        ⟨va, vb, false, false, 0, 0, X0.out, .inl ⟨rfl, la.keeps (X0.out.below hBD hDlt), lb.keeps (X0.out.below hBD hDlt)⟩⟩
      have OKA : Hid (∀ x ∈ upf pa s, Ok x) := by rw [ea]; exact (fil_rest s HA.out).1.all
      have OKB : Hid (∀ x ∈ upf pb s, Ok x) := by rw [eb]; exact (fil_rest s HB.out).1.all
      have J0 := Lib.hid j0
      have BEL := Lib.hid hbel
      have EA := Lib.hid ea
      have EB := Lib.hid eb
      clear j0 hbel hD la lb ea eb X0
      gi_wp2
      gi_loopw [12] (fun i w2 => Hid (Turn2 W.heap.size wo.heap.size B wo pa pb s i w2)) (fun i _ => 2 - (intOf i).toNat)
      case atStart => exact T0
      case round =>
        clear T0
        obtain ⟨w2, rfl⟩ : ∃ w2 : World, w2 = wr := ⟨_, rfl⟩
        obtain ⟨va, vb, x, y, e, f, hM, hc⟩ := hrel
        have hDG : W.heap.size < wo.heap.size := hDlt
        have HM := Lib.hid hM
        have hw2 : B ≤ w2.heap.size := by have := hM.1.size; omega
        obtain ⟨⟨c0, c1, c2, c3⟩, ⟨d0, d1, d2, d3⟩, e0, e1, e2, e3⟩ := hM.cells
        have n1 : ¬ W.heap.size = wo.heap.size := by omega
        have n2 : ¬ W.heap.size = wo.heap.size + 1 := by omega
        have n3 : ¬ wo.heap.size = W.heap.size := by omega
        have n4 : ¬ wo.heap.size + 1 = W.heap.size := by omega
        rcases hc with ⟨rfl, la, lb⟩ | ⟨rfl, la, lb, hx, he⟩ | ⟨rfl, la, lb, ⟨hx, he⟩, hy, hf⟩
        · have UP := Lib.hid (upFrom_low s la)
          have LO := Lib.hid lb
          obtain ⟨ao, ac, rfl⟩ := la.1.shape
          obtain ⟨bo, bc, rfl⟩ := lb.1.shape
          clear la lb hM
          gi_wp2_with fail
          refine ⟨trivial, (callsIn_wide.2 UP.out).mono ?_⟩
          rintro e w' ⟨v1, rfl, l1, rfl⟩
          obtain ⟨ao1, ac1, rfl⟩ := l1.1.shape
          obtain ⟨m1, hm1⟩ : ∃ m, m = (upf pa s).length := ⟨_, rfl⟩
          rw [← hm1] at l1
          rw [← hm1]
          have M1 := Lib.hid (HM.out.rest0 hDG (.slice ao1 m1 ac1))
          have S1 : Hid (Below B w2 (w2.setCell ⟨W.heap.size, 0, none⟩ (.slice ao1 m1 ac1))) := (Below.refl B w2).setCell (p := ⟨W.heap.size, 0, none⟩) hBD _
          have L1 := Lib.hid (l1.keeps S1.out)
          have NX := Lib.hid (next_any s L1.out.1 OKA.out)
          obtain ⟨q, hq⟩ : ∃ q, q = nxt (upf pa s) s := ⟨_, rfl⟩
          rw [← hq] at NX
          have HQ := Lib.hid hq
          obtain ⟨qx, qe⟩ := q
          simp only at NX
          clear l1 hq hm1
          gi_wp2_with fail
          refine ⟨trivial, (callsIn_wide.2 NX.out).mono ?_⟩
          rintro e w3 ⟨rfl, b3⟩
          have M3 := Lib.hid (M1.out.keeps b3)
          have S3 : Hid (Below B w2 ((w3.setCell ⟨wo.heap.size, 0, none⟩ (.bool qx)).setCell ⟨wo.heap.size + 1, 0, none⟩ (.int .u32 (qe : Int)))) :=
            ((S1.out.trans (b3.mono (Nat.le_trans (by omega) S1.out.size))).setCell (p := ⟨wo.heap.size, 0, none⟩) (by simp; omega) _).setCell (p := ⟨wo.heap.size + 1, 0, none⟩) (by simp; omega) _
          have L3 := Lib.hid (L1.out.keeps ((Below.refl B _).trans ((b3.mono (Nat.le_trans (by omega) S1.out.size)).setCell (p := ⟨wo.heap.size, 0, none⟩) (by simp; omega) (.bool qx) |>.setCell (p := ⟨wo.heap.size + 1, 0, none⟩) (by simp; omega) (.int .u32 (qe : Int)))))
          clear c0 c1 c2 c3 d0 d1 d2 d3 e0 e1 e2 e3
          obtain ⟨⟨c0, c1, c2, c3⟩, ⟨d0, d1, d2, d3⟩, e0, e1, e2, e3⟩ := M3.out.cells
          clear b3
          gi_wp2
          go_roundw
          case rel =>
            have h1 := congrArg Prod.fst HQ.out
            have h2 := congrArg Prod.snd HQ.out
            exact ⟨_, _, _, _, _, _, M3.out.tell0 hDG rfl qx qe, .inr (.inl ⟨by go_num, L3.out, LO.out.keeps S3.out, h1, h2⟩)⟩
          case measure => simp [intOf]
        · have UP := Lib.hid (upFrom_low s lb)
          have LO := Lib.hid la
          obtain ⟨ao, ac, rfl⟩ := la.1.shape
          obtain ⟨bo, bc, rfl⟩ := lb.1.shape
          clear la lb hM
          have HXE := Lib.hid (And.intro hx he)
          clear hx he
          gi_wp2_with fail
          refine ⟨trivial, (callsIn_wide.2 UP.out).mono ?_⟩
          rintro e w' ⟨v1, rfl, l1, rfl⟩
          obtain ⟨ao1, ac1, rfl⟩ := l1.1.shape
          obtain ⟨m1, hm1⟩ : ∃ m, m = (upf pb s).length := ⟨_, rfl⟩
          rw [← hm1] at l1
          rw [← hm1]
          have M1 := Lib.hid (HM.out.rest1 hDG (.slice ao1 m1 ac1))
          have S1 : Hid (Below B w2 (w2.setCell ⟨W.heap.size, 1, none⟩ (.slice ao1 m1 ac1))) := (Below.refl B w2).setCell (p := ⟨W.heap.size, 1, none⟩) hBD _
          have L1 := Lib.hid (l1.keeps S1.out)
          have NX := Lib.hid (next_any s L1.out.1 OKB.out)
          obtain ⟨q, hq⟩ : ∃ q, q = nxt (upf pb s) s := ⟨_, rfl⟩
          rw [← hq] at NX
          have HQ := Lib.hid hq
          obtain ⟨qx, qe⟩ := q
          simp only at NX
          clear l1 hq hm1
          gi_wp2_with fail
          refine ⟨trivial, (callsIn_wide.2 NX.out).mono ?_⟩
          rintro e w3 ⟨rfl, b3⟩
          have M3 := Lib.hid (M1.out.keeps b3)
          have S3 : Hid (Below B w2 ((w3.setCell ⟨wo.heap.size, 1, none⟩ (.bool qx)).setCell ⟨wo.heap.size + 1, 1, none⟩ (.int .u32 (qe : Int)))) :=
            ((S1.out.trans (b3.mono (Nat.le_trans (by omega) S1.out.size))).setCell (p := ⟨wo.heap.size, 1, none⟩) (by simp; omega) _).setCell (p := ⟨wo.heap.size + 1, 1, none⟩) (by simp; omega) _
          have L3 := Lib.hid (L1.out.keeps ((Below.refl B _).trans ((b3.mono (Nat.le_trans (by omega) S1.out.size)).setCell (p := ⟨wo.heap.size, 1, none⟩) (by simp; omega) (.bool qx) |>.setCell (p := ⟨wo.heap.size + 1, 1, none⟩) (by simp; omega) (.int .u32 (qe : Int)))))
          clear c0 c1 c2 c3 d0 d1 d2 d3 e0 e1 e2 e3
          obtain ⟨⟨c0, c1, c2, c3⟩, ⟨d0, d1, d2, d3⟩, e0, e1, e2, e3⟩ := M3.out.cells
          clear b3
          gi_wp2
          go_roundw
          case rel =>
            have h1 := congrArg Prod.fst HQ.out
            have h2 := congrArg Prod.snd HQ.out
            exact ⟨_, _, _, _, _, _, M3.out.tell1 hDG rfl qx qe, .inr (.inr ⟨by go_num, LO.out.keeps S3.out, L3.out, HXE.out, h1, h2⟩)⟩
          case measure => simp [intOf]
        · obtain ⟨T, hT⟩ : ∃ T, T = til a b s := ⟨_, rfl⟩
          have hTl := til_low HA.out HB.out hs
          rw [← hT] at hTl
          have hTm : T = min e f := by rw [hT, he, hf, EA.out, EB.out]; rfl
          have hE : encS a b s = #[.agg #[.int .u32 (s : Int), .int .u32 (T : Int)], .agg #[.bool x, .bool y]] := by
            unfold encS
            rw [← hT, hx, hy, EA.out, EB.out]
          have js2 := HJ.out s _ _ J0.out hM.1
          obtain ⟨fn, tmps, assign, body, hyl, hR⟩ := HY.out s w2 js2 ⟨hs1, hs⟩ (Array.getElem?_eq_some_iff.1 hM.2.1).1
          rw [hE] at hyl
          rw [← hT] at hR
          have HR := Lib.hid hR
          have LA := Lib.hid la
          have LB := Lib.hid lb
          have BB := Lib.hid (BEL.out.trans (hM.below hBD hDlt))
          have MD := Lib.hid hM.2.1
          have FA : Hid (upf (upf pa s) (T + 1) = fil a (T + 1)) := by
            rw [EA.out]
            exact fil_step HA.out hTl.1 (by have : T ≤ e := by omega
                                            rwa [he, EA.out] at this)
          have FB : Hid (upf (upf pb s) (T + 1) = fil b (T + 1)) := by
            rw [EB.out]
            exact fil_step HB.out hTl.1 (by have : T ≤ f := by omega
                                            rwa [hf, EB.out] at this)
          obtain ⟨hT1, hT2⟩ := hTl
          have eT : IntKind.u32.wrap ((T : Int) + 1) = (T : Int) + 1 := by rw [IntKind.wrap_u32]; omega
          clear hM la lb hx he hy hf hT hE js2 hR HY HJ
          have hcase : (e < f ∧ T = e) ∨ (e = f ∧ T = e) ∨ (f < e ∧ T = f) := by omega
          clear hTm
          have fin : ∀ W3 : World, J (T + 1) W3 → Below B w2 W3 → W3.heap[W.heap.size]? = w2.heap[W.heap.size]? → Hid (J (T + 1) W3 ∧ Below B W W3 ∧ ∃ va vb pa pb, W3.heap[W.heap.size]? = some (.cells #[va, vb] 100) ∧ Low B W3 va pa ∧ Low B W3 vb pb ∧ upf pa (T + 1) = fil a (T + 1) ∧ upf pb (T + 1) = fil b (T + 1)) :=
            fun W3 h1 h2 h3 => ⟨h1, BB.out.trans h2, va, vb, _, _, h3.trans MD.out, LA.out.keeps h2, LB.out.keeps h2, FA.out, FB.out⟩
          have FIN := Lib.hid fin
          clear fin
          rcases hcase with ⟨g1, rfl⟩ | ⟨rfl, rfl⟩ | ⟨g1, rfl⟩
          · have g2 : ¬ f < T := by omega
            have g3 : ¬ f ≤ T := by omega
            gi_wp2_with fail
            refine HR.out.mono ?_
            rintro e0 W3 (⟨rfl, hJ3, hb3, hD3⟩ | ⟨rfl, hJx3⟩)
            · have R := FIN.out W3 hJ3 hb3 hD3
              clear hJ3 hb3 hD3
              gi_wp2
              go_roundw
              case rel => exact ⟨T + 1, by omega, by omega, by go_num, R⟩
              case measure => simp [intOf]; omega
            · gi_wp2
              refine bodyPost_ret (results_none rfl _ _ _) rfl ?_
              exact ⟨⟨_, rfl⟩, .inr hJx3⟩
          · skip
            gi_wp2_with fail
            refine HR.out.mono ?_
            rintro e0 W3 (⟨rfl, hJ3, hb3, hD3⟩ | ⟨rfl, hJx3⟩)
            · have R := FIN.out W3 hJ3 hb3 hD3
              clear hJ3 hb3 hD3
              gi_wp2
              go_roundw
              case rel => exact ⟨T + 1, by omega, by omega, by go_num, R⟩
              case measure => simp [intOf]; omega
            · gi_wp2
              refine bodyPost_ret (results_none rfl _ _ _) rfl ?_
              exact ⟨⟨_, rfl⟩, .inr hJx3⟩
          · have g2 : ¬ e < T := by omega
            have g3 : ¬ e ≤ T := by omega
            gi_wp2_with fail
            refine HR.out.mono ?_
            rintro e0 W3 (⟨rfl, hJ3, hb3, hD3⟩ | ⟨rfl, hJx3⟩)
            · have R := FIN.out W3 hJ3 hb3 hD3
              clear hJ3 hb3 hD3
              gi_wp2
              go_roundw
              case rel => exact ⟨T + 1, by omega, by omega, by go_num, R⟩
              case measure => simp [intOf]; omega
            · gi_wp2
              refine bodyPost_ret (results_none rfl _ _ _) rfl ?_
              exact ⟨⟨_, rfl⟩, .inr hJx3⟩
    · obtain rfl : s = 1073741825 := by omega
      gi_wp2
      go_end0
      exact ⟨⟨_, rfl⟩, .inl hrel.1⟩
end Go.Proofs.Ytinglfhndlklaaa.Spans
